/-
  The slow way of ParseFloat answers at a real's text; what ParseFloat does at any real's text. Condition: Go's own tables lie.
-/
import Derived.Test.YtldglmehchkbeaaGreatDoorLexBo
import Derived.Test.YtldglmehchkbeaaGreatDoorLexBn
namespace Go.Proofs.YtldglmehchkbeaaGreatDoor
open Go.RowKit
set_option linter.unusedVariables false
set_option linter.unusedSimpArgs false
namespace LxC
open Lx
set_option maxRecDepth 20000 in
theorem allocDc (w : World) : (Instr.alloc 182 true (.tuple #[])).run Tryz.prog w = .ok (.pointer (some ⟨w.heap.size, 0, none⟩)) (w.alloc (.cells Tryz.zeroCells182 182)) := by kernel_rfl
theorem wp_alloc {P : Program} {id : Nat} {o : Oper} {Q : Exit → Act → World → Prop} {a : Act} {w w2 : World} {v : Value} (t : TypeId) (hgd : o.guard = none) (ho : o.op = .alloc t)
    (hr : (Instr.alloc t true (.tuple #[])).run P w = .ok v w2) (h : Q .normal (a.put o.dst v) w2) : (Code.region id #[o] false).wp P Q a w := by
  refine wp_region_lit (l := [o]) (wpList_plain hgd fun K hK => ?_)
  unfold Oper.wp execOp
  simp only [ho, Sem.run_bind, Sem.run_pure, Result.andThen_ok, hr]
  exact hK _ _ (wpList_nil h)
set_option maxRecDepth 100000 in
set_option maxHeartbeats 16000000 in
theorem floatBits0_ (w : World) (G : Nat) (c : Nat → Nat) (dp : Int) (ng tr : Bool) (h : DcAt w G c 0 dp ng tr) (hT : TblAt G w) :
    Calls Tryz.prog 150 #[.pointer (some ⟨G, 0, none⟩), .pointer (some ⟨6, 0, none⟩)] w (BitsPost G w) := by
  have k0 := h.nd_
  have k2 := h.ng_
  have hi := hT.info
  have i0 := hi.mant
  have i1 := hi.exp
  have i2 := hi.bias
  have i0' : ∀ n, (w.drewN n).cell? ⟨6, 0, none⟩ = some (.int .u64 52) := fun _ => i0
  have i1' : ∀ n, (w.drewN n).cell? ⟨6, 1, none⟩ = some (.int .u64 11) := fun _ => i1
  have i2' : ∀ n, (w.drewN n).cell? ⟨6, 2, none⟩ = some (.int .i64 (-1023)) := fun _ => i2
  have k2' : ∀ n, (w.drewN n).cell? ⟨G, 802, none⟩ = some (.bool ng) := fun _ => k2
  clear h hT hi
  cases ng
  all_goals
    go_enter Tryz.func150, Tryz.ntmps150
    go_wp2
    refine wp_scope_fwd fun F hgo hret hnorm => ?_
    go_wp2
    go_step3
    refine hgo _ _ _ _ rfl ?_
    go_wp2
    go_quiet (fail)
    go_wp2
    try (go_quiet (fail); go_wp2)
    rw [Exit.noGoto_ret]
    go_ret2
    exact ⟨⟨_, _, rfl⟩, by repeat (first | exact Below.refl _ _ | refine below_draws ?_ _)⟩
theorem slow_ {s : ByteArray} {a b : Nat} {w : World} (hR : RealT s a b) (hI : Info w) (hP : Pows w) (hC : Cheats w) : Slow w.heap.size w s := by
  refine ⟨fun W G => ∃ (c : Nat → Nat) (nd : Nat) (dp : Int) (tr : Bool), DcAt W G c nd dp false tr ∧ Vz c nd ∧ -1000000 ≤ dp ∧ dp ≤ 1000000, fun W G hG hb hx => ?_, fun W G hG hb ⟨c, nd, dp, tr, h1, h2, h3, h4⟩ => ?_⟩
  · refine (set_ s a b W G hR (DcAt.zero hx)).mono ?_
    rintro e w' ⟨rfl, h1, h2⟩
    exact ⟨rfl, h1, hb.trans (h2.mono hG)⟩
  · have hT : TblAt G W := ⟨w, hG, hI, hP, hC, hb⟩
    rcases h2 with rfl | h2
    · refine (floatBits0_ W G c dp false tr h1 hT).mono ?_
      rintro e w' ⟨h1, h2⟩
      exact ⟨h1, hb.trans (h2.mono hG)⟩
    · refine (floatBits_ W G nd c dp false tr h1 h2 hT h3 h4).mono ?_
      rintro e w' ⟨h1, h2⟩
      exact ⟨h1, hb.trans (h2.mono hG)⟩
attribute [local go_sem] run_from run_bits
theorem pack64e_ (m e : Int) (w : World) : Calls Tryz.prog 172 #[.int .u64 m, .int .i64 e] w fun r w' => (∃ (f : Nat) (v : Value), (v = .nilIface ∨ v = .iface 143 (.int .i64 1)) ∧ r = .returned (.tuple #[.float .f64 f, v])) ∧ w = w' := by
  go_enter Tryz.func172, Tryz.ntmps172
  go_wp2
  all_goals
    go_ret2
    first
      | exact ⟨⟨_, _, .inl rfl, rfl⟩, rfl⟩
      | exact ⟨⟨_, _, .inr rfl, rfl⟩, rfl⟩
set_option maxRecDepth 100000 in
set_option maxHeartbeats 8000000 in
theorem parseFloat64e_ (d : Nat) (p sg : Int) (w : World) (hd : d < 18446744073709551616) (hp1 : -345 ≤ p) (hp2 : p ≤ 310) (hT : Tab w) (hg : 11 < w.heap.size) :
    Calls Tryz.prog 154 #[.int .u64 (d : Int), .int .i64 p, .int .u64 sg] w fun e w' => (∃ (f : Nat) (v : Value), (v = .nilIface ∨ v = .iface 143 (.int .i64 1)) ∧ e = .returned (.tuple #[.float .f64 f, v])) ∧ Below w.heap.size w w' := by
  have c1 := len64_ (d : Int) w (by omega) (by omega)
  have hx := heap_alloc_new w (.cells #[.int .u64 0, .int .u64 0, .int .i64 0] 199)
  have hb0 : Below w.heap.size w (w.alloc (.cells #[.int .u64 0, .int .u64 0, .int .i64 0] 199)) := (Below.refl _ _).alloc (Nat.le_refl _) _
  have hT2 : Tab (w.alloc (.cells #[.int .u64 0, .int .u64 0, .int .i64 0] 199)) := by
    intro i hi
    obtain ⟨x, y, h1, h2, h3, h4⟩ := hT i hi
    exact ⟨x, y, h1, h2, (hb0.cell hg).trans h3, (hb0.cell hg).trans h4⟩
  have c3 := fun e lp => prescale_ w.heap.size e p lp (w.alloc (.cells #[.int .u64 0, .int .u64 0, .int .i64 0] 199)) hT2 hp1 hp2 (by omega) hx
  have HB0 := Lib.hid hb0
  clear hx hb0 hT2 hT hp1 hp2 hd
  go_enter Tryz.func154, Tryz.ntmps154
  go_wp2_with (first
    | ((with_reducible refine c1.mono ?_); rintro e w1 ⟨⟨b, hb, rfl⟩, rfl⟩; have hb1 : (0 : Int) ≤ 64 - (b : Int) := by omega)
    | (go_at_call 163; refine (log2_ _ _).mono ?_; rintro e w1 ⟨⟨lp, rfl⟩, rfl⟩)
    | ((with_reducible refine (c3 _ _).mono ?_); rintro e w2 ⟨rfl, ⟨x, y, s, hS⟩, hb2⟩; have k2 : w2.cell? ⟨w.heap.size, 2, none⟩ = some (.int .i64 s) := Lib.cell_of_heap hS.blk 2; have HS := Lib.hid hS; have HB2 := Lib.hid (HB0.out.trans hb2); clear hS hb2)
    | (go_at_call 165; refine (uscale_i _ _ x y s _ (wrap_u64_bd _) HS.out).mono ?_; rintro e w3 ⟨⟨u, rfl⟩, k, rfl⟩)
    | (go_at_call 167; refine (unmin_ _).mono ?_; rintro e w4 ⟨⟨um, rfl⟩, rfl⟩)
    | (go_at_call 166; refine (bool2i_ _ _).mono ?_; rintro e w5 ⟨rfl, rfl⟩)
    | (go_at_call 169; refine (round_ _ _).mono ?_; rintro e w6 ⟨⟨rd, rfl⟩, rfl⟩)
    | (go_at_call 172; refine (pack64e_ _ _ _).mono ?_; rintro e w7 ⟨⟨f, v, hv, rfl⟩, rfl⟩))
  · go_ret2
    exact ⟨⟨_, _, .inl rfl, rfl⟩, HB2.out⟩
  · go_ret2
    exact ⟨⟨f, v, hv, rfl⟩, below_draws HB2.out k⟩
def AtofPost (s : ByteArray) (w : World) (e : Ending) (w' : World) : Prop := (∃ (f : Nat) (v : Value), (v = .nilIface ∨ v = .iface 143 (.int .i64 1)) ∧ e = .returned (.tuple #[.float .f64 f, .int .i64 (s.size : Int), v])) ∧ Below w.heap.size w w'
set_option maxRecDepth 100000 in
set_option maxHeartbeats 16000000 in
theorem atof64_ (s : ByteArray) (a b : Nat) (w : World) (hR : RealT s a b) (hi : Laid w) (hT : Tab w) (hg : 11 < w.heap.size) (hS : Slow w.heap.size w s) :
    Calls Tryz.prog 140 #[.string s] w (AtofPost s w) := by
  have ho := hi.opt
  have c1 := special_ s a b w hR
  have c2 := readFloat_ s a b w hR
  obtain ⟨P, hS1, hS2⟩ := hS
  have c3 := fun m p => exact_ m p w hi
  have c4 := fun (d : Nat) (p : Int) (hd : d < 18446744073709551616) (h1 : -345 ≤ p) (h2 : p ≤ 310) (W : World) (hW : Below w.heap.size w W) => parseFloat64e_ d p 0 W hd h1 h2 (fun i hi => by
    obtain ⟨x, y, a1, a2, a3, a4⟩ := hT i hi
    exact ⟨x, y, a1, a2, (hW.cell hg).trans a3, (hW.cell hg).trans a4⟩) (Nat.lt_of_lt_of_le hg hW.size)
  have C4 := Lib.hid c4
  have HS1 := Lib.hid hS1
  have HS2 := Lib.hid hS2
  clear c4 hS1 hS2 hR hi hT
  go_enter Tryz.func140, Tryz.ntmps140
  go_wp2_with (first
    | ((with_reducible refine c1.mono ?_); rintro e w1 ⟨rfl, rfl⟩)
    | ((with_reducible refine c2.mono ?_); rintro e w1 ⟨⟨m, p, tr, hm, hp1, hp2, rfl⟩, rfl⟩; clear c2))
  refine (bool2u_ _ _).mono ?_
  rintro e w1 ⟨rfl, rfl⟩
  by_cases hm0 : m = 0
  · subst hm0
    go_wp2
    go_ret3
    exact ⟨⟨_, _, .inl rfl, rfl⟩, Below.refl _ _⟩
  have M0 : ((m : Int) == 0) = false := by rw [beq_eq_false_iff_ne]; omega
  clear hm0
  by_cases hpa : p > 310
  · go_wp2
    go_ret3
    exact ⟨⟨_, _, .inr rfl, rfl⟩, Below.refl _ _⟩
  by_cases hpb : p < -345
  · go_wp2
    go_ret3
    exact ⟨⟨_, _, .inl rfl, rfl⟩, Below.refl _ _⟩
  have cA : ∀ W, Below w1.heap.size w1 W → Calls Tryz.prog 154 #[.int .u64 (m : Int), .int .i64 p, .int .u64 0] W _ := fun W hW => C4.out m p (by omega) (by omega) (by omega) W hW
  have cB : ∀ W, Below w1.heap.size w1 W → Calls Tryz.prog 154 #[.int .u64 ((m : Int) + 1), .int .i64 p, .int .u64 0] W _ := fun W hW => C4.out (m + 1) p (by omega) (by omega) (by omega) W hW
  cases tr
  · clear cB
    go_wp2_with (first
      | ((with_reducible refine (c3 _ _).mono ?_); rintro e w2 ⟨⟨f0, ok, rfl⟩, k, rfl⟩)
      | ((with_reducible refine (cA _ (below_draws (Below.refl _ _) _)).mono ?_); rintro e w3 ⟨⟨f1, v1, hv1, rfl⟩, hb3⟩; have HB3 := Lib.hid hb3; have HV1 := Lib.hid hv1; clear hb3 hv1))
    · go_ret3
      exact ⟨⟨_, _, .inl rfl, rfl⟩, below_draws (Below.refl _ _) _⟩
    · go_ret3
      exact ⟨⟨_, _, HV1.out, rfl⟩, (below_draws (Below.refl _ _) k).trans HB3.out⟩
  · have w2 : IntKind.u64.wrap ((m : Int) + 1) = (m : Int) + 1 := u64w _ (by omega) (by omega)
    go_wp2_with (first
      | ((with_reducible refine (cA _ (Below.refl _ _)).mono ?_); rintro e w3 ⟨⟨f1, v1, hv1, rfl⟩, hb3⟩; have HB3 := Lib.hid hb3; have HV1 := Lib.hid hv1; clear hb3 hv1)
      | ((with_reducible refine (cB _ HB3.out).mono ?_); rintro e w4 ⟨⟨f2, v2, hv2, rfl⟩, hb4⟩; have HB4 := Lib.hid hb4; clear hb4 hv2))
    · go_ret3
      exact ⟨⟨_, _, HV1.out, rfl⟩, HB3.out.trans (HB4.out.mono HB3.out.size)⟩
    · have HB5 : Hid (Below w1.heap.size w1 w4) := HB3.out.trans (HB4.out.mono HB3.out.size)
      have cS := HS1.out (w4.alloc (.cells Tryz.zeroCells182 182)) w4.heap.size HB5.out.size (HB5.out.alloc HB5.out.size _) (heap_alloc_new w4 _)
      refine cS.mono ?_
      rintro e w5 ⟨rfl, hP, hb5⟩
      have cF := HS2.out w5 w4.heap.size HB5.out.size hb5 hP
      clear cS hP hb5 cA cB C4 HS1 HS2 w2
      go_wp2_with ((with_reducible refine cF.mono ?_); rintro e w6 ⟨⟨x, ov, rfl⟩, hb6⟩; have HB6 := Lib.hid hb6; clear hb6)
      all_goals
        go_ret3
        first
          | exact ⟨⟨_, _, .inl rfl, rfl⟩, HB6.out⟩
          | exact ⟨⟨_, _, .inr rfl, rfl⟩, HB6.out⟩
def FltPost (w : World) (e : Ending) (w' : World) : Prop := (∃ (f : Nat) (v : Value), (v = .nilIface ∨ v = .iface 143 (.int .i64 1)) ∧ e = .returned (.tuple #[.float .f64 f, v])) ∧ Below w.heap.size w w'
/-- what ParseFloat asks of the world -/
structure Tbls (w : World) : Prop where
  laid : Laid w
  tab : Tab w
  big : 11 < w.heap.size
  info : Info w
  pows : Pows w
  cheats : Cheats w
  rng : ∃ ev, w.cell? ⟨2, 0, none⟩ = some ev ∧ (ev = .nilIface ∨ ∃ te pe, ev = .iface te pe)
theorem inner_ (s : ByteArray) (a b : Nat) (w : World) (hR : RealT s a b) (hT : Tbls w) :
    Calls Tryz.prog 129 #[.string s, .int .i64 64] w (FltPost w) := by
  have c1 := atof64_ s a b w hR hT.laid hT.tab hT.big (slow_ hR hT.info hT.pows hT.cheats)
  have cP : Calls Tryz.prog 136 #[.string s, .int .i64 64] w (AtofPost s w) := by
    clear hT hR
    go_enter Tryz.func136, Tryz.ntmps136
    go_wp2_with ((with_reducible refine c1.mono ?_); rintro e w' ⟨⟨f, v, hv, rfl⟩, hb⟩; have HV := Lib.hid hv; have HB := Lib.hid hb; clear hv hb)
    go_ret3
    exact ⟨⟨f, v, HV.out, rfl⟩, HB.out⟩
  have hz := hR.s40
  clear hT hR c1
  go_enter Tryz.func129, Tryz.ntmps129
  go_wp2_with ((with_reducible refine cP.mono ?_); rintro e w' ⟨⟨f, v, hv, rfl⟩, hb⟩; have HV := Lib.hid hv; have HB := Lib.hid hb; clear hv hb)
  go_ret2
  exact ⟨⟨f, v, HV.out, rfl⟩, HB.out⟩
def OutPost (w : World) (e : Ending) (w' : World) : Prop := (∃ (f : Nat) (v : Value), e = .returned (.tuple #[.float .f64 f, v])) ∧ Below w.heap.size w w'
theorem outer_ (s : ByteArray) (a b : Nat) (w : World) (hR : RealT s a b) (hT : Tbls w) :
    Calls Tryz.prog 113 #[.string s, .int .i64 64] w (OutPost w) := by
  have c1 := inner_ s a b w hR hT
  have hz := hR.s40
  obtain ⟨ev, he, hev⟩ := hT.rng
  have hlt := cell_in he
  have HE := Lib.hid he
  have HEV := Lib.hid hev
  clear hT hR he hev
  go_enter Tryz.func113, Tryz.ntmps113
  go_wp2_with ((with_reducible refine c1.mono ?_); rintro e w1 ⟨⟨f, v, hv, rfl⟩, hb⟩; have HB := Lib.hid hb; have ct := fun fn ba bi => Tryz.strconv_toError_range fn s ba bi ev w1 (by omega) ((HB.out.cell (p := ⟨2, 0, none⟩) hlt).trans HE.out) HEV.out; clear hb; rcases hv with rfl | rfl)
  · go_ret2
    exact ⟨⟨f, _, rfl⟩, HB.out⟩
  · refine (ct _ _ _).mono ?_
    rintro e w2 ⟨N, rfl, hN, hblk, hb2⟩
    have HB2 := Lib.hid hb2
    clear hblk hb2 ct
    go_wp2
    go_ret2
    exact ⟨⟨f, _, rfl⟩, HB.out.trans (HB2.out.mono HB.out.size)⟩
theorem parse_ (s : ByteArray) (w : World) (hs : isReal s.data.toList = true) (hT : Tbls w) :
    Calls Tryz.prog 105 #[.string s] w fun e w' => ∃ v : Int, e = .returned (.tuple #[.int .u64 v, .int .i64 0]) ∧ Below w.heap.size w w' := by
  obtain ⟨a, b, hR⟩ := realT hs
  have hz : s.size ≤ 40 := hR.s40
  have c1 := fun w => isText_ s w (by first | omega | (unfold maxLen; omega))
  rw [hs] at c1
  have c2 := outer_ s a b w hR hT
  clear hT hR hs
  go_enter Tryz.func105, Tryz.ntmps105
  go_wp2_with (first
    | (go_at_call 112; refine (c1 _).mono ?_; rintro e w' ⟨rfl, rfl⟩)
    | ((with_reducible refine c2.mono ?_); rintro e w' ⟨⟨f, v, rfl⟩, hb⟩; have HB := Lib.hid hb; clear hb)
    | (go_at_call 114; refine (bits_ _ _).mono ?_; rintro e w' ⟨⟨v, rfl⟩, rfl⟩))
  go_ret2
  exact ⟨_, rfl, HB.out⟩
theorem Tbls.below {w w' : World} (h : Tbls w) (hb : Below w.heap.size w w') : Tbls w' := by
  obtain ⟨h1, h2, h3, h4, h5, h6, ev, h7, h8⟩ := h
  refine ⟨h1.below hb (Nat.le_refl _), fun i hi => ?_, Nat.lt_of_lt_of_le h3 hb.size, (TblAt.later ⟨w, Nat.le_refl _, h4, h5, h6, Below.refl _ _⟩ hb).info, (TblAt.later ⟨w, Nat.le_refl _, h4, h5, h6, Below.refl _ _⟩ hb).pows, (TblAt.later ⟨w, Nat.le_refl _, h4, h5, h6, Below.refl _ _⟩ hb).cheats, ev, (hb.cell (cell_in h7)).trans h7, h8⟩
  obtain ⟨x, y, a1, a2, a3, a4⟩ := h2 i hi
  exact ⟨x, y, a1, a2, (hb.cell h3).trans a3, (hb.cell h3).trans a4⟩
/-- real.Parse answers at every real's text -/
theorem parseAt_ {w : World} (hT : Tbls w) (s : ByteArray) (hs : isReal s.data.toList = true) : ParseAt w.heap.size w s :=
  fun W h1 h2 => parse_ s W hs (hT.below h2)
end LxC
end Go.Proofs.YtldglmehchkbeaaGreatDoor
