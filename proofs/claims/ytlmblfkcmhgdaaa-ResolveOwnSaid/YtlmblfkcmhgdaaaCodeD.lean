/-
  What package code's Decode answers, a contract. Conditions: the word is of 32 bits.
-/
import Derived.Test.YtlmblfkcmhgdaaaCodeE
import Derived.Laws.CopyOwn
namespace Go.Proofs.Ytlmblfkcmhgdaaa
open Go.RowKit
set_option linter.unusedVariables false
set_option linter.unusedSimpArgs false
namespace CD
open CC CW CI CV CF CE
/-- what a word's Decode answers: the parts by its Op, or nothing -/
def dOp (x : Int) : Int := CM.dec x
def dRd (x : Int) : Int := if CM.dec x = 0 then 0 else CM.rdOf (CM.kd (CM.dec x)) x
def dRs1 (x : Int) : Int := if CM.dec x = 0 then 0 else CM.rs1Of (CM.kd (CM.dec x)) x
def dRs2 (x : Int) : Int := if CM.dec x = 0 then 0 else CM.rs2Of (CM.kd (CM.dec x)) x
def dImm (x : Int) : Int := if CM.dec x = 0 then 0 else CM.immOf (CM.kd (CM.dec x)) x
def dE (x : Int) : Int := if CM.dec x = 0 then 2 else 0
theorem formD_key {x : Int} {y : DataW Unit} (h : Maps.has forms (.int .i64 x) = true) (hat : ∀ zd, forms.atKey (.int .i64 x) zd = y) : CM.isOp x = true ∧ y = formD (CM.kd x) (CM.o7 x) (CM.f3 x) (CM.f7 x) := by
  rw [has_forms] at h
  exact ⟨h, (hat (.map [])).symm.trans (at_forms x h _)⟩
/-- the result's zeros, and all that was there -/
structure Rd (w wr : World) : Prop where
  hr : wr.heap[w.heap.size]? = some (.cells #[.int .i64 0, .int .i64 0, .int .i64 0, .int .i64 0, .int .i64 0] 73 (0, 0))
  below : Below w.heap.size w wr
theorem Rd.trans {w wr wx : World} (g : Rd w wr) (hb : Below wr.heap.size wr wx) : Rd w wx := ⟨(hb.block _ (lt_of_get g.hr)).trans g.hr, g.below.trans (hb.mono g.below.size)⟩
theorem grown_of {w w' : World} (h : Below w.heap.size w w') : w.grownBy w' none := ⟨h.os, h.tape, h.output, h.size, fun i hi _ => h.block i hi⟩
theorem Rd.next {w wr wx : World} {r : Nat} (g : Rd w wr) (hg : wr.grownBy wx (some r)) (hr : w.heap.size < r) : Rd w wx :=
  ⟨(hg.block _ (lt_of_get g.hr) (fun e => by cases e; omega)).trans g.hr, g.below.grown hg g.below.size (fun k hk => by cases hk; omega)⟩
theorem rd_start {w w1 w2 : World} {z : Obj} (hz : z = .cells #[.int .i64 0, .int .i64 0, .int .i64 0, .int .i64 0, .int .i64 0] 73) (hb : Below (w.alloc z).heap.size (w.alloc z) w1) (hg : w1.grownBy w2 none) : Rd w w2 := by
  have s1 := hb.size
  simp only [World.size_alloc] at s1
  refine ⟨?_, ?_⟩
  · rw [hg.block _ (by omega) (by simp), hb.block _ (by simp only [World.size_alloc]; omega)]
    subst hz
    exact newAt _ _ _ rfl
  · exact (((box0 w z).trans (hb.mono (by simp only [World.size_alloc]; omega)))).grown hg (by omega) (fun k hk => by cases hk)
theorem bdrewN {B : Nat} {a w : World} (h : Below B a w) (m : Nat) : Below B a (w.drewN m) := ⟨h.os, h.tape, h.output, h.size, h.block⟩
theorem full7 (w : World) : Calls Try.prog 33 #[.int .i64 7] w fun e w' => e = .returned (.int .u32 127) ∧ w' = w := (full 7 (by omega) (by omega) w).mono fun _ _ h => ⟨h.1, h.2.symm⟩
theorem mask7 (x : Int) (hx0 : 0 ≤ x) (hx1 : x < 4294967296) : bits .and .u32 x 127 = x % 128 := CX.and_mask x 7 ⟨hx0, hx1⟩ (by omega)
theorem invK (key : Value) (kl : Lit) (h : keyOf Try.prog 3 key = some kl) : ∃ x, key = Value.int .i64 x := by
  obtain ⟨x, rfl, _⟩ := Maps.keyOf_int_inv Try.underlying3 h
  exact ⟨x, rfl⟩
def mkF (t : Int × Int × Int × Int) : Value := formV t.1 t.2.1 t.2.2.1 t.2.2.2
theorem invF (v : Value) (y : DataW Unit × List MemPlace) (h : formR v = some y) : ∃ t, v = mkF t := by
  obtain ⟨a, b, c, d, rfl, _⟩ := formR_inv h
  exact ⟨(a, b, c, d), rfl⟩
/-- an entry that comes is a row of the table -/
theorem entry_is {k : Int} {t : Int × Int × Int × Int} {kl : Lit} {y : DataW Unit × List MemPlace} (hkey : keyOf Try.prog 3 (.int .i64 k) = some kl) (hR : formR (mkF t) = some y) (hat : ∀ zd, forms.atKey kl zd = y.1) :
    kl = .int .i64 k ∧ CM.isOp k = true ∧ t = (CM.kd k, CM.o7 k, CM.f3 k, CM.f7 k) := by
  obtain ⟨x, e, rfl, _⟩ := Maps.keyOf_int_inv Try.underlying3 hkey
  cases e
  have hh := Maps.has_true_of_atKey hat
  rw [has_forms] at hh
  have h1 := hat (.map [])
  rw [at_forms k hh] at h1
  have h2 : y = (formD t.1 t.2.1 t.2.2.1 t.2.2.2, []) := (Option.some.inj hR).symm
  rw [h2] at h1
  obtain ⟨e1, e2, e3, e4⟩ := formD_inj h1
  obtain ⟨t1, t2, t3, t4⟩ := t
  exact ⟨rfl, hh, by simp at e1 e2 e3 e4; rw [e1, e2, e3, e4]⟩
theorem fin_ {Q : Ending → World → Prop} (op e : Int) (V : Nat → Int) {tmps : Array Value} {n : Nat} {w : World}
    (hp : tmps.getD 2 undef = .pointer (some ⟨n, 0, none⟩)) (h3 : tmps.getD 3 undef = .int .i64 e) (hg : w.heap[n]? = some (.cells #[.int .i64 0, .int .i64 0, .int .i64 0, .int .i64 0, .int .i64 0] 73 (0, 0))) (hQ : Q (.returned (.tuple #[.agg (ia op V), .int .i64 e])) (w.setRow n (ia op V))) :
    bodyPost Try.prog Try.f30 Q .ret { tmps := tmps, defers := [] } (w.setRow n (ia op V)) := by
  refine bodyPost_ret (v := .tuple #[.agg (ia op V), .int .i64 e]) ?_ rfl hQ
  have hp' : tmps[2]?.getD undef = .pointer (some ⟨n, 0, none⟩) := by simpa using hp
  have h3' : tmps[3]?.getD undef = .int .i64 e := by simpa using h3
  have hl := run_loadVar_row (P := Try.prog) (w.setRow n (ia op V)) n 73 73 (ia op V) (0, 0) _ (setRow_heap _ _ _ _ _ _ hg) Try.underlying73 rfl (CI.size5 op V)
  simp [results, Try.results30, hp', h3', asAddr, hl]
theorem after {w4 w5 : World} {C : Array Value} {t : TypeId} (hb5 : Below (w4.alloc (.cells C t)).heap.size (w4.alloc (.cells C t)) w5) : w5.heap[w4.heap.size]? = some (.cells C t (0, 0)) := by
  rw [hb5.block _ (by simp only [World.size_alloc]; omega)]
  exact newAt _ _ _ rfl
theorem bl3 {w3 w4 w5 : World} {o o' : Obj} {m : Nat} (hb4 : Below ((w3.alloc o).drewN m).heap.size ((w3.alloc o).drewN m) w4) (hb5 : Below (w4.alloc o').heap.size (w4.alloc o') w5) : Below w3.heap.size w3 w5 := by
  have s4 := hb4.size
  simp only [World.size_alloc, World.heap_drewN] at s4
  have h45 : Below w4.heap.size w4 w5 := (box0 w4 o').trans (hb5.mono (by simp only [World.size_alloc]; omega))
  exact ((bdrewN (box0 w3 o) m).trans (hb4.mono (by simp only [World.size_alloc, World.heap_drewN]; omega))).trans (h45.mono (by omega))
set_option maxHeartbeats 8000000 in
theorem decode_ (x : Int) (hx0 : 0 ≤ x) (hx1 : x < 4294967296) (w : World) : Calls Try.prog 30 #[.int .u32 x] w fun e w' =>
    e = .returned (.tuple #[.agg (iv (dOp x) (dRd x) (dRs1 x) (dRs2 x) (dImm x)), .int .i64 (dE x)]) ∧ Below w.heap.size w w' := by
  have hmask := mask7 x hx0 hx1
  go_enter Try.func30, Try.ntmps30
  go_wp2_with (first
    | (go_at_call 32; refine (forms_ _).mono ?_; rintro e w1 ⟨b, rfl, S⟩)
    | (at_range; refine wpList_range_own _ rfl _ 79 rfl 3 82 keyed Try.underlying79 _ b 55 forms rfl S.own ?_; intro w2 hrg hg hs))
  go_frame
  have g := rd_start rfl S.below hg
  have hr : w.heap.size < w1.heap.size := by have := S.below.size; simp only [World.size_alloc] at this; omega
  clear S hg hs
  generalize w1.heap.size = r at *
  go_loopw [5] (fun _ wr => ∃ (left : Lit → Bool) (cnt : Nat), wr.ranges Try.prog 3 formR b r 55 forms left cnt ∧ Hid (∀ op, CM.isOp op = true → left (.int .i64 op) = false → CM.hit op x = false) ∧ Rd w wr) (fun _ wr => wr.rangeLeft b r)
  case atStart => exact ⟨_, _, hrg, Lib.hid (fun op h h' => by rw [has_forms, h] at h'; cases h'), g⟩
  case round =>
    clear g hrg
    obtain ⟨left, cnt, hrg, hh, g⟩ := hrel
    go_wp2_with (at_next; refine wpList_next_ranges _ rfl _ rfl 3 keyed formR (Value.int .i64) mkF invK invF b r 55 _ _ _ rfl hrg ?_ ?_)
    · intro _ hl0
      have H0 := CM.dec_none (w := x) (fun op => by
        cases h : CM.isOp op with
        | true => exact hh.out op h (hl0 _)
        | false => simp [CM.hit, h])
      have HV : Hid (iv (dOp x) (dRd x) (dRs1 x) (dRs2 x) (dImm x) = ia 0 (fun _ => 0) ∧ dE x = 2) := Lib.hid ⟨by simp [dOp, dRd, dRs1, dRs2, dImm, H0, iv, ia], by simp [dE, H0]⟩
      clear H0 hl0
      go_wp2_with ((with_reducible refine CI.store5 rfl (.tmp 2) (.tmp 30) rfl w.heap.size 0 (fun _ => 0) ?za ?zb g.hr ?_); (case za => simp [go_sem]); (case zb => simp [go_sem, ia]))
      go_simp
      refine fin_ 0 2 (fun _ => 0) ?_ ?_ g.hr ?_
      · rfl
      · rfl
      · exact ⟨by rw [HV.out.1, HV.out.2], below_setRow g.below (Nat.le_refl _) _⟩
    · intro op ta tb tc td kl y1 y2 w3 cnt3 hkey hleft hR hat hrg3 hlt hg3 hs3 hen
      obtain ⟨rfl, hop, ht⟩ := entry_is (t := (ta, tb, tc, td)) (y := (y1, y2)) hkey hR hat
      have g3 := g.next hg3 hr
      have hm := Lib.hid (show cnt3 < wr.rangeLeft b r by rw [hrg.left_eq]; exact hlt)
      clear hg3 g hrg hlt hleft hkey hR hat hs3
      simp only [Prod.mk.injEq] at ht
      obtain ⟨rfl, rfl, rfl, rfl⟩ := ht
      have hft := CM.ft_row hop
      obtain ⟨k0, k1⟩ : 0 ≤ CM.kd op ∧ CM.kd op ≤ 10 := by have := CM.kinds hft; omega
      have hlen := Lib.hid (CX.len60 k0 k1)
      have hxx : 0 ≤ x ∧ x < 4294967296 := ⟨hx0, hx1⟩
      have ci := fun w => CI.instr_ (CM.kd op) (CM.o7 op) (CM.f3 op) (CM.f7 op) op x k0 k1 hx0 hx1 hlen w
      have cw := fun w => word_ (CM.kd op) (CM.o7 op) (CM.f3 op) (CM.f7 op) op (CM.rdOf (CM.kd op) x) (CM.rs1Code (CM.kd op) x) (CM.rs2Of (CM.kd op) x) (CM.immOf (CM.kd op) x) k0 k1 hlen w
      rw [CX.word_all hft (CM.code_good hft hx0 hx1), ← CX.parts_all hft hxx] at cw
      have hres := Lib.hid (show CM.hit op x = true → iv (dOp x) (dRd x) (dRs1 x) (dRs2 x) (dImm x) = ia op (Vn (CM.uv (CM.kd op)) x 4 0) ∧ dE x = 0 from fun h => by
        have hd := CM.dec_hit h hx0 hx1
        have hb := CM.isOp_yes hop
        have hz : ¬ op = 0 := by omega
        rw [CX.parts_all hft hxx, CM.code_rs1 hop hx0 hx1 (CM.hit_op h).2]
        simp [dOp, dRd, dRs1, dRs2, dImm, dE, hd, hz])
      have hlow := Lib.hid (show ¬ x % 128 = CM.o7 op → CM.hit op x = false from fun h => by
        cases hh : CM.hit op x with
        | true => exact absurd (CM.hit_low hh hx0 hx1) h
        | false => rfl)
      have hag := Lib.hid (show CM.againCode op x = x ↔ CM.hit op x = true from (CM.code_same hop hx0 hx1).trans ⟨fun h => by simp [CM.hit, hop, h], fun h => (CM.hit_op h).2⟩)
      have hnext := Lib.hid (show CM.hit op x = false → ∀ op', CM.isOp op' = true → (left (.int .i64 op') && !(Lit.int .i64 op').sameKey (.int .i64 op)) = false → CM.hit op' x = false from fun h op' ho hl => by
        by_cases e : op' = op
        · rw [e]; exact h
        · refine hh.out op' ho ?_
          have e2 : (Lit.int .i64 op').sameKey (.int .i64 op) = false := by simp [Lit.sameKey, e]
          rw [e2] at hl; simpa using hl)
      clear hft hxx hh hop
      have HG : Hid (CM.againCode op x = CM.word (CM.kd op) (CM.o7 op) (CM.f3 op) (CM.f7 op) (CM.rdOf (CM.kd op) x) (CM.rs1Code (CM.kd op) x) (CM.rs2Of (CM.kd op) x) (CM.immOf (CM.kd op) x)) := Lib.hid rfl
      rw [← HG.out] at cw
      clear HG
      generalize CM.againCode op x = A at *
      generalize Vn (CM.uv (CM.kd op)) x 4 0 = V at *
      generalize CM.kd op = k at *
      generalize CM.o7 op = o at *
      generalize CM.f3 op = a at *
      generalize CM.f7 op = c at *
      unfold mkF formV at hen
      by_cases hlo : x % 128 = o
      · by_cases hA : A = x
        · have hV := Lib.hid (hres.out (hag.out.1 hA))
          have hA' : (A == x) = true := by simp [hA]
          clear hA hres hag hnext hlow
          go_wp2
          go_quiet ((go_at_call 33; exact Calls.quiet_of_same (full7 _)))
          go_wp2_with (first
          | (go_at_call 34; refine (ci _).mono ?_; rintro e w4 ⟨rfl, hb4⟩; have s4 := hb4.size; simp only [World.size_alloc, World.heap_drewN] at s4; have z4 : w3.heap.size < w4.heap.size := (by omega); have q0 := hb4.cell (p := ⟨w3.heap.size, 0, none⟩) (by (simp only [World.size_alloc, World.heap_drewN]; omega)); have q1 := hb4.cell (p := ⟨w3.heap.size, 1, none⟩) (by (simp only [World.size_alloc, World.heap_drewN]; omega)); have q2 := hb4.cell (p := ⟨w3.heap.size, 2, none⟩) (by (simp only [World.size_alloc, World.heap_drewN]; omega)); have q3 := hb4.cell (p := ⟨w3.heap.size, 3, none⟩) (by (simp only [World.size_alloc, World.heap_drewN]; omega)))
          | ((with_reducible refine CI.store5 rfl (.tmp 6) (.tmp 23) rfl w4.heap.size op V ?xa1 ?xa2 ?xa3 ?_); (case xa1 => simp [go_sem]); (case xa2 => simp [go_sem]); (case xa3 => exact newAt _ _ _ rfl); rw [World.setRow_alloc_new])
          | ((with_reducible refine CI.load5 rfl (.tmp 6) rfl w4.heap.size op V ?xa4 ?xa5 ?_); (case xa4 => simp [go_sem]); (case xa5 => exact newAt _ _ _ rfl))
          | (go_at_call 35; refine (cw _).mono ?_; rintro e w5 ⟨rfl, hb5⟩; have H5 := Lib.hid (after hb5))
          | ((with_reducible refine CI.load5 rfl (.tmp 6) rfl w4.heap.size op V ?xa6 H5.out ?_); (case xa6 => simp [go_sem]))
          | ((with_reducible refine CI.store5 rfl (.tmp 2) (.tmp 29) rfl w.heap.size op V ?xa7 ?xa8 ((g3.trans (bl3 hb4 hb5)).hr) ?_); (case xa7 => simp [go_sem]); (case xa8 => simp [go_sem])))
          go_simp
          refine fin_ op 0 V ?_ ?_ ((g3.trans (bl3 hb4 hb5)).hr) ?_
          · rfl
          · rfl
          · exact ⟨by rw [hV.out.1, hV.out.2], below_setRow (g3.trans (bl3 hb4 hb5)).below (Nat.le_refl _) _⟩
        · have hN : Hid (CM.hit op x = false) := Lib.hid (by
            cases hh : CM.hit op x with
            | true => exact absurd (hag.out.2 hh) hA
            | false => rfl)
          have hA' : (A == x) = false := by simp [hA]
          clear hA hres hag hlow
          go_wp2
          go_quiet ((go_at_call 33; exact Calls.quiet_of_same (full7 _)))
          go_wp2_with (first
          | (go_at_call 34; refine (ci _).mono ?_; rintro e w4 ⟨rfl, hb4⟩; have s4 := hb4.size; simp only [World.size_alloc, World.heap_drewN] at s4; have z4 : w3.heap.size < w4.heap.size := (by omega); have q0 := hb4.cell (p := ⟨w3.heap.size, 0, none⟩) (by (simp only [World.size_alloc, World.heap_drewN]; omega)); have q1 := hb4.cell (p := ⟨w3.heap.size, 1, none⟩) (by (simp only [World.size_alloc, World.heap_drewN]; omega)); have q2 := hb4.cell (p := ⟨w3.heap.size, 2, none⟩) (by (simp only [World.size_alloc, World.heap_drewN]; omega)); have q3 := hb4.cell (p := ⟨w3.heap.size, 3, none⟩) (by (simp only [World.size_alloc, World.heap_drewN]; omega)))
          | ((with_reducible refine CI.store5 rfl (.tmp 6) (.tmp 23) rfl w4.heap.size op V ?xb1 ?xb2 ?xb3 ?_); (case xb1 => simp [go_sem]); (case xb2 => simp [go_sem]); (case xb3 => exact newAt _ _ _ rfl); rw [World.setRow_alloc_new])
          | ((with_reducible refine CI.load5 rfl (.tmp 6) rfl w4.heap.size op V ?xb4 ?xb5 ?_); (case xb4 => simp [go_sem]); (case xb5 => exact newAt _ _ _ rfl))
          | (go_at_call 35; refine (cw _).mono ?_; rintro e w5 ⟨rfl, hb5⟩; have H5 := Lib.hid (after hb5))
          | ((with_reducible refine CI.load5 rfl (.tmp 6) rfl w4.heap.size op V ?xb6 H5.out ?_); (case xb6 => simp [go_sem]))
          | ((with_reducible refine CI.store5 rfl (.tmp 2) (.tmp 29) rfl w.heap.size op V ?xb7 ?xb8 ((g3.trans (bl3 hb4 hb5)).hr) ?_); (case xb7 => simp [go_sem]); (case xb8 => simp [go_sem])))
          go_roundw
          case rel => exact ⟨_, cnt3, hrg3.kept (grown_of (bl3 hb4 hb5)) (by simp) (by simp), Lib.hid (hnext.out hN.out), g3.trans (bl3 hb4 hb5)⟩
          case measure => rw [(hrg3.kept (grown_of (bl3 hb4 hb5)) (by simp) (by simp)).left_eq]; exact hm.out
      · have hN : Hid (CM.hit op x = false) := Lib.hid (hlow.out hlo)
        go_wp2
        go_quiet ((go_at_call 33; exact Calls.quiet_of_same (full7 _)))
        go_wp2
        go_roundw
        case rel => exact ⟨_, cnt3, hrg3.kept (grown_of (bdrewN (box0 _ _) _)) (by simp) (by simp), Lib.hid (hnext.out hN.out), g3.trans (bdrewN (box0 _ _) _)⟩
        case measure => rw [(hrg3.kept (grown_of (bdrewN (box0 _ _) nq)) (by simp) (by simp)).left_eq]; exact hm.out
end CD
end Go.Proofs.Ytlmblfkcmhgdaaa
