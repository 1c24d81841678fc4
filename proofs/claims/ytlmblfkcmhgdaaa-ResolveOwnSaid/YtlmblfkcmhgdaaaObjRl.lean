/-
  Check's isRelocation: a contract, over the answer of isPatched. Conditions: the words lie in memory, and lengths are such as memory holds.
-/
import Derived.Test.YtlmblfkcmhgdaaaObjU
import Derived.BigQuiet
import Derived.Test.YtlmblfkcmhgdaaaObjPt
import Derived.Test.YtlmblfkcmhgdaaaObjI
import Derived.WalkSpells
namespace Go.Proofs.Ytlmblfkcmhgdaaa
open Go.RowKit
set_option linter.unusedVariables false
set_option linter.unusedSimpArgs false
namespace ORl
open OO OJ OU OPt OI
def relOk (ws : List Int) (nd ns : Nat) (r : RelV) : Bool :=
  decide (0 ≤ r.sym ∧ r.sym ≤ (ns : Int) - 1) && (decide (-2147483648 ≤ r.add ∧ r.add ≤ 2147483647) &&
    (if r.sect = 1 then decide (0 ≤ r.place ∧ r.place ≤ (ws.length : Int) - 1) && patB r.kind (ws.getD r.place.toNat 0)
     else if r.sect = 2 then decide (r.kind = 6) && (decide (0 ≤ r.place ∧ r.place ≤ (nd : Int) - 4) && decide (r.place % 4 = 0)) else false))
def dst (i : Nat) : Nat := if i = 18 then 4 else 23 + i
theorem dst_inj (i j : Nat) (hi : i < 19) (hj : j < 19) (h : dst i = dst j) : i = j := by
  unfold dst at h
  split at h <;> split at h <;> omega
def val (N b o l q : Nat) (k kd x : Int) (p : Bool) : Nat → Value
  | 0 => .pointer (some ⟨N + 1, 1, none⟩) | 1 => .int .i64 k | 2 => .pointer (some ⟨N, 0, none⟩) | 3 => .slice (some ⟨b, o, none⟩) l q | 4 => .int .i64 l | 5 => .int .i64 ((l : Int) - 1) | 6 => .bool true | 7 => .bool true
  | 8 => .pointer (some ⟨N + 1, 2, none⟩) | 9 => .int .i64 kd | 10 => .pointer (some ⟨N, 0, none⟩) | 11 => .slice (some ⟨b, o, none⟩) l q | 12 => .pointer (some ⟨N + 1, 1, none⟩) | 13 => .int .i64 k | 14 => .pointer (some ⟨b, o + k.toNat, none⟩) | 15 => .int .u32 x | _ => .bool p
set_option maxRecDepth 100000 in
set_option maxHeartbeats 8000000 in
theorem relocation_ {n₀ nd ns n3 q1 q2 q3 : Nat} {v0 : Value} {p1 p2 p3 : Option Addr} {ws : List Int} (r : RelV) (w : World) (hwf : ∀ x ∈ ws, 0 ≤ x ∧ x ≤ 4294967295) (hw : Nums8 .u32 n₀ w v0 ws) (hn : n₀ ≤ w.heap.size) (h1 : nd ≤ maxLen) (h2 : ns ≤ maxLen) :
    Calls Try.prog 23 #[.agg #[v0, .slice p1 nd q1, .slice p2 ns q2, .slice p3 n3 q3], .agg #[.int .i64 r.sect, .int .i64 r.place, .int .i64 r.kind, .int .i64 r.sym, .int .i64 r.add]] w fun e w' => e = .returned (.bool (relOk ws nd ns r)) ∧ Below w.heap.size w w' := by
  have hB := fun (x y : Obj) => (((Below.refl w.heap.size w).alloc (Nat.le_refl _) x).alloc (by simp) y : Below w.heap.size w ((w.alloc x).alloc y))
  have HB := Lib.hid hB
  have HW := Lib.hid hw
  have HN := Lib.hid hn
  obtain ⟨p0, q0, rfl, hw0⟩ := hw
  have h0 : ws.length ≤ maxLen := by
    by_cases hz : 0 < ws.length
    · obtain ⟨b, o, -, -, k1, k2, -⟩ := hw0 hz; exact Nat.le_trans k1 k2
    · omega
  obtain ⟨sc, pl, kd, sy, ad⟩ := r
  simp only
  unfold maxLen at h0 h1 h2
  have HP := Lib.hid hwf
  clear hB hw0 hn hwf
  by_cases b1 : 0 ≤ sy ∧ sy ≤ (ns : Int) - 1
  · have c1 := fromto_yes b1
    by_cases b2 : (-2147483648 : Int) ≤ ad ∧ ad ≤ 2147483647
    · have c2 := fromto_yes b2
      by_cases e1 : sc = 1
      · subst e1
        by_cases b3 : 0 ≤ pl ∧ pl ≤ (ws.length : Int) - 1
        · have c3 := fromto_yes b3
          obtain ⟨k, rfl⟩ : ∃ k : Nat, pl = (k : Int) := ⟨pl.toNat, by omega⟩
          have hk : k < ws.length := by omega
          obtain ⟨pp, qq, ee, hh⟩ := HW.out
          cases ee
          obtain ⟨b, o, rfl, hb0, -, -, hr⟩ := hh (by omega)
          have hbl : b < w.heap.size := Nat.lt_of_lt_of_le hb0 HN.out
          have hc := fun (x y : Obj) => row_below hr (HB.out x y) hbl k _ (List.getElem?_eq_getElem hk)
          have hx := HP.out ws[k] (List.getElem_mem hk)
          have hpx := fun W => patched_ kd ws[k] hx.1 (by omega) W
          have hgx : ws.getD k 0 = ws[k] := by rw [List.getD_eq_getElem?_getD, List.getElem?_eq_getElem hk]; rfl
          have HG := Lib.hid hgx
          have hn1 : (0 : Int) ≤ (k : Int) := by omega
          have HE := Lib.hid (⟨b1, b2, b3⟩ : _ ∧ _ ∧ _)
          have HK := Lib.hid hk
          clear b1 b2 b3 hr hh hgx hx
          generalize ws[k] = x at *
          generalize hpb : patB kd x = p at *
          have HPB := Lib.hid hpb
          clear hpb
          have hc1 := hc (.cells #[.slice (some ⟨b, o, none⟩) ws.length q0, .slice p1 nd q1, .slice p2 ns q2, .slice p3 n3 q3] 31) (.cells #[.int .i64 1, .int .i64 (k : Int), .int .i64 kd, .int .i64 sy, .int .i64 ad] 65)
          have hB1 := HB.out (.cells #[.slice (some ⟨b, o, none⟩) ws.length q0, .slice p1 nd q1, .slice p2 ns q2, .slice p3 n3 q3] 31) (.cells #[.int .i64 1, .int .i64 (k : Int), .int .i64 kd, .int .i64 sy, .int .i64 ad] 65)
          have y1 : ((w.alloc (.cells #[.slice (some ⟨b, o, none⟩) ws.length q0, .slice p1 nd q1, .slice p2 ns q2, .slice p3 n3 q3] 31)).alloc (.cells #[.int .i64 1, .int .i64 (k : Int), .int .i64 kd, .int .i64 sy, .int .i64 ad] 65)).heap[w.heap.size]? = some (.cells #[.slice (some ⟨b, o, none⟩) ws.length q0, .slice p1 nd q1, .slice p2 ns q2, .slice p3 n3 q3] 31 (0, 0)) := (Lib.alloc_old _ _ _ (by simp)).trans (heap_alloc_new w _)
          have y2 : ((w.alloc (.cells #[.slice (some ⟨b, o, none⟩) ws.length q0, .slice p1 nd q1, .slice p2 ns q2, .slice p3 n3 q3] 31)).alloc (.cells #[.int .i64 1, .int .i64 (k : Int), .int .i64 kd, .int .i64 sy, .int .i64 ad] 65)).heap[w.heap.size + 1]? = some (.cells #[.int .i64 1, .int .i64 (k : Int), .int .i64 kd, .int .i64 sy, .int .i64 ad] 65 (0, 0)) := by
            have := heap_alloc_new (w.alloc (.cells #[.slice (some ⟨b, o, none⟩) ws.length q0, .slice p1 nd q1, .slice p2 ns q2, .slice p3 n3 q3] 31)) (.cells #[.int .i64 1, .int .i64 (k : Int), .int .i64 kd, .int .i64 sy, .int .i64 ad] 65)
            rwa [World.size_alloc] at this
          have hsz : w.heap.size + 2 ≤ ((w.alloc (.cells #[.slice (some ⟨b, o, none⟩) ws.length q0, .slice p1 nd q1, .slice p2 ns q2, .slice p3 n3 q3] 31)).alloc (.cells #[.int .i64 1, .int .i64 (k : Int), .int .i64 kd, .int .i64 sy, .int .i64 ad] 65)).heap.size := by simp
          have HB1 := Lib.hid hB1
          clear hc hB1
          go_enter Try.func23, Try.ntmps23
          go_upto_region 5 with (first
            | (go_at_call 25; (with_reducible refine (c1 _).mono ?_); rintro e w1 ⟨rfl, rfl⟩)
            | (go_at_call 25; (with_reducible refine (c2 _).mono ?_); rintro e w1 ⟨rfl, rfl⟩)
            | (go_at_call 25; (with_reducible refine (c3 _).mono ?_); rintro e w1 ⟨rfl, rfl⟩))
          generalize (w.alloc (.cells #[.slice (some ⟨b, o, none⟩) ws.length q0, .slice p1 nd q1, .slice p2 ns q2, .slice p3 n3 q3] 31)).alloc (.cells #[.int .i64 1, .int .i64 (k : Int), .int .i64 kd, .int .i64 sy, .int .i64 ad] 65) = W at *
          have KC := Lib.hid (fun (W' : World) (hb : Below W.heap.size W W') => (⟨Lib.cell_of_heap ((hb.block _ (by omega)).trans y1) 0, Lib.cell_of_heap ((hb.block _ (by omega)).trans y2) 1, Lib.cell_of_heap ((hb.block _ (by omega)).trans y2) 2, (hb.cell (p := ⟨b, o + k, none⟩) (show b < W.heap.size by omega)).trans hc1⟩ :
            W'.cell? ⟨w.heap.size, 0, none⟩ = some (.slice (some ⟨b, o, none⟩) ws.length q0) ∧ W'.cell? ⟨w.heap.size + 1, 1, none⟩ = some (.int .i64 k) ∧ W'.cell? ⟨w.heap.size + 1, 2, none⟩ = some (.int .i64 kd) ∧ W'.cell? ⟨b, o + k, none⟩ = some (.int .u32 x)))
          clear y1 y2 hc1
          refine facts_ (n := 19) (dst := dst) (F := fun i v _ => v = val w.heap.size b o ws.length q0 k kd x p i) (by kernel_rfl) (ahead_of (by kernel_rfl)) rfl dst_inj (fun _ _ _ _ h _ => h) ?step ?done
          case step =>
            intro i op hop a W1 hM hF
            have hi : i < 19 := (Array.getElem?_eq_some_iff.1 hop).1
            match i, hi with
              | 0, _ =>
                cases hop
                refine op_ rfl rfl ?_
                have t3 : a.tmps[3]?.getD undef = .pointer (some ⟨w.heap.size + 1, 0, none⟩) := (Array.getD_eq_getD_getElem?).symm.trans ((hM.oth 3 (by intro i hi; unfold dst; split <;> omega)).trans rfl)
                have HM := Lib.hid hM
                clear hM hF
                go_simp
                exact did_put _ (by rw [HM.out.sz]; exact (by decide : dst 0 < 61)) (Below.refl _ _) (by rfl)
              | 1, _ =>
                cases hop
                refine op_ rfl rfl ?_
                have t23 : a.tmps[23]?.getD undef = .pointer (some ⟨w.heap.size + 1, 1, none⟩) := (Array.getD_eq_getD_getElem?).symm.trans (hF ⟨0, .data⟩ (by simp) rfl)
                obtain ⟨f0, f1, f2, f3⟩ := KC.out W1 hM.bel
                have HM := Lib.hid hM
                clear hM hF
                go_simp
                exact did_put _ (by rw [HM.out.sz]; exact (by decide : dst 1 < 61)) (Below.refl _ _) (by rfl)
              | 2, _ =>
                cases hop
                refine op_ rfl rfl ?_
                have t2 : a.tmps[2]?.getD undef = .pointer (some ⟨w.heap.size, 0, none⟩) := (Array.getD_eq_getD_getElem?).symm.trans ((hM.oth 2 (by intro i hi; unfold dst; split <;> omega)).trans rfl)
                have HM := Lib.hid hM
                clear hM hF
                go_simp
                exact did_put _ (by rw [HM.out.sz]; exact (by decide : dst 2 < 61)) (Below.refl _ _) (by rfl)
              | 3, _ =>
                cases hop
                refine op_ rfl rfl ?_
                have t25 : a.tmps[25]?.getD undef = .pointer (some ⟨w.heap.size, 0, none⟩) := (Array.getD_eq_getD_getElem?).symm.trans (hF ⟨2, .data⟩ (by simp) rfl)
                obtain ⟨f0, f1, f2, f3⟩ := KC.out W1 hM.bel
                have HM := Lib.hid hM
                clear hM hF
                go_simp
                exact did_put _ (by rw [HM.out.sz]; exact (by decide : dst 3 < 61)) (Below.refl _ _) (by rfl)
              | 4, _ =>
                cases hop
                refine op_ rfl rfl ?_
                have t26 : a.tmps[26]?.getD undef = .slice (some ⟨b, o, none⟩) ws.length q0 := (Array.getD_eq_getD_getElem?).symm.trans (hF ⟨3, .data⟩ (by simp) rfl)
                have HM := Lib.hid hM
                clear hM hF
                go_simp
                exact did_put _ (by rw [HM.out.sz]; exact (by decide : dst 4 < 61)) (Below.refl _ _) (by rfl)
              | 5, _ =>
                cases hop
                refine op_ rfl rfl ?_
                have t27 : a.tmps[27]?.getD undef = .int .i64 ws.length := (Array.getD_eq_getD_getElem?).symm.trans (hF ⟨4, .data⟩ (by simp) rfl)
                have HM := Lib.hid hM
                clear hM hF
                go_simp
                exact did_put _ (by rw [HM.out.sz]; exact (by decide : dst 5 < 61)) (Below.refl _ _) (by show Value.int IntKind.i64 (IntKind.i64.wrap ((ws.length : Int) - 1)) = .int .i64 ((ws.length : Int) - 1); rw [IntWalk.i64_in _ (by omega)])
              | 6, _ =>
                cases hop
                refine op_ rfl rfl ?_
                have t24 : a.tmps[24]?.getD undef = .int .i64 k := (Array.getD_eq_getD_getElem?).symm.trans (hF ⟨1, .data⟩ (by simp) rfl)
                have t28 : a.tmps[28]?.getD undef = .int .i64 ((ws.length : Int) - 1) := (Array.getD_eq_getD_getElem?).symm.trans (hF ⟨5, .data⟩ (by simp) rfl)
                have HM := Lib.hid hM
                clear hM hF
                go_simp
                (with_reducible refine (c3 _).mono ?_)
                rintro e W2 ⟨rfl, rfl⟩
                exact did_put _ (by rw [HM.out.sz]; exact (by decide : dst 6 < 61)) (Below.refl _ _) rfl
              | 7, _ =>
                cases hop
                refine op_ rfl rfl ?_
                have t29 : a.tmps[29]?.getD undef = .bool true := (Array.getD_eq_getD_getElem?).symm.trans (hF ⟨6, .data⟩ (by simp) rfl)
                have HM := Lib.hid hM
                clear hM hF
                go_simp
                exact did_put _ (by rw [HM.out.sz]; exact (by decide : dst 7 < 61)) (Below.refl _ _) (by rfl)
              | 8, _ =>
                cases hop
                have tg : a.tmps[30]?.getD undef = .bool true := (Array.getD_eq_getD_getElem?).symm.trans (hF ⟨7, .guard⟩ (by simp) rfl)
                refine op_g rfl (by simp [Region.wanted, yielded, got tg]) ?_
                clear tg
                have t3 : a.tmps[3]?.getD undef = .pointer (some ⟨w.heap.size + 1, 0, none⟩) := (Array.getD_eq_getD_getElem?).symm.trans ((hM.oth 3 (by intro i hi; unfold dst; split <;> omega)).trans rfl)
                have HM := Lib.hid hM
                clear hM hF
                go_simp
                exact did_put _ (by rw [HM.out.sz]; exact (by decide : dst 8 < 61)) (Below.refl _ _) (by rfl)
              | 9, _ =>
                cases hop
                have tg : a.tmps[30]?.getD undef = .bool true := (Array.getD_eq_getD_getElem?).symm.trans (hF ⟨7, .guard⟩ (by simp) rfl)
                refine op_g rfl (by simp [Region.wanted, yielded, got tg]) ?_
                clear tg
                have t31 : a.tmps[31]?.getD undef = .pointer (some ⟨w.heap.size + 1, 2, none⟩) := (Array.getD_eq_getD_getElem?).symm.trans (hF ⟨8, .data⟩ (by simp) rfl)
                obtain ⟨f0, f1, f2, f3⟩ := KC.out W1 hM.bel
                have HM := Lib.hid hM
                clear hM hF
                go_simp
                exact did_put _ (by rw [HM.out.sz]; exact (by decide : dst 9 < 61)) (Below.refl _ _) (by rfl)
              | 10, _ =>
                cases hop
                have tg : a.tmps[30]?.getD undef = .bool true := (Array.getD_eq_getD_getElem?).symm.trans (hF ⟨7, .guard⟩ (by simp) rfl)
                refine op_g rfl (by simp [Region.wanted, yielded, got tg]) ?_
                clear tg
                have t2 : a.tmps[2]?.getD undef = .pointer (some ⟨w.heap.size, 0, none⟩) := (Array.getD_eq_getD_getElem?).symm.trans ((hM.oth 2 (by intro i hi; unfold dst; split <;> omega)).trans rfl)
                have HM := Lib.hid hM
                clear hM hF
                go_simp
                exact did_put _ (by rw [HM.out.sz]; exact (by decide : dst 10 < 61)) (Below.refl _ _) (by rfl)
              | 11, _ =>
                cases hop
                have tg : a.tmps[30]?.getD undef = .bool true := (Array.getD_eq_getD_getElem?).symm.trans (hF ⟨7, .guard⟩ (by simp) rfl)
                refine op_g rfl (by simp [Region.wanted, yielded, got tg]) ?_
                clear tg
                have t33 : a.tmps[33]?.getD undef = .pointer (some ⟨w.heap.size, 0, none⟩) := (Array.getD_eq_getD_getElem?).symm.trans (hF ⟨10, .data⟩ (by simp) rfl)
                obtain ⟨f0, f1, f2, f3⟩ := KC.out W1 hM.bel
                have HM := Lib.hid hM
                clear hM hF
                go_simp
                exact did_put _ (by rw [HM.out.sz]; exact (by decide : dst 11 < 61)) (Below.refl _ _) (by rfl)
              | 12, _ =>
                cases hop
                have tg : a.tmps[30]?.getD undef = .bool true := (Array.getD_eq_getD_getElem?).symm.trans (hF ⟨7, .guard⟩ (by simp) rfl)
                refine op_g rfl (by simp [Region.wanted, yielded, got tg]) ?_
                clear tg
                have t3 : a.tmps[3]?.getD undef = .pointer (some ⟨w.heap.size + 1, 0, none⟩) := (Array.getD_eq_getD_getElem?).symm.trans ((hM.oth 3 (by intro i hi; unfold dst; split <;> omega)).trans rfl)
                have HM := Lib.hid hM
                clear hM hF
                go_simp
                exact did_put _ (by rw [HM.out.sz]; exact (by decide : dst 12 < 61)) (Below.refl _ _) (by rfl)
              | 13, _ =>
                cases hop
                have tg : a.tmps[30]?.getD undef = .bool true := (Array.getD_eq_getD_getElem?).symm.trans (hF ⟨7, .guard⟩ (by simp) rfl)
                refine op_g rfl (by simp [Region.wanted, yielded, got tg]) ?_
                clear tg
                have t35 : a.tmps[35]?.getD undef = .pointer (some ⟨w.heap.size + 1, 1, none⟩) := (Array.getD_eq_getD_getElem?).symm.trans (hF ⟨12, .data⟩ (by simp) rfl)
                obtain ⟨f0, f1, f2, f3⟩ := KC.out W1 hM.bel
                have HM := Lib.hid hM
                clear hM hF
                go_simp
                exact did_put _ (by rw [HM.out.sz]; exact (by decide : dst 13 < 61)) (Below.refl _ _) (by rfl)
              | 14, _ =>
                cases hop
                have tg : a.tmps[30]?.getD undef = .bool true := (Array.getD_eq_getD_getElem?).symm.trans (hF ⟨7, .guard⟩ (by simp) rfl)
                refine op_g rfl (by simp [Region.wanted, yielded, got tg]) ?_
                clear tg
                have t34 : a.tmps[34]?.getD undef = .slice (some ⟨b, o, none⟩) ws.length q0 := (Array.getD_eq_getD_getElem?).symm.trans (hF ⟨11, .data⟩ (by simp) rfl)
                have t36 : a.tmps[36]?.getD undef = .int .i64 k := (Array.getD_eq_getD_getElem?).symm.trans (hF ⟨13, .data⟩ (by simp) rfl)
                have HM := Lib.hid hM
                clear hM hF
                go_simp
                exact did_put _ (by rw [HM.out.sz]; exact (by decide : dst 14 < 61)) (Below.refl _ _) (by rfl)
              | 15, _ =>
                cases hop
                have tg : a.tmps[30]?.getD undef = .bool true := (Array.getD_eq_getD_getElem?).symm.trans (hF ⟨7, .guard⟩ (by simp) rfl)
                refine op_g rfl (by simp [Region.wanted, yielded, got tg]) ?_
                clear tg
                have t37 : a.tmps[37]?.getD undef = .pointer (some ⟨b, o + k, none⟩) := (Array.getD_eq_getD_getElem?).symm.trans (hF ⟨14, .data⟩ (by simp) rfl)
                obtain ⟨f0, f1, f2, f3⟩ := KC.out W1 hM.bel
                have HM := Lib.hid hM
                clear hM hF
                go_simp
                exact did_put _ (by rw [HM.out.sz]; exact (by decide : dst 15 < 61)) (Below.refl _ _) (by rfl)
              | 16, _ =>
                cases hop
                have tg : a.tmps[30]?.getD undef = .bool true := (Array.getD_eq_getD_getElem?).symm.trans (hF ⟨7, .guard⟩ (by simp) rfl)
                refine op_g rfl (by simp [Region.wanted, yielded, got tg]) ?_
                clear tg
                have t32 : a.tmps[32]?.getD undef = .int .i64 kd := (Array.getD_eq_getD_getElem?).symm.trans (hF ⟨9, .data⟩ (by simp) rfl)
                have t38 : a.tmps[38]?.getD undef = .int .u32 x := (Array.getD_eq_getD_getElem?).symm.trans (hF ⟨15, .data⟩ (by simp) rfl)
                have HM := Lib.hid hM
                clear hM hF
                go_simp
                (with_reducible refine (hpx _).mono ?_)
                rintro e W2 ⟨rfl, hb⟩
                exact did_put _ (by rw [HM.out.sz]; exact (by decide : dst 16 < 61)) hb rfl
              | 17, _ =>
                cases hop
                refine op_ rfl rfl ?_
                have t30 : a.tmps[30]?.getD undef = .bool true := (Array.getD_eq_getD_getElem?).symm.trans (hF ⟨7, .data⟩ (by simp) rfl)
                have t39 : a.tmps[39]?.getD undef = .bool p := (Array.getD_eq_getD_getElem?).symm.trans (hF ⟨16, .data⟩ (by simp) rfl)
                have HM := Lib.hid hM
                clear hM hF
                go_simp
                exact did_put _ (by rw [HM.out.sz]; exact (by decide : dst 17 < 61)) (Below.refl _ _) (by rfl)
              | 18, _ =>
                cases hop
                refine op_ rfl rfl ?_
                have t40 : a.tmps[40]?.getD undef = .bool p := (Array.getD_eq_getD_getElem?).symm.trans (hF ⟨17, .data⟩ (by simp) rfl)
                have HM := Lib.hid hM
                clear hM hF
                go_simp
                exact did_put _ (by rw [HM.out.sz]; exact (by decide : dst 18 < 61)) (Below.refl _ _) (by rfl)
              | i + 19, h => exact absurd h (by omega)
          case done =>
            intro a W1 hM hF
            have t4 : a.tmps[4]?.getD undef = .bool p := (Array.getD_eq_getD_getElem?).symm.trans (hF 18 (by decide))
            have hd := hM.d
            have HB2 := Lib.hid hM.bel
            clear hM hF
            go_wp2
            refine bodyPost_ret (v := .bool p) (by simp [results, Try.results23, go_sem, t4]) hd ⟨ret_bool ?_, HB1.out.trans (HB2.out.mono (by omega))⟩
            unfold relOk
            have := HE.out
            have := HK.out
            simp only [Int.toNat_natCast, HG.out, HPB.out]
            cases p <;> simp <;> omega
        · have c3 := fromto_no b3
          have HE := Lib.hid (⟨b1, b2, b3⟩ : _ ∧ _ ∧ _)
          clear b1 b2 b3
          go_enter Try.func23, Try.ntmps23
          go_upto_region 5 with (first
            | (go_at_call 25; (with_reducible refine (c1 _).mono ?_); rintro e w1 ⟨rfl, rfl⟩)
            | (go_at_call 25; (with_reducible refine (c2 _).mono ?_); rintro e w1 ⟨rfl, rfl⟩)
            | (go_at_call 25; (with_reducible refine (c3 _).mono ?_); rintro e w1 ⟨rfl, rfl⟩))
          have hln : (1 : Int) ≤ ((ws.length : Int)) ∨ True := .inr trivial
          go_quiet ((go_at_call 25; exact Calls.quiet_of_same ((c3 _).mono fun e w' h => ⟨h.1, h.2.symm⟩)))
          go_wp2
          go_ret
          exact ⟨ret_bool (by unfold relOk; have := HE.out; simp; first | omega | (rw [Bool.eq_iff_iff]; simp; omega)), (HB.out _ _).trans ⟨rfl, rfl, rfl, Nat.le_refl _, fun _ _ => rfl⟩⟩
      · by_cases e2 : sc = 2
        · subst e2
          by_cases b4 : kd = 6
          · subst b4
            by_cases b3 : 0 ≤ pl ∧ pl ≤ (nd : Int) - 4
            · have c3 := fromto_yes b3
              have ht := Int.tmod_eq_emod_of_nonneg (b := 4) b3.1
              by_cases hm : pl.tmod 4 = 0
              all_goals
                have HE := Lib.hid (⟨b1, b2, b3, ht, hm⟩ : _ ∧ _ ∧ _ ∧ _ ∧ _)
                clear b1 b2 b3 ht
                go_enter Try.func23, Try.ntmps23
                go_wp2_with (first
                  | (go_at_call 25; (with_reducible refine (c1 _).mono ?_); rintro e w1 ⟨rfl, rfl⟩)
                  | (go_at_call 25; (with_reducible refine (c2 _).mono ?_); rintro e w1 ⟨rfl, rfl⟩)
                  | (go_at_call 25; (with_reducible refine (c3 _).mono ?_); rintro e w1 ⟨rfl, rfl⟩))
                go_ret
                exact ⟨ret_bool (by unfold relOk; have := HE.out; simp; first | omega | (rw [Bool.eq_iff_iff]; simp; omega) | (rw [Bool.eq_iff_iff]; simp only [beq_iff_eq, Bool.and_eq_true, decide_eq_true_eq]; omega)), HB.out _ _⟩
            · have c3 := fromto_no b3
              have HE := Lib.hid (⟨b1, b2, b3⟩ : _ ∧ _ ∧ _)
              clear b1 b2 b3
              go_enter Try.func23, Try.ntmps23
              go_wp2_with (first
                | (go_at_call 25; (with_reducible refine (c1 _).mono ?_); rintro e w1 ⟨rfl, rfl⟩)
                | (go_at_call 25; (with_reducible refine (c2 _).mono ?_); rintro e w1 ⟨rfl, rfl⟩)
                | (go_at_call 25; (with_reducible refine (c3 _).mono ?_); rintro e w1 ⟨rfl, rfl⟩))
              go_ret
              exact ⟨ret_bool (by unfold relOk; have := HE.out; simp; first | omega | (rw [Bool.eq_iff_iff]; simp; omega) | (rw [Bool.eq_iff_iff]; simp only [beq_iff_eq, Bool.and_eq_true, decide_eq_true_eq]; omega)), HB.out _ _⟩
          · have c3 := c1
            have HE := Lib.hid (⟨b1, b2, b4⟩ : _ ∧ _ ∧ _)
            clear b1 b2
            go_enter Try.func23, Try.ntmps23
            go_wp2_with (first
              | (go_at_call 25; (with_reducible refine (c1 _).mono ?_); rintro e w1 ⟨rfl, rfl⟩)
              | (go_at_call 25; (with_reducible refine (c2 _).mono ?_); rintro e w1 ⟨rfl, rfl⟩)
              | (go_at_call 25; (with_reducible refine (c3 _).mono ?_); rintro e w1 ⟨rfl, rfl⟩))
            go_ret
            exact ⟨ret_bool (by unfold relOk; have := HE.out; simp; first | omega | (rw [Bool.eq_iff_iff]; simp; omega) | (rw [Bool.eq_iff_iff]; simp only [beq_iff_eq, Bool.and_eq_true, decide_eq_true_eq]; omega)), HB.out _ _⟩
        · have c3 := c1
          have HE := Lib.hid (⟨b1, b2, e1, e2⟩ : _ ∧ _ ∧ _ ∧ _)
          clear b1 b2
          go_enter Try.func23, Try.ntmps23
          go_wp2_with (first
            | (go_at_call 25; (with_reducible refine (c1 _).mono ?_); rintro e w1 ⟨rfl, rfl⟩)
            | (go_at_call 25; (with_reducible refine (c2 _).mono ?_); rintro e w1 ⟨rfl, rfl⟩)
            | (go_at_call 25; (with_reducible refine (c3 _).mono ?_); rintro e w1 ⟨rfl, rfl⟩))
          go_ret
          exact ⟨ret_bool (by unfold relOk; have := HE.out; simp [this.2.2.1, this.2.2.2]; try first | omega | (rw [Bool.eq_iff_iff]; simp; omega) | (rw [Bool.eq_iff_iff]; simp only [beq_iff_eq, Bool.and_eq_true, decide_eq_true_eq]; omega)), HB.out _ _⟩
    · have c2 := fromto_no b2
      have c3 := c1
      have HE := Lib.hid (⟨b1, b2⟩ : _ ∧ _)
      clear b1 b2
      go_enter Try.func23, Try.ntmps23
      go_wp2_with (first
        | (go_at_call 25; (with_reducible refine (c1 _).mono ?_); rintro e w1 ⟨rfl, rfl⟩)
        | (go_at_call 25; (with_reducible refine (c2 _).mono ?_); rintro e w1 ⟨rfl, rfl⟩)
        | (go_at_call 25; (with_reducible refine (c3 _).mono ?_); rintro e w1 ⟨rfl, rfl⟩))
      go_ret
      exact ⟨ret_bool (by unfold relOk; have := HE.out; simp; first | omega | (rw [Bool.eq_iff_iff]; simp; omega) | (rw [Bool.eq_iff_iff]; simp only [beq_iff_eq, Bool.and_eq_true, decide_eq_true_eq]; omega)), HB.out _ _⟩
  · have c1 := fromto_no b1
    have c2 := c1
    have c3 := c1
    have HE := Lib.hid b1
    clear b1
    go_enter Try.func23, Try.ntmps23
    go_wp2_with (first
      | (go_at_call 25; (with_reducible refine (c1 _).mono ?_); rintro e w1 ⟨rfl, rfl⟩)
      | (go_at_call 25; (with_reducible refine (c2 _).mono ?_); rintro e w1 ⟨rfl, rfl⟩)
      | (go_at_call 25; (with_reducible refine (c3 _).mono ?_); rintro e w1 ⟨rfl, rfl⟩))
    go_ret
    exact ⟨ret_bool (by unfold relOk; have := HE.out; simp; first | omega | (rw [Bool.eq_iff_iff]; simp; omega) | (rw [Bool.eq_iff_iff]; simp only [beq_iff_eq, Bool.and_eq_true, decide_eq_true_eq]; omega)), HB.out _ _⟩
end ORl
end Go.Proofs.Ytlmblfkcmhgdaaa
