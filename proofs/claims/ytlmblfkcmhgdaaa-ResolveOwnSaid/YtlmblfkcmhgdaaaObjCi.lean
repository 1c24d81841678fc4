/-
  The program's Check: an error where there is no object: a contract. No condition but that the object lies in memory.
-/
import Derived.Test.YtlmblfkcmhgdaaaObjCh
namespace Go.Proofs.Ytlmblfkcmhgdaaa
open Go.RowKit Go.Maps Go.WideMaps
set_option linter.unusedVariables false
set_option linter.unusedSimpArgs false
namespace OCh
open OO OJ OU ORl OCk OF OI
/-- the program's check -/
theorem check_ {w : World} {n₀ : Nat} {v0 v1 v2 v3 : Value} {o : ObjV} (hn : n₀ ≤ w.heap.size) (ho : ObjAt n₀ w v0 v1 v2 v3 o) (hw : o.Wf) (hm : o.ws.length ≤ maxLen ∧ o.ds.length ≤ maxLen ∧ o.ss.length ≤ maxLen ∧ o.rs.length ≤ maxLen) :
    Calls Try.prog 18 #[.agg #[v0, v1, v2, v3]] w (CkEnd (chk o) w) := by
  cases hl : lensB o with
  | true => exact check_lens hn ho hw hl
  | false =>
    rw [chk_lens hl]
    obtain ⟨p0, q0, rfl, -⟩ := ho.ws
    obtain ⟨p1, q1, rfl, -⟩ := ho.ds
    obtain ⟨p2, q2, rfl, -⟩ := ho.ss
    obtain ⟨p3, q3, rfl, -⟩ := ho.rs
    refine lens_no w hm.1 hm.2.1 hm.2.2.1 hm.2.2.2 fun h => ?_
    have : lensB o = true := by
      unfold lensB
      rw [decide_eq_true (⟨h.1, h.2.1, h.2.2.1⟩ : _ ∧ _ ∧ _), decide_eq_true (⟨h.2.2.2.1, h.2.2.2.2⟩ : _ ∧ _)]; rfl
    rw [hl] at this; cases this
def ckI (b : Bool) : Int := if b then 0 else 2
set_option maxRecDepth 100000 in
set_option maxHeartbeats 4000000 in
theorem check1_ (bx : Nat) {w : World} {n₀ : Nat} {v0 v1 v2 v3 : Value} {o : ObjV} (hn : n₀ ≤ w.heap.size) (ho : ObjAt n₀ w v0 v1 v2 v3 o) (hw : o.Wf) (hm : o.ws.length ≤ maxLen ∧ o.ds.length ≤ maxLen ∧ o.ss.length ≤ maxLen ∧ o.rs.length ≤ maxLen) (h : w.heap[bx]? = some (.cells #[v0, v1, v2, v3] TO (0, 0))) :
    Calls Try.prog 17 #[.pointer (some ⟨bx, 0, none⟩)] w (CkEnd (chk o) w) := by
  have c := check_ hn ho hw hm
  have k0 : w.cell? ⟨bx, 0, none⟩ = some v0 := Lib.cell_of_heap h 0
  have k1 : w.cell? ⟨bx, 1, none⟩ = some v1 := Lib.cell_of_heap h 1
  have k2 : w.cell? ⟨bx, 2, none⟩ = some v2 := Lib.cell_of_heap h 2
  have k3 : w.cell? ⟨bx, 3, none⟩ = some v3 := Lib.cell_of_heap h 3
  clear ho hw hm h
  unfold CkEnd at c ⊢
  generalize chk o = b at *
  cases b with
  | true =>
    simp only [if_true] at c ⊢
    go_enter Try.func17, Try.ntmps17
    go_wp2_with (go_at_call 18; (with_reducible refine c.mono ?_); rintro e w1 ⟨rfl, hb⟩)
    go_end0
    exact ⟨rfl, hb⟩
  | false =>
    simp only [Bool.false_eq_true, if_false] at c ⊢
    go_enter Try.func17, Try.ntmps17
    go_wp2_with (go_at_call 18; (with_reducible refine c.mono ?_); rintro e w1 ⟨rfl, hb⟩)
    exact ⟨rfl, rfl, hb⟩
set_option maxRecDepth 100000 in
set_option maxHeartbeats 4000000 in
/-- the program's Check -/
theorem Check_ {w : World} {n₀ : Nat} {v0 v1 v2 v3 : Value} {o : ObjV} (hn : n₀ ≤ w.heap.size) (ho : ObjAt n₀ w v0 v1 v2 v3 o) (hw : o.Wf) (hm : o.ws.length ≤ maxLen ∧ o.ds.length ≤ maxLen ∧ o.ss.length ≤ maxLen ∧ o.rs.length ≤ maxLen) :
    Calls Try.prog 14 #[.agg #[v0, v1, v2, v3]] w fun e w' => e = .returned (.int .i64 (ckI (chk o))) ∧ Below w.heap.size w w' := by
  have hmf : ∀ (fn : Fn) (first cap : Array Value) (w : World), (Instr.makeFunc fn first cap).run Try.prog w = .ok (.func fn first cap) w := fun _ _ _ _ => rfl
  have h0 := heap_alloc_new w (.cells #[v0, v1, v2, v3] TO)
  have hB : Below w.heap.size w (w.alloc (.cells #[v0, v1, v2, v3] TO)) := (Below.refl _ _).alloc (Nat.le_refl _) _
  have c := check1_ w.heap.size (w := (w.alloc (.cells #[v0, v1, v2, v3] TO)).alloc (.cells #[.int .i64 0] 38)) (by simp; omega) (ho.below ((hB.alloc (by simp) _).mono hn)) hw hm ((Lib.alloc_old _ _ _ (by simp)).trans h0)
  unfold CkEnd at c
  obtain ⟨p0, q0, rfl, -⟩ := ho.ws
  obtain ⟨p1, q1, rfl, -⟩ := ho.ds
  obtain ⟨p2, q2, rfl, -⟩ := ho.ss
  obtain ⟨p3, q3, rfl, -⟩ := ho.rs
  clear ho hw hm
  generalize chk o = b at *
  cases b with
  | true =>
    simp only [if_true] at c
    have hc := fault_ok_check w.heap.size _ (Below w.heap.size w) (c.mono fun e w' ⟨he, hb⟩ => ⟨he, (hb.block _ (by simp)).trans (heap_alloc_new _ _), (hB.alloc (by simp) _).trans (hb.mono (by simp; omega))⟩)
    have HC := Lib.hid hc
    clear hc h0 hB c
    go_enter Try.func14, Try.ntmps14
    go_wp2_with (go_at_call 16; (with_reducible refine HC.out.mono ?_); rintro e w1 ⟨rfl, w2, hw2, hw1⟩; have HW := Lib.hid hw1; have H2 := Lib.hid hw2; clear hw1 hw2)
    go_ret
    refine ⟨rfl, ?_⟩
    rw [HW.out]
    exact H2.out.setCell (p := ⟨_, 0, none⟩) (by simp) _
  | false =>
    simp only [Bool.false_eq_true, if_false] at c
    have hc := fault_bad_check w.heap.size _ (Below w.heap.size w) (c.mono fun e w' ⟨he, hb⟩ => ⟨he, (hb.block _ (by simp)).trans (heap_alloc_new _ _), (hB.alloc (by simp) _).trans (hb.mono (by simp; omega))⟩)
    have HC := Lib.hid hc
    clear hc h0 hB c
    go_enter Try.func14, Try.ntmps14
    go_wp2_with (go_at_call 16; (with_reducible refine HC.out.mono ?_); rintro e w1 ⟨rfl, w2, hw2, hw1⟩; have HW := Lib.hid hw1; have H2 := Lib.hid hw2; clear hw1 hw2)
    go_ret
    refine ⟨rfl, ?_⟩
    rw [HW.out]
    have h3 := H2.out.setCell (p := ⟨(w.alloc (.cells #[.slice p0 o.ws.length q0, .slice p1 o.ds.length q1, .slice p2 o.ss.length q2, .slice p3 o.rs.length q3] TO)).heap.size, 0, none⟩) (by simp) (.int .i64 2)
    exact h3.alloc h3.size _
end OCh
end Go.Proofs.Ytlmblfkcmhgdaaa
