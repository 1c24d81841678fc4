/-
  The statements' fixed fact: the text of nothing, and that "object" alone is no object's text. Conditions: Go's own variables hold what its text lays.
-/
import Derived.Test.YtieehjkmfmkfjaaGreatDoorObjF
import Derived.Test.YtieehjkmfmkfjaaGreatDoorObjP
import Derived.Deep.DeepCutAuto
namespace Go.Proofs.YtieehjkmfmkfjaaGreatDoor
open Go.RowKit
set_option linter.unusedVariables false
set_option linter.unusedSimpArgs false
namespace OQ
open OL OO OP OF OW
abbrev nil4 : Value := .agg #[.slice none 0 0, .slice none 0 0, .slice none 0 0, .slice none 0 0]
set_option maxRecDepth 100000 in
set_option maxHeartbeats 4000000 in
theorem check_none (w : World) : Calls Tryz.prog 27 #[nil4] w fun e w' => e = .returned (.tuple #[]) ∧ Below w.heap.size w w' := by
  have hmm := @run_makeMap Tryz.prog
  go_enter Tryz.func27, Tryz.ntmps27
  go_wp2_with (go_at_call 53; (with_reducible refine (demand_yes _).mono ?_); rintro e w1 ⟨rfl, rfl⟩)
  have hB : Below w.heap.size w ((w.alloc (.cells #[.slice none 0 0, .slice none 0 0, .slice none 0 0, .slice none 0 0] TO)).alloc (.map #[] 0)) := ((Below.refl _ _).alloc (Nat.le_refl _) _).alloc (by simp) _
  have c3 : ((w.alloc (.cells #[.slice none 0 0, .slice none 0 0, .slice none 0 0, .slice none 0 0] TO)).alloc (.map #[] 0)).cell? ⟨w.heap.size, 3, none⟩ = some (.slice none 0 0) := by
    rw [Lib.cell_of_heap ((Lib.alloc_old _ _ _ (by simp)).trans (heap_alloc_new w _))]; rfl
  have HB := Lib.hid hB
  clear hB
  generalize ((w.alloc (.cells #[.slice none 0 0, .slice none 0 0, .slice none 0 0, .slice none 0 0] TO)).alloc (.map #[] 0)) = W at *
  go_loopw [42] (fun i wr => i = .int .i64 0 ∧ wr = W) (fun _ _ => 0)
  case atStart => exact ⟨rfl, rfl⟩
  case round =>
    obtain ⟨rfl, rfl⟩ := hrel
    go_wp2_with fail
    go_loopw [69] (fun i wr' => i = .int .i64 0 ∧ wr' = wr) (fun _ _ => 0)
    case atStart => exact ⟨rfl, rfl⟩
    case round =>
      obtain ⟨rfl, rfl⟩ := hrel
      go_wp2_with fail
      go_end0
      exact ⟨rfl, HB.out⟩
set_option maxRecDepth 100000 in
set_option maxHeartbeats 4000000 in
theorem check1_none (bx : Nat) (w : World) (h : w.heap[bx]? = some (.cells #[.slice none 0 0, .slice none 0 0, .slice none 0 0, .slice none 0 0] TO (0, 0))) :
    Calls Tryz.prog 26 #[.pointer (some ⟨bx, 0, none⟩)] w fun e w' => e = .returned (.tuple #[]) ∧ Below w.heap.size w w' := by
  obtain ⟨c0, c1, c2, c3⟩ : w.cell? ⟨bx, 0, none⟩ = some (.slice none 0 0) ∧ w.cell? ⟨bx, 1, none⟩ = some (.slice none 0 0) ∧ w.cell? ⟨bx, 2, none⟩ = some (.slice none 0 0) ∧ w.cell? ⟨bx, 3, none⟩ = some (.slice none 0 0) :=
    ⟨Lib.cell_of_heap h 0, Lib.cell_of_heap h 1, Lib.cell_of_heap h 2, Lib.cell_of_heap h 3⟩
  clear h
  go_enter Tryz.func26, Tryz.ntmps26
  go_wp2_with (go_at_call 27; (with_reducible refine (check_none _).mono ?_); rintro e w1 ⟨rfl, hb⟩)
  go_end0
  exact ⟨rfl, hb⟩
set_option maxRecDepth 100000 in
set_option maxHeartbeats 4000000 in
theorem Check_none (w : World) : Calls Tryz.prog 13 #[nil4] w fun e w' => e = .returned (.int .i64 0) ∧ Below w.heap.size w w' := by
  have hmf : ∀ (fn : Fn) (first cap : Array Value) (w : World), (Instr.makeFunc fn first cap).run Tryz.prog w = .ok (.func fn first cap) w := fun _ _ _ _ => rfl
  have h0 := heap_alloc_new w (.cells #[.slice none 0 0, .slice none 0 0, .slice none 0 0, .slice none 0 0] TO)
  have hB : Below w.heap.size w (w.alloc (.cells #[.slice none 0 0, .slice none 0 0, .slice none 0 0, .slice none 0 0] TO)) := (Below.refl _ _).alloc (Nat.le_refl _) _
  have hc := fault_ok_check w.heap.size (w.alloc (.cells #[.slice none 0 0, .slice none 0 0, .slice none 0 0, .slice none 0 0] TO)) (Below w.heap.size w) ((check1_none w.heap.size _ ((Lib.alloc_old _ _ _ (by simp)).trans h0)).mono fun e w' ⟨he, hb⟩ => ⟨he, (hb.block _ (by simp)).trans (heap_alloc_new _ _), (hB.alloc (by simp) _).trans (hb.mono (by simp; omega))⟩)
  have HC := Lib.hid hc
  clear hc h0 hB
  go_enter Tryz.func13, Tryz.ntmps13
  go_wp2_with (go_at_call 25; (with_reducible refine HC.out.mono ?_); rintro e w1 ⟨rfl, w2, hw2, hw1⟩; have HW := Lib.hid hw1; have H2 := Lib.hid hw2; clear hw1 hw2)
  go_ret
  refine ⟨rfl, ?_⟩
  rw [HW.out]
  exact H2.out.setCell (p := ⟨_, 0, none⟩) (by simp) _
end OQ
end Go.Proofs.YtieehjkmfmkfjaaGreatDoor
