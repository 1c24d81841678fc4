/-
  A decimal in memory, cell by cell. No condition.
-/
import Derived.Test.YtldglmehchkbeaaGreatDoorLexBf
import Derived.Test.YtldglmehchkbeaaGreatDoorDecN
namespace Go.Proofs.YtldglmehchkbeaaGreatDoor
open Go.RowKit
set_option linter.unusedVariables false
set_option linter.unusedSimpArgs false
namespace LxC
open Lx
/-- a decimal's 804 cells at G: c are its digits' bytes, all 800 -/
structure DcAt (w : World) (G : Nat) (c : Nat → Nat) (nd : Nat) (dp : Int) (ng tr : Bool) : Prop where
  row : ∃ cur : Array Value, w.heap[G]? = some (.cells cur 182 (0, 0)) ∧ cur.size = 804 ∧ (∀ i, i < 800 → cur[i]? = some (.int .u8 ((c i : Nat) : Int))) ∧ cur[800]? = some (.int .i64 (nd : Int)) ∧ cur[801]? = some (.int .i64 dp) ∧ cur[802]? = some (.bool ng) ∧ cur[803]? = some (.bool tr)
/-- digits that a number has: none but digits, the first no nought -/
structure Vd (c : Nat → Nat) (nd : Nat) : Prop where
  one : 1 ≤ nd
  most : nd ≤ 800
  lo : ∀ i, i < nd → 48 ≤ c i
  hi : ∀ i, i < nd → c i ≤ 57
  top : 49 ≤ c 0
/-- with another byte at i -/
def upd (c : Nat → Nat) (i x : Nat) : Nat → Nat := fun j => if j = i then x else c j
theorem upd_same (c : Nat → Nat) (i x : Nat) : upd c i x i = x := by simp [upd]
theorem upd_ne (c : Nat → Nat) {i j : Nat} (x : Nat) (h : j ≠ i) : upd c i x j = c j := by simp [upd, h]
section
variable {w : World} {G nd : Nat} {c : Nat → Nat} {dp : Int} {ng tr : Bool}
theorem DcAt.byte (h : DcAt w G c nd dp ng tr) {i : Nat} (hi : i < 800) : w.cell? ⟨G, i, none⟩ = some (.int .u8 ((c i : Nat) : Int)) := by
  obtain ⟨cur, h1, h2, h3, h4, h5, h6, h7⟩ := h.row
  rw [cell_of_row w G i cur _ _ h1]; exact h3 i hi
theorem DcAt.nd_ (h : DcAt w G c nd dp ng tr) : w.cell? ⟨G, 800, none⟩ = some (.int .i64 (nd : Int)) := by
  obtain ⟨cur, h1, h2, h3, h4, h5, h6, h7⟩ := h.row
  rw [cell_of_row w G 800 cur _ _ h1]; exact h4
theorem DcAt.dp_ (h : DcAt w G c nd dp ng tr) : w.cell? ⟨G, 801, none⟩ = some (.int .i64 dp) := by
  obtain ⟨cur, h1, h2, h3, h4, h5, h6, h7⟩ := h.row
  rw [cell_of_row w G 801 cur _ _ h1]; exact h5
theorem DcAt.ng_ (h : DcAt w G c nd dp ng tr) : w.cell? ⟨G, 802, none⟩ = some (.bool ng) := by
  obtain ⟨cur, h1, h2, h3, h4, h5, h6, h7⟩ := h.row
  rw [cell_of_row w G 802 cur _ _ h1]; exact h6
theorem DcAt.tr_ (h : DcAt w G c nd dp ng tr) : w.cell? ⟨G, 803, none⟩ = some (.bool tr) := by
  obtain ⟨cur, h1, h2, h3, h4, h5, h6, h7⟩ := h.row
  rw [cell_of_row w G 803 cur _ _ h1]; exact h7
theorem DcAt.free (h : DcAt w G c nd dp ng tr) (i : Nat) : w.frozen? ⟨G, i, none⟩ = false := by
  obtain ⟨cur, h1, -⟩ := h.row
  exact Lib.frozen_of_heap h1 _
theorem DcAt.byteSet (h : DcAt w G c nd dp ng tr) {i : Nat} (hi : i < 800) (x : Nat) : DcAt (w.setCell ⟨G, i, none⟩ (.int .u8 (x : Int))) G (upd c i x) nd dp ng tr := by
  obtain ⟨cur, h1, h2, h3, h4, h5, h6, h7⟩ := h.row
  refine ⟨_, heap_setCell_same w G i cur _ _ h1, by simp [h2], fun j hj => ?_, ?_, ?_, ?_, ?_⟩
  all_goals simp only [Array.set!_eq_setIfInBounds, Array.getElem?_setIfInBounds]
  · by_cases e : j = i
    · subst e; rw [if_pos rfl, if_pos (by omega), upd_same]
    · rw [if_neg (by omega), upd_ne c x e]; exact h3 j hj
  all_goals rw [if_neg (by omega)]; assumption
theorem DcAt.ndSet (h : DcAt w G c nd dp ng tr) (n : Nat) : DcAt (w.setCell ⟨G, 800, none⟩ (.int .i64 (n : Int))) G c n dp ng tr := by
  obtain ⟨cur, h1, h2, h3, h4, h5, h6, h7⟩ := h.row
  refine ⟨_, heap_setCell_same w G 800 cur _ _ h1, by simp [h2], fun j hj => ?_, ?_, ?_, ?_, ?_⟩
  all_goals simp only [Array.set!_eq_setIfInBounds, Array.getElem?_setIfInBounds]
  · rw [if_neg (by omega)]; exact h3 j hj
  · simp [h2]
  all_goals rw [if_neg (by omega)]; assumption
theorem DcAt.dpSet (h : DcAt w G c nd dp ng tr) (p : Int) : DcAt (w.setCell ⟨G, 801, none⟩ (.int .i64 p)) G c nd p ng tr := by
  obtain ⟨cur, h1, h2, h3, h4, h5, h6, h7⟩ := h.row
  refine ⟨_, heap_setCell_same w G 801 cur _ _ h1, by simp [h2], fun j hj => ?_, ?_, ?_, ?_, ?_⟩
  all_goals simp only [Array.set!_eq_setIfInBounds, Array.getElem?_setIfInBounds]
  · rw [if_neg (by omega)]; exact h3 j hj
  · rw [if_neg (by omega)]; assumption
  · simp [h2]
  all_goals rw [if_neg (by omega)]; assumption
theorem DcAt.ngSet (h : DcAt w G c nd dp ng tr) (b : Bool) : DcAt (w.setCell ⟨G, 802, none⟩ (.bool b)) G c nd dp b tr := by
  obtain ⟨cur, h1, h2, h3, h4, h5, h6, h7⟩ := h.row
  refine ⟨_, heap_setCell_same w G 802 cur _ _ h1, by simp [h2], fun j hj => ?_, ?_, ?_, ?_, ?_⟩
  all_goals simp only [Array.set!_eq_setIfInBounds, Array.getElem?_setIfInBounds]
  · rw [if_neg (by omega)]; exact h3 j hj
  · rw [if_neg (by omega)]; assumption
  · rw [if_neg (by omega)]; assumption
  · simp [h2]
  · rw [if_neg (by omega)]; assumption
theorem DcAt.trSet (h : DcAt w G c nd dp ng tr) (b : Bool) : DcAt (w.setCell ⟨G, 803, none⟩ (.bool b)) G c nd dp ng b := by
  obtain ⟨cur, h1, h2, h3, h4, h5, h6, h7⟩ := h.row
  refine ⟨_, heap_setCell_same w G 803 cur _ _ h1, by simp [h2], fun j hj => ?_, ?_, ?_, ?_, ?_⟩
  all_goals simp only [Array.set!_eq_setIfInBounds, Array.getElem?_setIfInBounds]
  · rw [if_neg (by omega)]; exact h3 j hj
  · rw [if_neg (by omega)]; assumption
  · rw [if_neg (by omega)]; assumption
  · rw [if_neg (by omega)]; assumption
  · simp [h2]
end
theorem zeroDc : Tryz.zeroCells182 = (Array.replicate 800 (Value.int .u8 0)) ++ #[.int .i64 0, .int .i64 0, .bool false, .bool false] := by kernel_rfl
theorem DcAt.zero {w : World} {G : Nat} (h : w.heap[G]? = some (.cells Tryz.zeroCells182 182 (0, 0))) : DcAt w G (fun _ => 0) 0 0 false false := by
  rw [zeroDc] at h
  refine ⟨_, h, by simp, fun i hi => ?_, ?_, ?_, ?_, ?_⟩
  · rw [Array.getElem?_append_left (by simpa using hi)]; simp [hi]
  all_goals (rw [Array.getElem?_append_right (by simp)]; simp)
end LxC
end Go.Proofs.YtldglmehchkbeaaGreatDoor
