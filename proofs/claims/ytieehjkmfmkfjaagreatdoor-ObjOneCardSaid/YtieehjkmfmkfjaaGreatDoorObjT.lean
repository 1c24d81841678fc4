/-
  The program's reader: a line, and what is thrown where there is none. Conditions: the text is shorter than 4294967281 bytes; Go's own variables hold what its text lays.
-/
import Derived.Test.YtieehjkmfmkfjaaGreatDoorObjS
namespace Go.Proofs.YtieehjkmfmkfjaaGreatDoor
open Go.RowKit
set_option linter.unusedVariables false
set_option linter.unusedSimpArgs false
namespace OT
open OL OO OP OF OW OQ OJ OS
abbrev TR : TypeId := 61
/-- the reader in block r has this text before it -/
def Rd (r : Nat) (s : ByteArray) (w : World) : Prop := w.heap[r]? = some (.cells #[.string s] TR (0, 0))
theorem Rd.cell {r : Nat} {s : ByteArray} {w : World} (h : Rd r s w) : w.cell? ⟨r, 0, none⟩ = some (.string s) := Lib.cell_of_heap h 0
theorem Rd.frozen {r : Nat} {s : ByteArray} {w : World} (h : Rd r s w) : w.frozen? ⟨r, 0, none⟩ = false := Lib.frozen_of_heap h 0
theorem Rd.set {r : Nat} {s t : ByteArray} {w : World} (h : Rd r s w) : Rd r t (w.setCell ⟨r, 0, none⟩ (.string t)) := by
  unfold Rd at *
  simp [World.setCell, Array.getElem?_modify, h]
theorem Rd.drewN {r : Nat} {s : ByteArray} {w : World} (h : Rd r s w) (n : Nat) : Rd r s (w.drewN n) := h
/-- what a call of the reader's leaves as it was -/
structure RF (r : Nat) (w w' : World) : Prop where
  below : Below r w w'
  others : ∀ k o, k ≠ r → w.heap[k]? = some o → w'.heap[k]? = some o
theorem RF.refl (r : Nat) (w : World) : RF r w w := ⟨Below.refl _ _, fun _ _ _ h => h⟩
theorem RF.trans {r : Nat} {u v w : World} (h : RF r u v) (k : RF r v w) : RF r u w := ⟨h.below.trans k.below, fun i o hi ho => k.others i o hi (h.others i o hi ho)⟩
theorem RF.of {r : Nat} {w w' : World} (hr : r ≤ w.heap.size) (h : Below w.heap.size w w') : RF r w w' := ⟨h.mono hr, fun k o _ hk => (h.block k (lt_of_get hk)).trans hk⟩
theorem RF.drewN (r : Nat) (w : World) (n : Nat) : RF r w (w.drewN n) := ⟨⟨rfl, rfl, rfl, Nat.le_refl _, fun _ _ => rfl⟩, fun _ _ _ h => h⟩
theorem RF.drew (r : Nat) (w : World) : RF r w w.drew := ⟨⟨rfl, rfl, rfl, Nat.le_refl _, fun _ _ => rfl⟩, fun _ _ _ h => h⟩
theorem RF.set {r : Nat} (w : World) (o : Nat) (v : Value) : RF r w (w.setCell ⟨r, o, none⟩ v) :=
  ⟨(Below.refl r w).setCell (p := ⟨r, o, none⟩) (Nat.le_refl _) v, fun k x hk hx => by rw [Below.heap_setCell _ _ _ _ hk]; exact hx⟩
theorem Rd.below {r : Nat} {s : ByteArray} {w w' : World} (h : Rd r s w) (hb : Below w.heap.size w w') : Rd r s w' := (hb.block r (lt_of_get h)).trans h
set_option maxRecDepth 100000 in
set_option maxHeartbeats 4000000 in
theorem line_yes {r : Nat} {s : ByteArray} {w : World} (h : Rd r s w) (hL : Laid w) (hs : s.size < 4294967281) (a b : List UInt8) (hc : Lib.cut s.data.toList [10] = (a, b, true)) :
    Calls Tryz.prog 57 #[.pointer (some ⟨r, 0, none⟩)] w fun e w' => e = .returned (.string ⟨a.toArray⟩) ∧ ∃ n, w' = (w.drewN n).setCell ⟨r, 0, none⟩ (.string ⟨b.toArray⟩) := by
  obtain ⟨m, hm⟩ := hL.max
  have c1 := Tryz.strings_Cut s ⟨#[10]⟩ m w hs hm
  rw [show (⟨#[10]⟩ : ByteArray).data.toList = [10] from rfl, hc] at c1
  have p1 := h.cell
  have p2 := h.frozen
  clear h hL hc hm hs
  go_enter Tryz.func57, Tryz.ntmps57
  go_wp2_with (first
    | (go_at_call 72; (with_reducible refine c1.mono ?_); rintro e w1 ⟨rfl, n, rfl⟩; have q1 : (w.drewN n).cell? ⟨r, 0, none⟩ = some (.string s) := p1; have q2 : (w.drewN n).frozen? ⟨r, 0, none⟩ = false := p2)
    | (go_at_call 53; (with_reducible refine (demand_yes _).mono ?_); rintro e w1 ⟨rfl, rfl⟩))
  go_ret
  exact ⟨rfl, n, rfl⟩
set_option maxRecDepth 100000 in
set_option maxHeartbeats 4000000 in
theorem line_no {r : Nat} {s : ByteArray} {w : World} (h : Rd r s w) (hL : Laid w) (hs : s.size < 4294967281) (hc : (Lib.cut s.data.toList [10]).2.2 = false) :
    Calls Tryz.prog 57 #[.pointer (some ⟨r, 0, none⟩)] w fun e w' => e = thrown ∧ ∃ n, w' = w.drewN n := by
  obtain ⟨m, hm⟩ := hL.max
  have c1 := Tryz.strings_Cut s ⟨#[10]⟩ m w hs hm
  rw [show (⟨#[10]⟩ : ByteArray).data.toList = [10] from rfl, hc] at c1
  have p1 := h.cell
  have p2 := h.frozen
  clear h hL hc hm hs
  go_enter Tryz.func57, Tryz.ntmps57
  go_wp2_with (first
    | (go_at_call 72; (with_reducible refine c1.mono ?_); rintro e w1 ⟨rfl, n, rfl⟩)
    | (go_at_call 53; (with_reducible refine (demand_no _).mono ?_); rintro e w1 ⟨rfl, rfl⟩))
  exact ⟨rfl, rfl, n, rfl⟩
set_option maxRecDepth 100000 in
set_option maxHeartbeats 4000000 in
theorem parts_no {r : Nat} {s : ByteArray} {w : World} (h : Rd r s w) (hL : Laid w) (hs : s.size < 4294967281) (hc : (Lib.cut s.data.toList [10]).2.2 = false) (k : Int) :
    Calls Tryz.prog 73 #[.pointer (some ⟨r, 0, none⟩), .int .i64 k] w fun e w' => e = thrown ∧ ∃ n, w' = w.drewN n := by
  have c1 := line_no h hL hs hc
  clear h hL hc hs
  go_enter Tryz.func73, Tryz.ntmps73
  go_wp2_with (go_at_call 57; (with_reducible refine c1.mono ?_); rintro e w1 ⟨rfl, n, rfl⟩)
  exact ⟨rfl, rfl, n, rfl⟩
set_option maxRecDepth 100000 in
set_option maxHeartbeats 4000000 in
theorem count_no {r : Nat} {s : ByteArray} {w : World} (h : Rd r s w) (hL : Laid w) (hs : s.size < 4294967281) (hc : (Lib.cut s.data.toList [10]).2.2 = false) (t : ByteArray) (k : Int) :
    Calls Tryz.prog 58 #[.pointer (some ⟨r, 0, none⟩), .string t, .int .i64 k] w fun e w' => e = thrown ∧ ∃ n, w' = w.drewN n := by
  have c1 := parts_no h hL hs hc 2
  clear h hL hc hs
  go_enter Tryz.func58, Tryz.ntmps58
  go_wp2_with (go_at_call 73; (with_reducible refine c1.mono ?_); rintro e w1 ⟨rfl, n, rfl⟩)
  exact ⟨rfl, rfl, n, rfl⟩
theorem rline {r : Nat} {s : ByteArray} {w : World} (h : Rd r s w) (hL : Laid w) (hs : s.size < 4294967281) (a b : List UInt8) (hc : Lib.cut s.data.toList [10] = (a, b, true)) :
    Calls Tryz.prog 57 #[.pointer (some ⟨r, 0, none⟩)] w fun e w' => e = .returned (.string ⟨a.toArray⟩) ∧ Rd r ⟨b.toArray⟩ w' ∧ RF r w w' := by
  refine (line_yes h hL hs a b hc).mono ?_
  rintro e w' ⟨rfl, n, rfl⟩
  exact ⟨rfl, (h.drewN n).set, (RF.drewN r w n).trans (RF.set _ _ _)⟩
end OT
end Go.Proofs.YtieehjkmfmkfjaaGreatDoor
