/-
  The bytes of a symbol's name, plainly: what may stand in one, and what is one. No condition. It speaks of no program.
-/
import Derived.WalkKit
import Derived.IntWalk
namespace Go.Proofs.Ytlmblfkcmhgdaaa
open Go.RowKit
set_option linter.unusedVariables false
set_option linter.unusedSimpArgs false
namespace OM
def digI (x : Int) : Bool := decide (48 ≤ x ∧ x ≤ 57)
def okI (x : Int) : Bool := decide ((97 ≤ x ∧ x ≤ 122) ∨ (65 ≤ x ∧ x ≤ 90) ∨ (48 ≤ x ∧ x ≤ 57) ∨ x = 95 ∨ x = 46)
theorem digI_yes {x : Int} (h : 48 ≤ x ∧ x ≤ 57) : digI x = true := by unfold digI; simpa using h
theorem digI_no {x : Int} (h : ¬ (48 ≤ x ∧ x ≤ 57)) : digI x = false := by unfold digI; simpa using h
theorem okI_iff (x : Int) : okI x = true ↔ (97 ≤ x ∧ x ≤ 122) ∨ (65 ≤ x ∧ x ≤ 90) ∨ (48 ≤ x ∧ x ≤ 57) ∨ x = 95 ∨ x = 46 := by unfold okI; simp
/-- all bytes from place k on may stand in a name -/
def okFrom (s : ByteArray) (k : Nat) : Bool := (s.data.toList.drop k).all fun c => okI (c.toNat : Int)
/-- is it a name? -/
def nameB (s : ByteArray) : Bool := decide (1 ≤ s.size) && decide (s.size ≤ 40) && !(digI (s.data.toList.headD 0).toNat) && okFrom s 0
theorem okFrom_end (s : ByteArray) : okFrom s s.size = true := by
  unfold okFrom
  rw [List.drop_eq_nil_of_le (by simp)]
  rfl
theorem okFrom_step (s : ByteArray) (k : Nat) (h : k < s.size) : okFrom s k = (okI (s[k].toNat : Int) && okFrom s (k + 1)) := by
  unfold okFrom
  rw [List.drop_eq_getElem_cons (by simpa using h)]
  rfl
theorem nameB_no_size {s : ByteArray} (h : s.size < 1 ∨ 40 < s.size) : nameB s = false := by
  unfold nameB
  rcases h with h | h
  · rw [show decide (1 ≤ s.size) = false by simpa using h]; rfl
  · rw [show decide (s.size ≤ 40) = false by simpa using h]; simp
theorem head_of (s : ByteArray) (h : 0 < s.size) : s.data.toList.headD 0 = s[0] := by
  have : s.data.toList = s[0] :: s.data.toList.drop 1 := by
    have := List.drop_eq_getElem_cons (l := s.data.toList) (i := 0) (by simpa using h)
    rw [List.drop_zero] at this
    exact this
  rw [this]; rfl
theorem nameB_mid {s : ByteArray} (h1 : 1 ≤ s.size) (h2 : s.size ≤ 40) : nameB s = (!(digI (s[0].toNat)) && okFrom s 0) := by
  unfold nameB
  rw [show decide (1 ≤ s.size) = true by simpa using h1, show decide (s.size ≤ 40) = true by simpa using h2, head_of s h1]
  simp
/-- what the document's loop asks of byte x at place k -/
def fine (x : Int) (k : Nat) : Prop := (97 ≤ x ∧ x ≤ 122) ∨ (65 ≤ x ∧ x ≤ 90) ∨ x = 95 ∨ x = 46 ∨ ((48 ≤ x ∧ x ≤ 57) ∧ 0 < k)
def left (s : ByteArray) (k : Nat) : Bool := if k = 0 then nameB s else okFrom s k
theorem left_bad {s : ByteArray} {k : Nat} (h1 : 1 ≤ s.size) (h2 : s.size ≤ 40) (h : k < s.size) (hb : ¬ fine (s[k].toNat : Int) k) : left s k = false := by
  unfold left fine at *
  by_cases hk : k = 0
  · subst hk
    rw [if_pos rfl, nameB_mid h1 h2, okFrom_step s 0 h1]
    cases hd : digI (s[0].toNat) with
    | true => rfl
    | false =>
      have : okI (s[0].toNat : Int) = false := by
        rw [Bool.eq_false_iff]
        intro e
        rw [okI_iff] at e
        unfold digI at hd
        simp only [decide_eq_false_iff_not] at hd
        omega
      rw [this]; rfl
  · rw [if_neg hk, okFrom_step s k h]
    have : okI (s[k].toNat : Int) = false := by
      rw [Bool.eq_false_iff]
      intro e
      rw [okI_iff] at e
      omega
    rw [this]; rfl
theorem left_good {s : ByteArray} {k : Nat} (h1 : 1 ≤ s.size) (h2 : s.size ≤ 40) (h : k < s.size) (hb : fine (s[k].toNat : Int) k) : left s k = left s (k + 1) := by
  unfold left fine at *
  rw [if_neg (show ¬ k + 1 = 0 by omega)]
  have ho : okI (s[k].toNat : Int) = true := by rw [okI_iff]; omega
  by_cases hk : k = 0
  · subst hk
    rw [if_pos rfl, nameB_mid h1 h2, okFrom_step s 0 h1, ho]
    have : digI (s[0].toNat) = false := digI_no (by omega)
    rw [this]; rfl
  · rw [if_neg hk, okFrom_step s k h, ho]; rfl
end OM
end Go.Proofs.Ytlmblfkcmhgdaaa
