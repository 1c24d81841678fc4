/-
  Tokens of a text, plainly: how far a number, a name, what stands between reach, byte by byte. No program, no condition.
-/
import Derived.Test.YtnlbhnmiekanfaaGreatDoorLexM
namespace Go.Proofs.YtnlbhnmiekanfaaGreatDoor
set_option linter.unusedVariables false
set_option linter.unusedSimpArgs false
namespace Lx
theorem cnt_nil (p : UInt8 → Bool) : cnt p [] = 0 := rfl
theorem cnt_yes {p : UInt8 → Bool} {b : UInt8} (h : p b = true) (l : List UInt8) : cnt p (b :: l) = cnt p l + 1 := by
  unfold cnt; rw [List.takeWhile_cons_of_pos h]; rfl
theorem cnt_no {p : UInt8 → Bool} {b : UInt8} (h : p b = false) (l : List UInt8) : cnt p (b :: l) = 0 := by
  unfold cnt; rw [List.takeWhile_cons_of_neg (by simp [h])]; rfl
theorem cnt_le (p : UInt8 → Bool) (l : List UInt8) : cnt p l ≤ l.length := by
  induction l with
  | nil => exact Nat.le_refl _
  | cons b l ih =>
    cases h : p b with
    | true => rw [cnt_yes h]; simp only [List.length_cons]; omega
    | false => rw [cnt_no h]; exact Nat.zero_le _
/-- the bytes of a text from a place on -/
def at_ (s : ByteArray) (k : Nat) : List UInt8 := s.data.toList.drop k
theorem at_len (s : ByteArray) (k : Nat) : (at_ s k).length = s.size - k := by unfold at_; rw [List.length_drop]; rfl
theorem at_cons (s : ByteArray) (k : Nat) (h : k < s.size) : at_ s k = s[k] :: at_ s (k + 1) := by
  unfold at_
  rw [List.drop_eq_getElem_cons (by simpa using h)]
  rfl
theorem at_end (s : ByteArray) (k : Nat) (h : s.size ≤ k) : at_ s k = [] := by
  unfold at_; exact List.drop_of_length_le (by simpa using h)
theorem at_drop (s : ByteArray) (k n : Nat) : (at_ s k).drop n = at_ s (k + n) := by unfold at_; rw [List.drop_drop]
theorem cnt_at_yes {p : UInt8 → Bool} (s : ByteArray) (k : Nat) (h : k < s.size) (hp : p s[k] = true) : cnt p (at_ s k) = cnt p (at_ s (k + 1)) + 1 := by
  rw [at_cons s k h, cnt_yes hp]
theorem cnt_at_no {p : UInt8 → Bool} (s : ByteArray) (k : Nat) (h : k < s.size) (hp : p s[k] = false) : cnt p (at_ s k) = 0 := by
  rw [at_cons s k h, cnt_no hp]
theorem cnt_at_end (p : UInt8 → Bool) (s : ByteArray) (k : Nat) (h : s.size ≤ k) : cnt p (at_ s k) = 0 := by
  rw [at_end s k h]; rfl
theorem cnt_at_le (p : UInt8 → Bool) (s : ByteArray) (k : Nat) (h : k ≤ s.size) : k + cnt p (at_ s k) ≤ s.size := by
  have := cnt_le p (at_ s k); rw [at_len] at this; omega
theorem sees_at {p : UInt8 → Bool} (s : ByteArray) (k : Nat) (h : k < s.size) : sees p (at_ s k) = p s[k] := by
  rw [at_cons s k h]; rfl
theorem sees_end (p : UInt8 → Bool) (s : ByteArray) (k : Nat) (h : s.size ≤ k) : sees p (at_ s k) = false := by
  rw [at_end s k h]; rfl
theorem sees_lt {p : UInt8 → Bool} (s : ByteArray) (k : Nat) (h : sees p (at_ s k) = true) : k < s.size := by
  refine Nat.lt_of_not_le fun hle => ?_
  rw [sees_end p s k hle] at h; cases h
theorem cnt_sees_no {p : UInt8 → Bool} {l : List UInt8} (h : sees p l = false) : cnt p l = 0 := by
  cases l with
  | nil => rfl
  | cons b l => exact cnt_no h l
theorem cnt_sees_yes {p : UInt8 → Bool} {l : List UInt8} (h : sees p l = true) : cnt p l = cnt p (l.drop 1) + 1 := by
  cases l with
  | nil => cases h
  | cons b l => exact cnt_yes h l
/-- behind what is counted stands no such byte -/
theorem sees_cnt (p : UInt8 → Bool) (l : List UInt8) : sees p (l.drop (cnt p l)) = false := by
  induction l with
  | nil => rfl
  | cons b l ih =>
    cases h : p b with
    | true => rw [cnt_yes h, List.drop_succ_cons]; exact ih
    | false => rw [cnt_no h, List.drop_zero]; exact h
/-- a piece of a text, as bytes -/
theorem extract_list (s : ByteArray) (a b : Nat) : (s.extract a b).data.toList = (at_ s a).take (b - a) := by
  unfold at_; rw [ByteArray.data_extract, Array.toList_extract]
theorem extract_eq (s : ByteArray) (a b : Nat) : s.extract a b = ⟨((at_ s a).take (b - a)).toArray⟩ := by
  have h := extract_list s a b
  generalize s.extract a b = t at h
  obtain ⟨⟨l⟩⟩ := t
  show ByteArray.mk ⟨l⟩ = ⟨_⟩
  have h' : l = (at_ s a).take (b - a) := h
  rw [h']
end Lx
end Go.Proofs.YtnlbhnmiekanfaaGreatDoor
