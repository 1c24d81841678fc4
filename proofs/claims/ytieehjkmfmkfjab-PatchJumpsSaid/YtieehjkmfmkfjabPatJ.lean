/-
  A jump, and a branch, that are patched, at any place of an image of zeros, in the plain machine. No condition but those that are written at each.
-/
import Derived.Test.YtieehjkmfmkfjabPatL
namespace Go.Proofs.Ytieehjkmfmkfjab
open Go.RowKit
set_option linter.unusedVariables false
set_option linter.unusedSimpArgs false
namespace PJ
open MM MC MB MP MQ MR MX PM PL OU OPt
/-- an image of zeros, but for one word -/
def fw (P : Nat) (x : Int) : Nat → Int := fun k => if P ≤ k ∧ k < P + 4 then x / 256 ^ (k - P) % 256 else 0
theorem fw_bd (P : Nat) (x : Int) (k : Nat) : 0 ≤ fw P x k ∧ fw P x k ≤ 255 := by unfold fw; split <;> omega
theorem num_fw (P : Nat) (x : Int) (hx : 0 ≤ x ∧ x < 4294967296) (u : Int) (N : Nat) (e : Int) : num (MW.loaded (fw P x) (P + 4) u N e).mem P 4 = x := by
  have h : ∀ j, j < 4 → (MW.loaded (fw P x) (P + 4) u N e).mem (P + j) = x / 256 ^ j % 256 := fun j hj => by
    show MW.bytesOf (fw P x) (P + 4) (P + j) = _
    unfold MW.bytesOf fw
    rw [if_pos (by omega), if_pos (by omega), show P + j - P = j by omega]
  rw [num_four]
  have h0 := h 0 (by omega)
  have h1 := h 1 (by omega)
  have h2 := h 2 (by omega)
  have h3 := h 3 (by omega)
  simp only [Nat.add_zero] at h0
  rw [h0, h1, h2, h3]
  simp
  omega
/-- the instruction that is patched, its Kind, how far it may be -/
def opJ (b : Bool) (im : Int) : Ins := if b then (32, 0, 0, 0, im) else (40, 1, 0, 0, im)
theorem far_is (V P : Nat) (hV : V ≤ 262140) (hP : P ≤ 262140) : farI V P = (V : Int) - P := by unfold farI wrap32; omega
theorem jal_words (V P : Nat) (hV : V ≤ 262140) (hP : P ≤ 262140) (h4 : ((V : Int) - P) % 4 = 0) : pE 4 (CE.encW 40 1 0 0 0) V P = 0 ∧ pW 4 (CE.encW 40 1 0 0 0) V P = wordOf (opJ false ((V : Int) - P)) ∧ good (opJ false ((V : Int) - P)) := by
  have e : immI 4 V P = (V : Int) - P := by unfold immI; rw [if_neg (by omega), if_neg (by omega)]; exact far_is V P hV hP
  obtain ⟨a1, a2, a3⟩ := pat_word (v := (V : Int)) (p := (P : Int)) (k := 4) jal0 (by decide) (by omega) (by omega) true (by rw [e, fit_j]; simp; omega)
  rw [e] at a2 a3
  exact ⟨a1, a2, mk_good a3 (by omega) (by omega) (by omega) (by omega)⟩
theorem beq_words (V P : Nat) (hV : V ≤ 262140) (hP : P ≤ 262140) (h4 : ((V : Int) - P) % 4 = 0) (hf : -4096 ≤ (V : Int) - P ∧ (V : Int) - P ≤ 4094) : pE 5 (CE.encW 32 0 0 0 0) V P = 0 ∧ pW 5 (CE.encW 32 0 0 0 0) V P = wordOf (opJ true ((V : Int) - P)) ∧ good (opJ true ((V : Int) - P)) := by
  have e : immI 5 V P = (V : Int) - P := by unfold immI; rw [if_neg (by omega), if_neg (by omega)]; exact far_is V P hV hP
  obtain ⟨a1, a2, a3⟩ := pat_word (v := (V : Int)) (p := (P : Int)) (k := 5) beq0 (by decide) (by omega) (by omega) true (by rw [e, fit_b]; simp; omega)
  rw [e] at a2 a3
  exact ⟨a1, a2, mk_good a3 (by omega) (by omega) (by omega) (by omega)⟩
theorem beq_far (V P : Nat) (hV : V ≤ 262140) (hP : P ≤ 262140) (hf : ¬ (-4096 ≤ (V : Int) - P ∧ (V : Int) - P ≤ 4094)) : pE 5 (CE.encW 32 0 0 0 0) V P = 7 ∧ pW 5 (CE.encW 32 0 0 0 0) V P = 0 := by
  have e : immI 5 V P = (V : Int) - P := by unfold immI; rw [if_neg (by omega), if_neg (by omega)]; exact far_is V P hV hP
  obtain ⟨a1, a2, -⟩ := pat_word (v := (V : Int)) (p := (P : Int)) (k := 5) beq0 (by decide) (by omega) (by omega) false (by rw [e, fit_b]; simp; omega)
  exact ⟨a1, a2⟩
theorem word_bd (b : Bool) (im : Int) : 0 ≤ wordOf (opJ b im) ∧ wordOf (opJ b im) < 4294967296 := CL.enc_bd _ _ _ _ _
/-- the row of zeros, with a word's bytes -/
theorem row_word (P : Nat) (x : Int) : ((MC.row (P + 4) fun _ => Value.int .u8 0).toList.take P ++ (u8s (bts [x]) ++ (MC.row (P + 4) fun _ => Value.int .u8 0).toList.drop (P + 4))) = (List.range (P + 4)).map fun k => Value.int .u8 (fw P x k) := by
  have hr : (MC.row (P + 4) fun _ => Value.int .u8 0).toList = List.replicate (P + 4) (Value.int .u8 0) := by
    rw [← MW.rep_row]; simp
  rw [hr, List.take_replicate, List.drop_replicate, Nat.sub_self, List.replicate_zero, List.append_nil, show min P (P + 4) = P by omega]
  apply List.ext_getElem?
  intro k
  rw [List.getElem?_map]
  by_cases h1 : k < P
  · rw [List.getElem?_append_left (by simpa using h1), List.getElem?_range (by omega), List.getElem?_replicate, if_pos h1]
    unfold fw
    rw [Option.map_some, if_neg (by omega)]
  · by_cases h2 : k < P + 4
    · rw [List.getElem?_append_right (by simpa using h1), List.length_replicate, List.getElem?_range h2]
      obtain ⟨j, rfl⟩ : ∃ j, k = P + j := ⟨k - P, by omega⟩
      have hj : j = 0 ∨ j = 1 ∨ j = 2 ∨ j = 3 := by omega
      unfold fw
      rw [Option.map_some, if_pos (by omega), show P + j - P = j by omega]
      rcases hj with rfl | rfl | rfl | rfl <;> simp [u8s, bts, bs]
    · rw [List.getElem?_eq_none (by simp [u8s, bts, bs]; omega), List.getElem?_eq_none (by simp; omega)]; rfl
end PJ
end Go.Proofs.Ytieehjkmfmkfjab
