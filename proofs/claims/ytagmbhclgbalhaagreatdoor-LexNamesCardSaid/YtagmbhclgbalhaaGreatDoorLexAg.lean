/-
  The law LexNames, walked. Condition: Go's own variables lie.
-/
import Derived.Test.YtagmbhclgbalhaaGreatDoorLexAf
import Derived.ChangeSlices
namespace Go.Proofs.YtagmbhclgbalhaaGreatDoor
open Go.RowKit
set_option linter.unusedVariables false
set_option linter.unusedSimpArgs false
namespace LxC
open Lx
def wordB : Array Value := #[.string ⟨#[105, 110, 116]⟩, .string ⟨#[100, 111, 117, 98, 108, 101]⟩, .string ⟨#[118, 111, 105, 100]⟩, .string ⟨#[115, 116, 97, 116, 105, 99]⟩, .string ⟨#[101, 120, 116, 101, 114, 110]⟩, .string ⟨#[105, 102]⟩, .string ⟨#[101, 108, 115, 101]⟩, .string ⟨#[119, 104, 105, 108, 101]⟩, .string ⟨#[114, 101, 116, 117, 114, 110]⟩, .string ⟨#[98, 114, 101, 97, 107]⟩, .string ⟨#[99, 111, 110, 116, 105, 110, 117, 101]⟩]
theorem wordB_get (k : Nat) (h : k < 11) : wordB[k]? = some (.string ⟨(words.getD k []).toArray⟩) := by
  rcases (show k = 0 ∨ k = 1 ∨ k = 2 ∨ k = 3 ∨ k = 4 ∨ k = 5 ∨ k = 6 ∨ k = 7 ∨ k = 8 ∨ k = 9 ∨ k = 10 by omega) with rfl | rfl | rfl | rfl | rfl | rfl | rfl | rfl | rfl | rfl | rfl <;> rfl
theorem words_get (k : Nat) (h : k < 11) : words[k]? = some (words.getD k []) := by
  rw [List.getD_eq_getElem?_getD, List.getElem?_eq_getElem (show k < words.length from h)]; rfl
set_option maxRecDepth 100000 in
set_option maxHeartbeats 4000000 in
theorem word_ (s : ByteArray) (w : World) : Calls Tryz.prog 28 #[.string s] w fun e w' => e = .returned (.bool (reserved s.data.toList)) ∧ Below w.heap.size w w' := by
  go_enter Tryz.func28, Tryz.ntmps28
  go_wp2_with fail
  go_loopg [6] 11 (fun gg i wr => ∃ k : Nat, 11 - k ≤ gg ∧ k ≤ 11 ∧ i = .int .i64 (k : Int) ∧ Aside (wr.heap[w.heap.size]? = some (.cells wordB 97 (0, 0))) ∧ Aside (Below w.heap.size w wr) ∧ Aside (∀ j, j < k → words[j]? ≠ some s.data.toList))
  case atStart => exact ⟨0, by omega, by omega, rfl, heap_alloc_new w _, (Below.refl _ _).alloc (Nat.le_refl _) _, fun j hj => by omega⟩
  case round =>
    obtain ⟨k, hgg, hk, rfl, A1, A2, A3⟩ := hrel
    by_cases hlt : k < 11
    · have hc : wr.cell? ⟨w.heap.size, k, none⟩ = some (.string ⟨(words.getD k []).toArray⟩) := by
        rw [cell_of_row wr w.heap.size k wordB _ _ A1.out]; exact wordB_get k hlt
      have hwk := words_get k hlt
      have hs : (ByteArray.mk (words.getD k []).toArray).toList = words.getD k [] := by rw [ByteArray.toList_eq]
      obtain ⟨B, hB⟩ : ∃ B, B = ByteArray.mk (words.getD k []).toArray := ⟨_, rfl⟩
      rw [← hB] at hc hs
      have A4 : Aside ((B.toList == s.toList) = true → reserved s.data.toList = true) := by
        intro h
        have := eq_of_beq h
        rw [hs, ByteArray.toList_eq] at this
        unfold reserved
        rw [List.contains_eq_mem, decide_eq_true_eq, ← this]
        exact List.mem_of_getElem? hwk
      have A5 : Aside ((B.toList == s.toList) = false → ∀ j, j < k + 1 → words[j]? ≠ some s.data.toList) := by
        intro h j hj
        by_cases hjk : j = k
        · subst hjk
          rw [hwk]
          intro e
          have e1 := Option.some.inj e
          rw [hs, ByteArray.toList_eq, e1] at h
          simp at h
        · exact A3.out j (by omega)
      clear hB hs hwk
      cases hb : (B.toList == s.toList) with
      | true =>
        have A6 := A4.out hb
        have H6 := Lib.hid A6
        clear A6
        go_wp2
        go_ret
        exact ⟨ret_bool H6.out.symm, A2.out⟩
      | false =>
        have H6 := Lib.hid (A5.out hb)
        go_wp2
        go_roundg (11 - (k + 1))
        case measure => omega
        case rel => exact ⟨k + 1, by omega, by omega, by go_num, A1.out, A2.out, H6.out⟩
    · obtain rfl : k = 11 := by omega
      have H6 : Hid (reserved s.data.toList = false) := by
        show reserved s.data.toList = false
        unfold reserved
        rw [List.contains_eq_mem, decide_eq_false_iff_not]
        intro h
        obtain ⟨j, hj, e⟩ := List.getElem_of_mem h
        exact A3.out j hj (by rw [List.getElem?_eq_getElem hj, e])
      go_wp2
      go_ret
      exact ⟨ret_bool H6.out.symm, A2.out⟩
end LxC
end Go.Proofs.YtagmbhclgbalhaaGreatDoor
