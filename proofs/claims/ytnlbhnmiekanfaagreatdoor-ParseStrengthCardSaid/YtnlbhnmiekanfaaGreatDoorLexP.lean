/-
  Reserved words and signs, told. Condition: none.
-/
import Derived.Test.YtnlbhnmiekanfaaGreatDoorLexO
namespace Go.Proofs.YtnlbhnmiekanfaaGreatDoor
open Go.RowKit
set_option linter.unusedVariables false
set_option linter.unusedSimpArgs false
namespace LxC
open Lx
theorem any_of (l : List UInt8) (ws : List (List UInt8)) : ws.contains l = ws.any (l == ·) := by
  induction ws with
  | nil => rfl
  | cons a t ih => rw [List.contains_cons, ih, List.any_cons]
theorem reserved_any (s : ByteArray) : reserved s.data.toList = words.any (s.toList == ·) := by
  rw [ByteArray.toList_eq]
  exact any_of _ _
theorem isSign_any (s : ByteArray) : isSign s.data.toList = (twos.any (s.toList == ·) || ones.any (s.toList == ·)) := by
  rw [ByteArray.toList_eq]
  unfold isSign
  rw [any_of, any_of]
set_option maxRecDepth 100000 in
set_option maxHeartbeats 4000000 in
theorem isReserved_ (s : ByteArray) (w : World) : Calls Tryz.prog 165 #[.string s] w fun e w' => e = .returned (.bool (reserved s.data.toList)) ∧ w = w' := by
  rw [reserved_any]
  obtain ⟨r, hr⟩ : ∃ r, words.any (s.toList == ·) = r := ⟨_, rfl⟩
  rw [hr]
  have HR := Lib.hid hr
  clear hr
  go_enter Tryz.func165, Tryz.ntmps165
  go_wp2
  all_goals
    go_ret
    exact ⟨ret_bool (by rw [← HR.out]; simp only [words, List.any_cons, List.any_nil]; clear HR; simp_all), rfl⟩
set_option maxRecDepth 100000 in
set_option maxHeartbeats 16000000 in
theorem isSign_ (s : ByteArray) (w : World) : Calls Tryz.prog 168 #[.string s] w fun e w' => e = .returned (.bool (isSign s.data.toList)) ∧ w = w' := by
  rw [isSign_any]
  obtain ⟨r, hr⟩ : ∃ r, (twos.any (s.toList == ·) || ones.any (s.toList == ·)) = r := ⟨_, rfl⟩
  rw [hr]
  have HR := Lib.hid hr
  clear hr
  go_enter Tryz.func168, Tryz.ntmps168
  go_wp2
  all_goals
    go_ret
    exact ⟨ret_bool (by rw [← HR.out]; simp only [twos, ones, List.any_cons, List.any_nil]; clear HR; simp_all), rfl⟩
end LxC
end Go.Proofs.YtnlbhnmiekanfaaGreatDoor
