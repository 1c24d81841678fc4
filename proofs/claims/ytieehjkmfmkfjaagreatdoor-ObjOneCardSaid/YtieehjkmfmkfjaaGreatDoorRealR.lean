/-
  What strings.HasPrefix answers of any two strings, and strings.Repeat of one nought and a count from 0 to 15. Condition: the count.
-/
import Derived.Test.YtieehjkmfmkfjaaGreatDoorRows
import Derived.ProofKit
import Derived.WalkKit
import Derived.WalkLawsBesides
import Derived.Outline
import Derived.Lib.Hide
namespace Go.Proofs.YtieehjkmfmkfjaaGreatDoor
open Go.RowKit
set_option linter.unusedVariables false
namespace RR
/-- does s begin with p? -/
def pre (s p : ByteArray) : Bool := decide (p.size ≤ s.size) && ((s.extract 0 p.size).toList == p.toList)
theorem hasPre (s p : ByteArray) (w : World) (hs : s.size ≤ 1000000) (hp : p.size ≤ 1000000) : Calls Tryz.prog 100 #[.string s, .string p] w fun e w' => e = .returned (.bool (pre s p)) ∧ w' = w := by
  by_cases h : p.size ≤ s.size
  · have e : pre s p = ((s.extract 0 p.size).toList == p.toList) := by unfold pre; rw [decide_eq_true h, Bool.true_and]
    have d : decide ((s.size : Int) ≥ (p.size : Int)) = true := decide_eq_true (by omega)
    have He := Lib.hid e
    clear e
    go_enter Tryz.func100, Tryz.ntmps100
    go_wp2
    go_ret
    exact ⟨by rw [He.out]; first | rfl | simp, rfl⟩
  · have e : pre s p = false := by unfold pre; rw [decide_eq_false h, Bool.false_and]
    have d : decide ((s.size : Int) ≥ (p.size : Int)) = false := decide_eq_false (by omega)
    have He := Lib.hid e
    clear e
    go_enter Tryz.func100, Tryz.ntmps100
    go_wp2
    go_ret
    exact ⟨by rw [He.out]; first | rfl | simp, rfl⟩
theorem hasPrefix (s p : ByteArray) (b : Bool) (w : World) (hs : s.size ≤ 1000000) (hp : p.size ≤ 1000000) (h : pre s p = b) : Calls Tryz.prog 80 #[.string s, .string p] w fun e w' => e = .returned (.bool b) ∧ w' = w := by
  have c := fun w => hasPre s p w hs hp
  rw [h] at c
  clear h
  go_enter Tryz.func80, Tryz.ntmps80
  go_wp2_with (go_at_call 100; refine (c _).mono ?_; rintro e w' ⟨rfl, rfl⟩)
  go_ret
  exact ⟨rfl, rfl⟩
theorem mul64 (c : Nat) (h : c ≤ 15) (w : World) : Calls Tryz.prog 99 #[.int .u64 1, .int .u64 (c : Int)] w fun e w' => e = .returned (.tuple #[.int .u64 0, .int .u64 (c : Int)]) ∧ w' = w := by
  have hc : c = 0 ∨ c = 1 ∨ c = 2 ∨ c = 3 ∨ c = 4 ∨ c = 5 ∨ c = 6 ∨ c = 7 ∨ c = 8 ∨ c = 9 ∨ c = 10 ∨ c = 11 ∨ c = 12 ∨ c = 13 ∨ c = 14 ∨ c = 15 := by omega
  rcases hc with rfl | rfl | rfl | rfl | rfl | rfl | rfl | rfl | rfl | rfl | rfl | rfl | rfl | rfl | rfl | rfl
  all_goals
    go_enter Tryz.func99, Tryz.ntmps99
    go_wp2
    go_ret2
    exact ⟨by first | rfl | kernel_rfl, rfl⟩
theorem mul (c : Nat) (h : c ≤ 15) (w : World) : Calls Tryz.prog 79 #[.int .u64 1, .int .u64 (c : Int)] w fun e w' => e = .returned (.tuple #[.int .u64 0, .int .u64 (c : Int)]) ∧ w' = w := by
  go_enter Tryz.func79, Tryz.ntmps79
  go_wp2_with (go_at_call 99; refine (mul64 c h _).mono ?_; rintro e w' ⟨rfl, rfl⟩)
  go_ret2
  exact ⟨rfl, rfl⟩
set_option maxRecDepth 100000 in
set_option maxHeartbeats 4000000 in
theorem rep (c : Nat) (h : c ≤ 15) (w : World) : Calls Tryz.prog 65 #[.string ⟨#[48]⟩, .int .i64 (c : Int)] w fun e w' => e = .returned (.string ⟨(List.replicate c 48).toArray⟩) ∧ w' = w := by
  have hc : c = 0 ∨ c = 1 ∨ c = 2 ∨ c = 3 ∨ c = 4 ∨ c = 5 ∨ c = 6 ∨ c = 7 ∨ c = 8 ∨ c = 9 ∨ c = 10 ∨ c = 11 ∨ c = 12 ∨ c = 13 ∨ c = 14 ∨ c = 15 := by omega
  have m := fun w => mul c h w
  rcases hc with rfl | rfl | rfl | rfl | rfl | rfl | rfl | rfl | rfl | rfl | rfl | rfl | rfl | rfl | rfl | rfl
  all_goals
    go_enter Tryz.func65, Tryz.ntmps65
    go_wp2_with (first
      | (go_at_call 79; refine (m _).mono ?_; rintro e w' ⟨rfl, rfl⟩)
      | (go_at_call 80; (first | refine (hasPrefix _ _ false _ (by decide) (by decide) (by decide +kernel)).mono ?_ | refine (hasPrefix _ _ true _ (by decide) (by decide) (by decide +kernel)).mono ?_); rintro e w' ⟨rfl, rfl⟩))
    go_ret
    exact ⟨by first | rfl | kernel_rfl, rfl⟩
theorem rep' (x : Int) (c : Nat) (hx : x = c) (h : c ≤ 15) (w : World) : Calls Tryz.prog 65 #[.string ⟨#[48]⟩, .int .i64 x] w fun e w' => e = .returned (.string ⟨(List.replicate c 48).toArray⟩) ∧ w' = w := by
  subst hx
  exact rep c h w
end RR
end Go.Proofs.YtieehjkmfmkfjaaGreatDoor
