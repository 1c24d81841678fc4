/-
  The statements' helpers awake and do (package solderlaw01), each a contract. Conditions: words lie from 0 to below 2^32; do's operation is one.
-/
import Derived.Test.YtdnddgfnpefklaaWordC
namespace Go.Proofs.Ytdnddgfnpefklaa
open Go.RowKit
set_option linter.unusedVariables false
namespace WL
open WM WC
theorem v14_70 : val 14 7 0 = 4294967295 := by rw [v14]; rfl
theorem v8_84 : val 8 2147483648 4 = 4160749568 := by
  rw [v8]; unfold wrap32; decide
theorem awake (w : World) : Calls Try.prog 11 #[] w fun e w' => e = .returned (.bool true) ∧ w' = w := by
  have d1 := fun w => do_yes 14 7 0 rfl ⟨by omega, by omega⟩ ⟨by omega, by omega⟩ w
  have d2 := fun w => do_yes 8 2147483648 4 rfl ⟨by omega, by omega⟩ ⟨by omega, by omega⟩ w
  rw [v14_70] at d1
  rw [v8_84] at d2
  go_enter Try.func11, Try.ntmps11
  go_wp2_with (first
    | (go_at_call 12; with_reducible refine (d1 _).mono ?_; rintro e w' ⟨rfl, rfl⟩)
    | (go_at_call 12; with_reducible refine (d2 _).mono ?_; rintro e w' ⟨rfl, rfl⟩))
  go_ret
  exact ⟨rfl, rfl⟩
theorem do_ (op a b : Int) (ho : isOp op = true) (ha : Ok a) (hb : Ok b) (w : World) : Calls Try.prog 20 #[.int .i64 op, .int .u32 a, .int .u32 b] w fun e w' => e = .returned (.int .u32 (val op a b)) ∧ w' = w := by
  go_enter Try.func20, Try.ntmps20
  go_wp2_with (go_at_call 12; refine (do_yes _ _ _ (by assumption) (by assumption) (by assumption) _).mono ?_; rintro e w' ⟨rfl, rfl⟩)
  go_ret
  exact ⟨rfl, rfl⟩
end WL
end Go.Proofs.Ytdnddgfnpefklaa
