/-
  What Extend answers, package word's and the document's (package solderref01), each a contract. Conditions: words lie from 0 to below 2^32.
-/
import Derived.Test.YtieehjkmfmkfjabWordR
import Derived.Test.YtieehjkmfmkfjabWordN
namespace Go.Proofs.Ytieehjkmfmkfjab
open Go.RowKit
set_option linter.unusedVariables false
namespace WG
open WM WC
theorem extend_no (a n : Int) (h : ¬ (1 ≤ n ∧ n ≤ 32)) (w : World) : Calls Try.prog 21 #[.int .u32 a, .int .i64 n] w fun e w' => e = .returned (.tuple #[.int .u32 0, .int .i64 1]) ∧ w' = w := by
  by_cases h1 : n < 1
  · go_enter Try.func21, Try.ntmps21
    go_wp2
    go_ret2
    exact ⟨rfl, rfl⟩
  · have h2 : 32 < n := by omega
    go_enter Try.func21, Try.ntmps21
    go_wp2
    go_ret2
    exact ⟨rfl, rfl⟩
theorem extend_yes (a n : Int) (ha : Ok a) (h1 : 1 ≤ n) (h2 : n ≤ 32) (w : World) : Calls Try.prog 21 #[.int .u32 a, .int .i64 n] w fun e w' => e = .returned (.tuple #[.int .u32 (ext a n), .int .i64 0]) ∧ w' = w := by
  have h3 : ¬ n < 1 := by omega
  have h4 : ¬ 32 < n := by omega
  have h5 : 0 ≤ 32 - n := by omega
  have H := Lib.hid (ext_moved a n h1 h2)
  go_enter Try.func21, Try.ntmps21
  go_wp2
  go_ret2
  exact ⟨ret_pair (by exact H.out), rfl⟩
end WG
end Go.Proofs.Ytieehjkmfmkfjab
