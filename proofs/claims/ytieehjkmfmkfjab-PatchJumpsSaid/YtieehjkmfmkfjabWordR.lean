/-
  What the document's answers for words answer (package solderref01), each a contract. Conditions: words lie from 0 to below 2^32, numbers in 64 bits.
-/
import Derived.Test.YtieehjkmfmkfjabWordC
import Derived.Lib.Hide
import Derived.Deep.QuietTactic
import Derived.BigQuiet
namespace Go.Proofs.Ytieehjkmfmkfjab
open Go.RowKit
set_option linter.unusedVariables false
namespace WR
open WM WC
theorem of (n : Int) (h1 : -9223372036854775808 ≤ n) (h2 : n ≤ 9223372036854775807) (w : World) : Calls Try.prog 24 #[.int .i64 n] w fun e w' => e = .returned (.int .u32 (n % 4294967296)) ∧ w' = w := by
  have t1 := (tmod_bd n 4294967296 (by omega)).1
  have t2 := (tmod_bd n 4294967296 (by omega)).2
  by_cases h : n.tmod 4294967296 < 0
  · have hq := (floor_neg n 4294967296 (by omega) h).2
    have H := Lib.hid hq
    clear hq
    go_enter Try.func24, Try.ntmps24
    go_wp2
    go_ret
    exact ⟨ret_int (by have := H.out; omega), rfl⟩
  · have hq := (floor_pos n 4294967296 (by omega) h).2
    have H := Lib.hid hq
    clear hq
    go_enter Try.func24, Try.ntmps24
    go_wp2
    go_ret
    exact ⟨ret_int (by have := H.out; omega), rfl⟩
end WR
end Go.Proofs.Ytieehjkmfmkfjab
