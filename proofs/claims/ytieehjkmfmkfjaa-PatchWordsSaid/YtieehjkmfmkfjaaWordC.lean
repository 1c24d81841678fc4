/-
  What package word's functions answer, each a contract: Do, Signed, Of, Extend and what they call. Conditions: words lie from 0 to below 2^32.
-/
import Derived.Test.YtieehjkmfmkfjaaRows
import Derived.Test.YtieehjkmfmkfjaaWordM
import Derived.ProofKit
import Derived.OpenShut
import Derived.WalkLawsBesides
import Derived.WalkSpells
import Derived.Outline
namespace Go.Proofs.Ytieehjkmfmkfjaa
open Go.RowKit
set_option linter.unusedVariables false
namespace WC
open WM
theorem ret_int {k : IntKind} {a b : Int} (h : a = b) : Ending.returned (.int k a) = .returned (.int k b) := by rw [h]
theorem ret_pair {k : IntKind} {a b : Int} {v : Value} (h : a = b) : Ending.returned (.tuple #[.int k a, v]) = .returned (.tuple #[.int k b, v]) := by rw [h]

theorem signed (a : Int) (ha : Ok a) (w : World) : Calls Try.prog 68 #[.int .u32 a] w fun e w' => e = .returned (.int .i64 (wrap32 a)) ∧ w' = w := by
  go_enter Try.func68, Try.ntmps68
  go_wp2
  go_ret
  have h1 := wrap32_bd a
  exact ⟨ret_int (by rw [IntWalk.wrap64_in (wrap32 a) (by omega)]), rfl⟩
end WC
end Go.Proofs.Ytieehjkmfmkfjaa
