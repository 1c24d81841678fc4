/-
  Small parts of package layout, and of its document: contracts. Conditions: those that are written at each.
-/
import Derived.Test.YtaocclgnpphjfaaRows
import Derived.Test.YtaocclgnpphjfaaLayM
import Derived.WalkKit
import Derived.ProofKit
import Derived.OpenShut
import Derived.WalkLawsBesides
import Derived.WalkSpells
import Derived.Outline
import Derived.IntWalk
import Derived.Lib.Hide
namespace Go.Proofs.Ytaocclgnpphjfaa
open Go.RowKit
set_option linter.unusedVariables false
set_option linter.unusedSimpArgs false
namespace LC
open LM
theorem ret_int {k : IntKind} {a b : Int} (h : a = b) : Ending.returned (.int k a) = .returned (.int k b) := by rw [h]
theorem of_ (n : Int) (w : World) : Calls Try.prog 58 #[.int .i64 n] w fun e w' => e = .returned (.int .u32 (n % 4294967296)) ∧ w' = w := by
  go_enter Try.func58, Try.ntmps58
  go_wp2
  go_ret
  exact ⟨rfl, rfl⟩
theorem tm (n : Int) : 4294967296 * n.tdiv 4294967296 + n.tmod 4294967296 = n ∧ n.tmod 4294967296 < 4294967296 ∧ -4294967296 < n.tmod 4294967296 :=
  ⟨Int.mul_tdiv_add_tmod n _, Int.tmod_lt_of_pos n (by omega), Int.lt_tmod_of_pos n (by omega)⟩
theorem rof_ (n : Int) (w : World) : Calls Try.prog 48 #[.int .i64 n] w fun e w' => e = .returned (.int .u32 (n % 4294967296)) ∧ w' = w := by
  by_cases h0 : n.tmod 4294967296 < 0
  · have h1 : decide (n.tmod 4294967296 < 0) = true := decide_eq_true h0
    go_enter Try.func48, Try.ntmps48
    go_wp2
    go_ret
    exact ⟨ret_int (by have := tm n; rw [IntWalk.wrap64_in _ (by omega)]; omega), rfl⟩
  · have h1 : decide (n.tmod 4294967296 < 0) = false := decide_eq_false h0
    go_enter Try.func48, Try.ntmps48
    go_wp2
    go_ret
    exact ⟨ret_int (by have := tm n; omega), rfl⟩
theorem inLine_ (n : Nat) (h : n ≤ 1152921504606846976) (w : World) : Calls Try.prog 46 #[.int .i64 n] w fun e w' => e = .returned (.int .i64 (line n : Nat)) ∧ w' = w := by
  go_enter Try.func46, Try.ntmps46
  go_wp2
  go_ret
  exact ⟨ret_int (by unfold line; omega), rfl⟩
end LC
end Go.Proofs.Ytaocclgnpphjfaa
