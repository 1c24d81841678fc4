/-
  What package code's small functions answer, each a contract. Conditions: counts of bits from 0 to 31.
-/
import Derived.Test.YtlmblfkcmhgdaaaRows
import Derived.Test.YtlmblfkcmhgdaaaCodeM
import Derived.ProofKit
import Derived.OpenShut
import Derived.WalkKit
import Derived.WalkLawsBesides
import Derived.WalkSpells
import Derived.Outline
import Derived.Below
import Derived.Laws.Rows
import Derived.Laws.Tables
import Derived.Deep.WholeRow
import Derived.Deep.MidRow
import Derived.Great.Walk
import Derived.Deep.Draws
import Derived.Deep.QuietTactic
import Derived.BigQuiet
import Derived.Lib.Hide
namespace Go.Proofs.Ytlmblfkcmhgdaaa
open Go.RowKit
set_option linter.unusedVariables false
namespace CC
theorem ret_int {k : IntKind} {a b : Int} (h : a = b) : Ending.returned (.int k a) = .returned (.int k b) := by rw [h]
theorem pow31 (b : Int) (h0 : 0 ≤ b) (h1 : b ≤ 31) : 0 < (2 : Int) ^ b.toNat ∧ (2 : Int) ^ b.toNat ≤ 2147483648 := by
  have h3 : (2 : Nat) ^ b.toNat ≤ 2 ^ 31 := Nat.pow_le_pow_right (by omega) (by omega)
  have h2 : ((2 ^ b.toNat : Nat) : Int) ≤ ((2 ^ 31 : Nat) : Int) := Int.ofNat_le.mpr h3
  exact ⟨Int.pow_pos (by decide), by simpa using h2⟩
theorem full (b : Int) (h0 : 0 ≤ b) (h1 : b ≤ 31) (w : World) : Calls Try.prog 33 #[.int .i64 b] w fun e w' => e = .returned (.int .u32 (2 ^ b.toNat - 1)) ∧ w = w' := by
  obtain ⟨p1, p2⟩ := pow31 b h0 h1
  go_enter Try.func33, Try.ntmps33
  go_wp2
  go_ret
  exact ⟨ret_int (by omega), rfl⟩
/-- a register's use, at a place of the word -/
def rg (a : Int) : Array Value := #[.int .i64 0, .int .i64 31, .int .i64 1, .int .i64 0, .int .i64 5, .int .i64 a, .int .i64 0, .int .i64 0, .int .i64 0, .int .i64 0, .int .i64 0, .int .i64 0, .int .i64 0, .int .i64 0, .int .i64 0]
theorem register_ (a : Int) (w : World) : Calls Try.prog 39 #[.int .i64 a] w fun e w' => e = .returned (.agg (rg a)) ∧ w' = w.alloc (.cells (rg a) 90) := by
  go_enter Try.func39, Try.ntmps39
  go_wp2
  exact bodyPost_ret (v := .agg #[.int .i64 0, .int .i64 31, .int .i64 1, .int .i64 0, .int .i64 5, .int .i64 a, .int .i64 0, .int .i64 0, .int .i64 0, .int .i64 0, .int .i64 0, .int .i64 0, .int .i64 0, .int .i64 0, .int .i64 0]) (by simp [results, Try.results39, go_sem]) rfl ⟨rfl, rfl⟩
end CC
end Go.Proofs.Ytlmblfkcmhgdaaa
