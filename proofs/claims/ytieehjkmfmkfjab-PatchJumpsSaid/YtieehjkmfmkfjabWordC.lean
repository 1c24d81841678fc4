/-
  What package word's functions answer, each a contract: Do, Signed, Of, Extend and what they call. Conditions: words lie from 0 to below 2^32.
-/
import Derived.Test.YtieehjkmfmkfjabRows
import Derived.Test.YtieehjkmfmkfjabWordM
import Derived.ProofKit
import Derived.OpenShut
import Derived.WalkLawsBesides
import Derived.WalkSpells
import Derived.Outline
namespace Go.Proofs.Ytieehjkmfmkfjab
open Go.RowKit
set_option linter.unusedVariables false
namespace WC
open WM
theorem ret_int {k : IntKind} {a b : Int} (h : a = b) : Ending.returned (.int k a) = .returned (.int k b) := by rw [h]
theorem ret_pair {k : IntKind} {a b : Int} {v : Value} (h : a = b) : Ending.returned (.tuple #[.int k a, v]) = .returned (.tuple #[.int k b, v]) := by rw [h]

theorem oneIf_y (w : World) : Calls Try.prog 82 #[.bool true] w fun e w' => e = .returned (.int .u32 1) ∧ w' = w := by
  go_enter Try.func82, Try.ntmps82
  go_wp2
  go_ret
  exact ⟨rfl, rfl⟩
theorem oneIf_n (w : World) : Calls Try.prog 82 #[.bool false] w fun e w' => e = .returned (.int .u32 0) ∧ w' = w := by
  go_enter Try.func82, Try.ntmps82
  go_wp2
  go_ret
  exact ⟨rfl, rfl⟩
theorem oneIf (p : Prop) [Decidable p] (w : World) : Calls Try.prog 82 #[.bool (decide p)] w fun e w' => e = .returned (.int .u32 (one p)) ∧ w' = w := by
  unfold one
  by_cases h : p
  · rw [if_pos h, decide_eq_true h]; exact oneIf_y w
  · rw [if_neg h, decide_eq_false h]; exact oneIf_n w

theorem upperSigned (a b : Int) (w : World) : Calls Try.prog 80 #[.int .u32 a, .int .u32 b] w fun e w' => e = .returned (.int .u32 (val 12 a b)) ∧ w' = w := by
  go_enter Try.func80, Try.ntmps80
  go_wp2
  go_ret
  refine ⟨ret_int ?_, rfl⟩
  have h1 := wrap32_bd a
  have h2 := wrap32_bd b
  have h3 := mul_bd (wrap32 a) (wrap32 b) (by omega) (by omega)
  rw [v12, IntWalk.wrap64_in (wrap32 a) (by omega), IntWalk.wrap64_in (wrap32 b) (by omega), IntWalk.wrap64_in _ (by omega)]
theorem upperUnsigned (a b : Int) (ha : Ok a) (hb : Ok b) (w : World) : Calls Try.prog 81 #[.int .u32 a, .int .u32 b] w fun e w' => e = .returned (.int .u32 (val 13 a b)) ∧ w' = w := by
  go_enter Try.func81, Try.ntmps81
  go_wp2
  go_ret
  refine ⟨ret_int ?_, rfl⟩
  have h3 := umul_bd a b ha hb
  rw [v13, IntWalk.u64_in a (by unfold Ok at ha; omega), IntWalk.u64_in b (by unfold Ok at hb; omega), IntWalk.u64_in _ (by omega)]
  omega
theorem divideSigned (a b : Int) (hb : Ok b) (w : World) : Calls Try.prog 83 #[.int .u32 a, .int .u32 b] w fun e w' => e = .returned (.int .u32 (val 14 a b)) ∧ w' = w := by
  by_cases h0 : b = 0
  · subst h0
    go_enter Try.func83, Try.ntmps83
    go_wp2
    go_ret
    exact ⟨ret_int (by rw [v14]; rfl), rfl⟩
  · have h1 : (b == 0) = false := by simpa using h0
    have h2 : ¬ wrap32 b = 0 := fun h => h0 ((wrap32_zero b hb).mp h)
    go_enter Try.func83, Try.ntmps83
    go_wp2
    go_ret
    exact ⟨ret_int (by rw [v14, if_neg h0]; simp only [wrap32]; omega), rfl⟩
theorem divideUnsigned (a b : Int) (ha : Ok a) (hb : Ok b) (w : World) : Calls Try.prog 84 #[.int .u32 a, .int .u32 b] w fun e w' => e = .returned (.int .u32 (val 15 a b)) ∧ w' = w := by
  by_cases h0 : b = 0
  · subst h0
    go_enter Try.func84, Try.ntmps84
    go_wp2
    go_ret
    exact ⟨ret_int (by rw [v15]; rfl), rfl⟩
  · have h1 : (b == 0) = false := by simpa using h0
    obtain ⟨ha1, ha2⟩ := ha
    obtain ⟨hb1, hb2⟩ := hb
    go_enter Try.func84, Try.ntmps84
    go_wp2
    go_ret
    exact ⟨ret_int (by rw [v15, if_neg h0]), rfl⟩
theorem restSigned (a b : Int) (hb : Ok b) (w : World) : Calls Try.prog 85 #[.int .u32 a, .int .u32 b] w fun e w' => e = .returned (.int .u32 (val 16 a b)) ∧ w' = w := by
  by_cases h0 : b = 0
  · subst h0
    go_enter Try.func85, Try.ntmps85
    go_wp2
    go_ret
    exact ⟨ret_int (by rw [v16]; rfl), rfl⟩
  · have h1 : (b == 0) = false := by simpa using h0
    have h2 : ¬ wrap32 b = 0 := fun h => h0 ((wrap32_zero b hb).mp h)
    go_enter Try.func85, Try.ntmps85
    go_wp2
    go_ret
    exact ⟨ret_int (by rw [v16, if_neg h0]), rfl⟩
theorem restUnsigned (a b : Int) (ha : Ok a) (hb : Ok b) (w : World) : Calls Try.prog 86 #[.int .u32 a, .int .u32 b] w fun e w' => e = .returned (.int .u32 (val 17 a b)) ∧ w' = w := by
  by_cases h0 : b = 0
  · subst h0
    go_enter Try.func86, Try.ntmps86
    go_wp2
    go_ret
    exact ⟨ret_int (by rw [v17]; rfl), rfl⟩
  · have h1 : (b == 0) = false := by simpa using h0
    obtain ⟨ha1, ha2⟩ := ha
    obtain ⟨hb1, hb2⟩ := hb
    go_enter Try.func86, Try.ntmps86
    go_wp2
    go_ret
    exact ⟨ret_int (by rw [v17, if_neg h0]), rfl⟩
set_option maxHeartbeats 1000000 in
theorem do_yes (op a b : Int) (ho : isOp op = true) (ha : Ok a) (hb : Ok b) (w : World) : Calls Try.prog 73 #[.int .i64 op, .int .u32 a, .int .u32 b] w fun e w' => e = .returned (.tuple #[.int .u32 (val op a b), .int .i64 0]) ∧ w' = w := by
  have h1 := and31 b hb
  have h2 : 0 ≤ b % 32 := by omega
  have h3 : b % 32 ≤ 31 := by omega
  rcases cases17 ho with h | h | h | h | h | h | h | h | h | h | h | h | h | h | h | h | h <;> subst h <;> clear ho
  all_goals
    go_enter Try.func73, Try.ntmps73
  · go_wp2
    go_ret2
    exact ⟨ret_pair (by rw [v1]), rfl⟩
  · go_wp2
    go_ret2
    exact ⟨ret_pair (by rw [v2]), rfl⟩
  · go_wp2
    go_ret2
    exact ⟨ret_pair (by rw [v3]), rfl⟩
  · go_wp2_with (go_at_call 82; refine (oneIf _ _).mono ?_; rintro e w' ⟨rfl, rfl⟩)
    go_ret2
    exact ⟨ret_pair (by rw [v4]), rfl⟩
  · go_wp2_with (go_at_call 82; refine (oneIf _ _).mono ?_; rintro e w' ⟨rfl, rfl⟩)
    go_ret2
    exact ⟨ret_pair (by rw [v5]), rfl⟩
  · go_wp2
    go_ret2
    exact ⟨ret_pair (by rw [v6]), rfl⟩
  · go_wp2
    go_ret2
    exact ⟨ret_pair (by rw [v7]), rfl⟩
  · go_wp2
    go_ret2
    exact ⟨ret_pair (by rw [v8]), rfl⟩
  · go_wp2
    go_ret2
    exact ⟨ret_pair (by rw [v9]), rfl⟩
  · go_wp2
    go_ret2
    exact ⟨ret_pair (by rw [v10]), rfl⟩
  · go_wp2
    go_ret2
    exact ⟨ret_pair (by rw [v11]), rfl⟩
  · go_wp2_with (go_at_call 80; refine (upperSigned a b _).mono ?_; rintro e w' ⟨rfl, rfl⟩)
    go_ret2
    exact ⟨rfl, rfl⟩
  · go_wp2_with (go_at_call 81; refine (upperUnsigned a b ha hb _).mono ?_; rintro e w' ⟨rfl, rfl⟩)
    go_ret2
    exact ⟨rfl, rfl⟩
  · go_wp2_with (go_at_call 83; refine (divideSigned a b hb _).mono ?_; rintro e w' ⟨rfl, rfl⟩)
    go_ret2
    exact ⟨rfl, rfl⟩
  · go_wp2_with (go_at_call 84; refine (divideUnsigned a b ha hb _).mono ?_; rintro e w' ⟨rfl, rfl⟩)
    go_ret2
    exact ⟨rfl, rfl⟩
  · go_wp2_with (go_at_call 85; refine (restSigned a b hb _).mono ?_; rintro e w' ⟨rfl, rfl⟩)
    go_ret2
    exact ⟨rfl, rfl⟩
  · go_wp2_with (go_at_call 86; refine (restUnsigned a b ha hb _).mono ?_; rintro e w' ⟨rfl, rfl⟩)
    go_ret2
    exact ⟨rfl, rfl⟩
theorem do_no (op a b : Int) (ho : isOp op = false) (w : World) : Calls Try.prog 73 #[.int .i64 op, .int .u32 a, .int .u32 b] w fun e w' => e = .returned (.tuple #[.int .u32 (val op a b), .int .i64 1]) ∧ w' = w := by
  rw [vno op a b ho]
  have h' : ¬ (1 ≤ op ∧ op ≤ 17) := by simpa [isOp] using ho
  have e : ∀ k : Int, 1 ≤ k → k ≤ 17 → (op == k) = false := fun k h1 h2 => by simp; omega
  have e1 := e 1 (by omega) (by omega)
  have e2 := e 2 (by omega) (by omega)
  have e3 := e 3 (by omega) (by omega)
  have e4 := e 4 (by omega) (by omega)
  have e5 := e 5 (by omega) (by omega)
  have e6 := e 6 (by omega) (by omega)
  have e7 := e 7 (by omega) (by omega)
  have e8 := e 8 (by omega) (by omega)
  have e9 := e 9 (by omega) (by omega)
  have e10 := e 10 (by omega) (by omega)
  have e11 := e 11 (by omega) (by omega)
  have e12 := e 12 (by omega) (by omega)
  have e13 := e 13 (by omega) (by omega)
  have e14 := e 14 (by omega) (by omega)
  have e15 := e 15 (by omega) (by omega)
  have e16 := e 16 (by omega) (by omega)
  have e17 := e 17 (by omega) (by omega)
  clear e ho h'
  go_enter Try.func73, Try.ntmps73
  go_wp2
  go_ret2
  exact ⟨rfl, rfl⟩

theorem signed (a : Int) (ha : Ok a) (w : World) : Calls Try.prog 22 #[.int .u32 a] w fun e w' => e = .returned (.int .i64 (wrap32 a)) ∧ w' = w := by
  go_enter Try.func22, Try.ntmps22
  go_wp2
  go_ret
  have h1 := wrap32_bd a
  exact ⟨ret_int (by rw [IntWalk.wrap64_in (wrap32 a) (by omega)]), rfl⟩
theorem of (n : Int) (w : World) : Calls Try.prog 56 #[.int .i64 n] w fun e w' => e = .returned (.int .u32 (n % 4294967296)) ∧ w' = w := by
  go_enter Try.func56, Try.ntmps56
  go_wp2
  go_ret
  exact ⟨rfl, rfl⟩
end WC
end Go.Proofs.Ytieehjkmfmkfjab
