/-
  What the document's Do answers for words (package solderref01), as a contract: the same number as package word's Do. Conditions: words lie from 0 to below 2^32.
-/
import Derived.Test.YtdnddgfnpefklaaWordD
namespace Go.Proofs.Ytdnddgfnpefklaa
open Go.RowKit
set_option linter.unusedVariables false
namespace WR
open WM WC
def Quiet (v : Value) (w : World) (e : Ending) (w' : World) : Prop := e = .returned v ∧ ∃ n, w' = w.drewN n
set_option maxHeartbeats 1000000 in
theorem do_yes (op a b : Int) (ho : isOp op = true) (ha : Ok a) (hb : Ok b) (w : World) : Calls Try.prog 13 #[.int .i64 op, .int .u32 a, .int .u32 b] w (Quiet (.tuple #[.int .u32 (val op a b), .bool true]) w) := by
  have h1 : 0 ≤ b % 32 := by omega
  have h2 : b % 32 ≤ 31 := by omega
  have hw1 := wrap32_bd a
  have hw2 := wrap32_bd b
  have ha0 := ha
  have hb0 := hb
  obtain ⟨ha1, ha2⟩ := ha0
  obtain ⟨hb1, hb2⟩ := hb0
  rcases cases17 ho with h | h | h | h | h | h | h | h | h | h | h | h | h | h | h | h | h <;> subst h <;> clear ho
  · rw [v1]
    go_enter Try.func13, Try.ntmps13
    go_wp2_with (first
      | (go_at_call 15; refine (signed _ (by assumption) _).mono ?_; rintro e w' ⟨rfl, rfl⟩)
      | (go_at_call 17; refine (of _ (by omega) (by omega) _).mono ?_; rintro e w' ⟨rfl, rfl⟩))
    go_ret2
    exact ⟨rfl, 0, rfl⟩
  · rw [v2]
    go_enter Try.func13, Try.ntmps13
    go_wp2_with (first
      | (go_at_call 15; refine (signed _ (by assumption) _).mono ?_; rintro e w' ⟨rfl, rfl⟩)
      | (go_at_call 17; refine (of _ (by omega) (by omega) _).mono ?_; rintro e w' ⟨rfl, rfl⟩))
    go_ret2
    exact ⟨rfl, 0, rfl⟩
  · have hp1 := pow_pos32 (b % 32).toNat
    have hp2 := pow_le31 (b % 32).toNat (by omega)
    have hp3 := pow_pos32 (32 - b % 32).toNat
    have hp4 := pow_le32 (32 - b % 32).toNat (by omega)
    rw [v3, ← shl_parts a (b % 32).toNat (by omega)]
    have e1 : (32 - b % 32).toNat = 32 - (b % 32).toNat := by omega
    rw [← e1]
    have e2 := Int.emod_nonneg a (Int.ne_of_gt hp3)
    have e3 : a % 2 ^ (32 - b % 32).toNat < 2 ^ (32 - b % 32).toNat := Int.emod_lt_of_pos a hp3
    have e4 : 0 ≤ a % 2 ^ (32 - b % 32).toNat * 2 ^ (b % 32).toNat := Int.mul_nonneg e2 (by omega)
    have e5 : a % 2 ^ (32 - b % 32).toNat * 2 ^ (b % 32).toNat ≤ 4294967296 := by
      have : a % 2 ^ (32 - b % 32).toNat * 2 ^ (b % 32).toNat ≤ 2 ^ (32 - b % 32).toNat * 2 ^ (b % 32).toNat := Int.mul_le_mul_of_nonneg_right (by omega) (by omega)
      rw [← Int.pow_add, show (32 - b % 32).toNat + (b % 32).toNat = 32 by omega] at this
      simpa using this
    have hz : ¬ (2 : Int) ^ (32 - b % 32).toNat = 0 := by omega
    clear e1
    go_enter Try.func13, Try.ntmps13
    go_wp2_with (go_at_call 15; refine (signed _ (by assumption) _).mono ?_; rintro e w' ⟨rfl, rfl⟩)
    have t1 : IntKind.i64.wrap (32 - b % 32) = 32 - b % 32 := IntWalk.i64_in _ (by omega)
    have t2 : a.tmod (2 ^ (32 - b % 32).toNat) = a % 2 ^ (32 - b % 32).toNat := Int.tmod_eq_emod_of_nonneg ha1
    have t3 : IntKind.i64.wrap (a % 2 ^ (32 - b % 32).toNat) = a % 2 ^ (32 - b % 32).toNat := IntWalk.i64_in _ (by omega)
    have t4 : IntKind.i64.wrap (a % 2 ^ (32 - b % 32).toNat * 2 ^ (b % 32).toNat) = a % 2 ^ (32 - b % 32).toNat * 2 ^ (b % 32).toNat := IntWalk.i64_in _ (by omega)
    go_quiet ((first
      | (go_at_call 28; exact Calls.quiet_of_same (power _ (by omega) (by omega) _))
      | (go_at_call 17; exact Calls.quiet_of_same (of _ (by omega) (by omega) _))))
    go_wp2
    go_ret2
    exact ⟨rfl, _, rfl⟩
  · rw [v4]
    unfold one
    by_cases hc : wrap32 a < wrap32 b
    · rw [if_pos hc]
      go_enter Try.func13, Try.ntmps13
      go_wp2_with (go_at_call 15; refine (signed _ (by assumption) _).mono ?_; rintro e w' ⟨rfl, rfl⟩)
      go_ret2
      exact ⟨rfl, 0, rfl⟩
    · rw [if_neg hc]
      go_enter Try.func13, Try.ntmps13
      go_wp2_with (go_at_call 15; refine (signed _ (by assumption) _).mono ?_; rintro e w' ⟨rfl, rfl⟩)
      go_ret2
      exact ⟨rfl, 0, rfl⟩
  · rw [v5]
    unfold one
    by_cases hc : a < b
    · rw [if_pos hc]
      go_enter Try.func13, Try.ntmps13
      go_wp2_with (go_at_call 15; refine (signed _ (by assumption) _).mono ?_; rintro e w' ⟨rfl, rfl⟩)
      go_ret2
      exact ⟨rfl, 0, rfl⟩
    · rw [if_neg hc]
      go_enter Try.func13, Try.ntmps13
      go_wp2_with (go_at_call 15; refine (signed _ (by assumption) _).mono ?_; rintro e w' ⟨rfl, rfl⟩)
      go_ret2
      exact ⟨rfl, 0, rfl⟩
  · go_enter Try.func13, Try.ntmps13
    go_wp2_with (first
      | (go_at_call 15; refine (signed _ (by assumption) _).mono ?_; rintro e w' ⟨rfl, rfl⟩)
      | (go_at_call 29; refine (bits1 _ _ (by assumption) (by assumption) _).mono ?_; rintro e w' ⟨rfl, q, rfl⟩))
    go_ret2
    exact ⟨rfl, _, rfl⟩
  · have hp1 := pow_pos32 (b % 32).toNat
    have hp2 := pow_le31 (b % 32).toNat (by omega)
    have hv := val_ok 7 a b ha hb
    rw [v7] at *
    obtain ⟨hv1, hv2⟩ := hv
    have hm : Hid (a / 2 ^ (b % 32).toNat % 4294967296 = a / 2 ^ (b % 32).toNat) := by exact Lib.hid (by omega)
    have hz : ¬ (2 : Int) ^ (b % 32).toNat = 0 := by omega
    go_enter Try.func13, Try.ntmps13
    go_wp2_with (first
      | (go_at_call 15; refine (signed _ (by assumption) _).mono ?_; rintro e w' ⟨rfl, rfl⟩)
      | (go_at_call 28; refine (power _ (by omega) (by omega) _).mono ?_; rintro e w' ⟨rfl, rfl⟩))
    go_ret2
    exact ⟨ret_pair (by first | rfl | exact hm.out | omega), 0, rfl⟩
  · have hp1 := pow_pos32 (b % 32).toNat
    have hp2 := pow_le31 (b % 32).toNat (by omega)
    have hf := ediv_bd (wrap32 a) (2 ^ (b % 32).toNat) (-2147483648) 2147483647 (by omega) (by omega) (by omega) (by omega) (by omega)
    rw [v8]
    go_enter Try.func13, Try.ntmps13
    go_wp2_with (first
      | (go_at_call 15; refine (signed _ (by assumption) _).mono ?_; rintro e w' ⟨rfl, rfl⟩)
      | (go_at_call 28; refine (power _ (by omega) (by omega) _).mono ?_; rintro e w' ⟨rfl, rfl⟩)
      | (go_at_call 30; refine (floor _ _ (by omega) (by omega) (by omega) (by omega) _).mono ?_; rintro e w' ⟨rfl, rfl⟩)
      | (go_at_call 17; refine (of _ (by omega) (by omega) _).mono ?_; rintro e w' ⟨rfl, rfl⟩))
    go_ret2
    exact ⟨rfl, 0, rfl⟩
  · go_enter Try.func13, Try.ntmps13
    go_wp2_with (first
      | (go_at_call 15; refine (signed _ (by assumption) _).mono ?_; rintro e w' ⟨rfl, rfl⟩)
      | (go_at_call 29; refine (bits2 _ _ (by assumption) (by assumption) _).mono ?_; rintro e w' ⟨rfl, q, rfl⟩))
    go_ret2
    exact ⟨rfl, _, rfl⟩
  · go_enter Try.func13, Try.ntmps13
    go_wp2_with (first
      | (go_at_call 15; refine (signed _ (by assumption) _).mono ?_; rintro e w' ⟨rfl, rfl⟩)
      | (go_at_call 29; refine (bits3 _ _ (by assumption) (by assumption) _).mono ?_; rintro e w' ⟨rfl, q, rfl⟩))
    go_ret2
    exact ⟨rfl, _, rfl⟩
  · rw [v11, ← lower_parts]
    have q1 := mul_bd (a % 65536) (b - 2147483648) (by omega) (by omega)
    obtain ⟨q3, q4⟩ := half_bd (a / 65536) (b % 65536) (by omega) (by omega) (by omega) (by omega)
    obtain ⟨q5, q6⟩ : -4611686018427387904 ≤ a % 65536 * b ∧ a % 65536 * b ≤ 4611826755915743232 := by
      rw [Int.mul_sub] at q1; omega
    clear q1
    go_enter Try.func13, Try.ntmps13
    go_wp2_with (first
      | (go_at_call 15; refine (signed _ (by assumption) _).mono ?_; rintro e w' ⟨rfl, rfl⟩)
      | (go_at_call 17; refine (of _ (by omega) (by omega) _).mono ?_; rintro e w' ⟨rfl, rfl⟩))
    go_ret2
    exact ⟨rfl, 0, rfl⟩
  · rw [v12]
    have q1 := mul_bd (wrap32 a) (wrap32 b) (by omega) (by omega)
    have hf := ediv_bd (wrap32 a * wrap32 b) 4294967296 (-4611686018427387904) 4611686018427387904 (by omega) (by omega) (by omega) (by omega) (by omega)
    go_enter Try.func13, Try.ntmps13
    go_wp2_with (first
      | (go_at_call 15; refine (signed _ (by assumption) _).mono ?_; rintro e w' ⟨rfl, rfl⟩)
      | (go_at_call 30; refine (floor _ _ (by omega) (by omega) (by omega) (by omega) _).mono ?_; rintro e w' ⟨rfl, rfl⟩)
      | (go_at_call 17; refine (of _ (by omega) (by omega) _).mono ?_; rintro e w' ⟨rfl, rfl⟩))
    go_ret2
    exact ⟨rfl, 0, rfl⟩
  · go_enter Try.func13, Try.ntmps13
    go_wp2_with (first
      | (go_at_call 15; refine (signed _ (by assumption) _).mono ?_; rintro e w' ⟨rfl, rfl⟩)
      | (go_at_call 31; refine (upper _ _ (by assumption) (by assumption) _).mono ?_; rintro e w' ⟨rfl, rfl⟩))
    go_ret2
    exact ⟨rfl, 0, rfl⟩
  · go_enter Try.func13, Try.ntmps13
    go_wp2_with (first
      | (go_at_call 15; refine (signed _ (by assumption) _).mono ?_; rintro e w' ⟨rfl, rfl⟩)
      | (go_at_call 32; refine (divided_14 _ _ (by assumption) (by assumption) _).mono ?_; rintro e w' ⟨rfl, rfl⟩))
    go_ret2
    exact ⟨rfl, 0, rfl⟩
  · go_enter Try.func13, Try.ntmps13
    go_wp2_with (first
      | (go_at_call 15; refine (signed _ (by assumption) _).mono ?_; rintro e w' ⟨rfl, rfl⟩)
      | (go_at_call 32; refine (divided_15 _ _ (by assumption) (by assumption) _).mono ?_; rintro e w' ⟨rfl, rfl⟩))
    go_ret2
    exact ⟨rfl, 0, rfl⟩
  · go_enter Try.func13, Try.ntmps13
    go_wp2_with (first
      | (go_at_call 15; refine (signed _ (by assumption) _).mono ?_; rintro e w' ⟨rfl, rfl⟩)
      | (go_at_call 32; refine (divided_16 _ _ (by assumption) (by assumption) _).mono ?_; rintro e w' ⟨rfl, rfl⟩))
    go_ret2
    exact ⟨rfl, 0, rfl⟩
  · go_enter Try.func13, Try.ntmps13
    go_wp2_with (first
      | (go_at_call 15; refine (signed _ (by assumption) _).mono ?_; rintro e w' ⟨rfl, rfl⟩)
      | (go_at_call 32; refine (divided_17 _ _ (by assumption) (by assumption) _).mono ?_; rintro e w' ⟨rfl, rfl⟩))
    go_ret2
    exact ⟨rfl, 0, rfl⟩
theorem do_no (op a b : Int) (ho : isOp op = false) (ha : Ok a) (hb : Ok b) (w : World) : Calls Try.prog 13 #[.int .i64 op, .int .u32 a, .int .u32 b] w (Quiet (.tuple #[.int .u32 (val op a b), .bool false]) w) := by
  have h' : ¬ (1 ≤ op ∧ op ≤ 17) := by simpa [isOp] using ho
  have e : ∀ k : Int, 1 ≤ k → k ≤ 17 → (op == k) = false := fun k h1 h2 => by simp; omega
  have e1 := e 1 (by omega) (by omega)
  have e2 := e 2 (by omega) (by omega)
  have e3 := e 3 (by omega) (by omega)
  have e4 := e 4 (by omega) (by omega)
  have e5 := e 5 (by omega) (by omega)
  have e6 := e 6 (by omega) (by omega)
  have e7 := e 7 (by omega) (by omega)
  have e8 := e 8 (by omega) (by omega)
  have e9 := e 9 (by omega) (by omega)
  have e10 := e 10 (by omega) (by omega)
  have e11 := e 11 (by omega) (by omega)
  have e12 := e 12 (by omega) (by omega)
  have e13 := e 13 (by omega) (by omega)
  clear e h'
  go_enter Try.func13, Try.ntmps13
  go_wp2_with (first
      | (go_at_call 15; refine (signed _ (by assumption) _).mono ?_; rintro e w' ⟨rfl, rfl⟩)
      | (go_at_call 32; refine (divided_no _ _ _ (by assumption) (by assumption) (by assumption) _).mono ?_; rintro e w' ⟨rfl, rfl⟩))
  go_ret2
  exact ⟨rfl, 0, rfl⟩
end WR
end Go.Proofs.Ytdnddgfnpefklaa
