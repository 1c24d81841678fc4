/-
  What the document's answers for words answer (package solderref01), each a contract. Conditions: words lie from 0 to below 2^32, numbers in 64 bits.
-/
import Derived.Test.YtdnddgfnpefklaaWordC
import Derived.Lib.Hide
import Derived.Deep.QuietTactic
import Derived.BigQuiet
namespace Go.Proofs.Ytdnddgfnpefklaa
open Go.RowKit
set_option linter.unusedVariables false
namespace WR
open WM WC
theorem signed (a : Int) (ha : Ok a) (w : World) : Calls Try.prog 15 #[.int .u32 a] w fun e w' => e = .returned (.int .i64 (wrap32 a)) ∧ w' = w := by
  obtain ⟨h1, h2⟩ := ha
  by_cases h : 2147483648 ≤ a
  · go_enter Try.func15, Try.ntmps15
    go_wp2
    go_ret
    exact ⟨ret_int (by unfold wrap32; omega), rfl⟩
  · go_enter Try.func15, Try.ntmps15
    go_wp2
    go_ret
    exact ⟨ret_int (by unfold wrap32; omega), rfl⟩
theorem of (n : Int) (h1 : -9223372036854775808 ≤ n) (h2 : n ≤ 9223372036854775807) (w : World) : Calls Try.prog 17 #[.int .i64 n] w fun e w' => e = .returned (.int .u32 (n % 4294967296)) ∧ w' = w := by
  have t1 := (tmod_bd n 4294967296 (by omega)).1
  have t2 := (tmod_bd n 4294967296 (by omega)).2
  by_cases h : n.tmod 4294967296 < 0
  · have hq := (floor_neg n 4294967296 (by omega) h).2
    have H := Lib.hid hq
    clear hq
    go_enter Try.func17, Try.ntmps17
    go_wp2
    go_ret
    exact ⟨ret_int (by have := H.out; omega), rfl⟩
  · have hq := (floor_pos n 4294967296 (by omega) h).2
    have H := Lib.hid hq
    clear hq
    go_enter Try.func17, Try.ntmps17
    go_wp2
    go_ret
    exact ⟨ret_int (by have := H.out; omega), rfl⟩
theorem power (n : Int) (h1 : 0 ≤ n) (h2 : n ≤ 32) (w : World) : Calls Try.prog 28 #[.int .i64 n] w fun e w' => e = .returned (.int .i64 (2 ^ n.toNat)) ∧ w' = w := by
  obtain ⟨m, rfl⟩ := Int.eq_ofNat_of_zero_le h1
  go_enter Try.func28, Try.ntmps28
  go_wp2
  go_loop [3, 4] (fun p i => ∃ k : Nat, k ≤ m ∧ i = .int .i64 k ∧ p = .int .i64 (2 ^ k)) (fun _ i => m - (intOf i).toNat)
  case atStart => exact ⟨0, Nat.zero_le _, rfl, rfl⟩
  case round =>
    obtain ⟨k, hk, rfl, rfl⟩ := hrel
    have hp := pow_pos32 k
    by_cases hlt : k < m
    · have hq := pow_le31 k (by omega)
      go_wp2
      go_round
      case rel => exact ⟨k + 1, by omega, by go_num, by rw [Int.pow_succ]⟩
      case measure => simp [intOf]; omega
    · obtain rfl : k = m := by omega
      go_wp2
      go_ret
      exact ⟨rfl, rfl⟩
theorem floor (n m : Int) (h1 : -9223372036854775807 ≤ n) (h2 : n ≤ 9223372036854775807) (h3 : 0 < m) (h4 : m ≤ 9223372036854775807) (w : World) : Calls Try.prog 30 #[.int .i64 n, .int .i64 m] w fun e w' => e = .returned (.int .i64 (n / m)) ∧ w' = w := by
  have hz : ¬ m = 0 := by omega
  have hb := ediv_bd n m (-9223372036854775807) 9223372036854775807 h3 (by omega) (by omega) h1 h2
  by_cases h : n.tmod m < 0
  · have hq := (floor_neg n m h3 h).1
    have H := Lib.hid hq
    have hb1 : -9223372036854775807 ≤ n.tdiv m - 1 := by omega
    have hb2 : n.tdiv m ≤ 9223372036854775807 := by
      have := Int.natAbs_tdiv_le_natAbs n m; omega
    clear hq hb
    go_enter Try.func30, Try.ntmps30
    go_wp2
    go_ret
    exact ⟨ret_int (by have := H.out; (try rw [IntWalk.wrap64_in _ (by omega)]); omega), rfl⟩
  · have hq := (floor_pos n m h3 h).1
    have H := Lib.hid hq
    clear hq hb
    go_enter Try.func30, Try.ntmps30
    go_wp2
    go_ret
    exact ⟨ret_int (by have := H.out; omega), rfl⟩
theorem upper (a b : Int) (ha : Ok a) (hb : Ok b) (w : World) : Calls Try.prog 31 #[.int .u32 a, .int .u32 b] w fun e w' => e = .returned (.int .u32 (val 13 a b)) ∧ w' = w := by
  have hv := val_ok 13 a b ha hb
  rw [v13, ← upper_parts] at hv
  rw [v13, ← upper_parts]
  obtain ⟨hv1, hv2⟩ := hv
  obtain ⟨ha1, ha2⟩ := ha
  obtain ⟨hb1, hb2⟩ := hb
  obtain ⟨p1, p2⟩ := half_bd (a / 65536) (b / 65536) (by omega) (by omega) (by omega) (by omega)
  obtain ⟨p3, p4⟩ := half_bd (a / 65536) (b % 65536) (by omega) (by omega) (by omega) (by omega)
  obtain ⟨p5, p6⟩ := half_bd (a % 65536) (b / 65536) (by omega) (by omega) (by omega) (by omega)
  obtain ⟨p7, p8⟩ := half_bd (a % 65536) (b % 65536) (by omega) (by omega) (by omega) (by omega)
  go_enter Try.func31, Try.ntmps31
  go_wp2
  go_ret
  exact ⟨ret_int (by omega), rfl⟩
set_option maxHeartbeats 1000000 in
theorem bits1 (a b : Int) (ha : Ok a) (hb : Ok b) (w : World) : Calls Try.prog 29 #[.int .i64 1, .int .u32 a, .int .u32 b] w fun e w' => e = .returned (.int .u32 (val 6 a b)) ∧ ∃ n, w' = w.drewN n := by
  obtain ⟨ha1, ha2⟩ := ha
  obtain ⟨hb1, hb2⟩ := hb
  rw [v6, u32_xor a b ha1 (by omega) hb1 (by omega)]
  obtain ⟨x, rfl⟩ := Int.eq_ofNat_of_zero_le ha1
  obtain ⟨y, rfl⟩ := Int.eq_ofNat_of_zero_le hb1
  have hz : x ^^^ y < 2 ^ 32 := Nat.xor_lt_two_pow (by omega) (by omega)
  have e0 : ((x : Int).toNat ^^^ (y : Int).toNat) = x ^^^ y := rfl
  rw [e0]
  clear e0
  have hb0 : ∀ k, (x ^^^ y).testBit k = (x.testBit k ^^ y.testBit k) := fun k => by simp
  have hbit := Lib.hid hb0
  have hz2 := Lib.hid hz
  clear hz hb0
  generalize x ^^^ y = z at *
  go_enter Try.func29, Try.ntmps29
  go_wp2
  go_loopw [7, 8] (fun p i wr => ∃ k q : Nat, k ≤ 32 ∧ i = .int .i64 k ∧ p = .int .u32 ((z : Int) % 2 ^ k) ∧ wr = w.drewN q) (fun _ i _ => 32 - (intOf i).toNat)
  case atStart => exact ⟨0, 0, Nat.zero_le _, rfl, by simp, rfl⟩
  case round =>
    obtain ⟨k, q, hk, rfl, rfl, rfl⟩ := hrel
    by_cases hlt : k < 32
    · have hm := bit_moreI z k
      rw [hbit.out k] at hm
      have hb := mod_bd z k (by omega)
      have hb' := mod_bd z (k + 1) (by omega)
      rw [bit_moreI, hbit.out k] at hb'
      have hx := bit_of x k
      have hy := bit_of y k
      have h0 := pow_pos32 k
      have h1 := pow_le31 k (by omega)
      cases cx : x.testBit k <;> cases cy : y.testBit k <;> simp only [cx, cy, Bool.toNat_true, Bool.toNat_false] at hx hy hb' hm <;> clear cx cy <;> have H := Lib.hid hm <;> clear hm
      all_goals
        go_wp2
        go_quiet (fail)
        go_wp2
        go_roundw
        case rel => exact ⟨k + 1, _, by omega, by go_num, by rw [H.out]; simp, rfl⟩
        case measure => simp [intOf]; omega
    · obtain rfl : k = 32 := by omega
      go_wp2
      go_ret
      exact ⟨ret_int (by have := hz2.out; omega), q, rfl⟩
set_option maxHeartbeats 1000000 in
theorem bits2 (a b : Int) (ha : Ok a) (hb : Ok b) (w : World) : Calls Try.prog 29 #[.int .i64 2, .int .u32 a, .int .u32 b] w fun e w' => e = .returned (.int .u32 (val 9 a b)) ∧ ∃ n, w' = w.drewN n := by
  obtain ⟨ha1, ha2⟩ := ha
  obtain ⟨hb1, hb2⟩ := hb
  rw [v9, u32_or a b ha1 (by omega) hb1 (by omega)]
  obtain ⟨x, rfl⟩ := Int.eq_ofNat_of_zero_le ha1
  obtain ⟨y, rfl⟩ := Int.eq_ofNat_of_zero_le hb1
  have hz : x ||| y < 2 ^ 32 := Nat.or_lt_two_pow (by omega) (by omega)
  have e0 : ((x : Int).toNat ||| (y : Int).toNat) = x ||| y := rfl
  rw [e0]
  clear e0
  have hb0 : ∀ k, (x ||| y).testBit k = (x.testBit k || y.testBit k) := fun k => by simp
  have hbit := Lib.hid hb0
  have hz2 := Lib.hid hz
  clear hz hb0
  generalize x ||| y = z at *
  go_enter Try.func29, Try.ntmps29
  go_wp2
  go_loopw [7, 8] (fun p i wr => ∃ k q : Nat, k ≤ 32 ∧ i = .int .i64 k ∧ p = .int .u32 ((z : Int) % 2 ^ k) ∧ wr = w.drewN q) (fun _ i _ => 32 - (intOf i).toNat)
  case atStart => exact ⟨0, 0, Nat.zero_le _, rfl, by simp, rfl⟩
  case round =>
    obtain ⟨k, q, hk, rfl, rfl, rfl⟩ := hrel
    by_cases hlt : k < 32
    · have hm := bit_moreI z k
      rw [hbit.out k] at hm
      have hb := mod_bd z k (by omega)
      have hb' := mod_bd z (k + 1) (by omega)
      rw [bit_moreI, hbit.out k] at hb'
      have hx := bit_of x k
      have hy := bit_of y k
      have h0 := pow_pos32 k
      have h1 := pow_le31 k (by omega)
      cases cx : x.testBit k <;> cases cy : y.testBit k <;> simp only [cx, cy, Bool.toNat_true, Bool.toNat_false] at hx hy hb' hm <;> clear cx cy <;> have H := Lib.hid hm <;> clear hm
      all_goals
        go_wp2
        go_quiet (fail)
        go_wp2
        go_roundw
        case rel => exact ⟨k + 1, _, by omega, by go_num, by rw [H.out]; simp, rfl⟩
        case measure => simp [intOf]; omega
    · obtain rfl : k = 32 := by omega
      go_wp2
      go_ret
      exact ⟨ret_int (by have := hz2.out; omega), q, rfl⟩
set_option maxHeartbeats 1000000 in
theorem bits3 (a b : Int) (ha : Ok a) (hb : Ok b) (w : World) : Calls Try.prog 29 #[.int .i64 3, .int .u32 a, .int .u32 b] w fun e w' => e = .returned (.int .u32 (val 10 a b)) ∧ ∃ n, w' = w.drewN n := by
  obtain ⟨ha1, ha2⟩ := ha
  obtain ⟨hb1, hb2⟩ := hb
  rw [v10, u32_and a b ha1 (by omega) hb1 (by omega)]
  obtain ⟨x, rfl⟩ := Int.eq_ofNat_of_zero_le ha1
  obtain ⟨y, rfl⟩ := Int.eq_ofNat_of_zero_le hb1
  have hz : x &&& y < 2 ^ 32 := Nat.and_lt_two_pow x (by omega)
  have e0 : ((x : Int).toNat &&& (y : Int).toNat) = x &&& y := rfl
  rw [e0]
  clear e0
  have hb0 : ∀ k, (x &&& y).testBit k = (x.testBit k && y.testBit k) := fun k => by simp
  have hbit := Lib.hid hb0
  have hz2 := Lib.hid hz
  clear hz hb0
  generalize x &&& y = z at *
  go_enter Try.func29, Try.ntmps29
  go_wp2
  go_loopw [7, 8] (fun p i wr => ∃ k q : Nat, k ≤ 32 ∧ i = .int .i64 k ∧ p = .int .u32 ((z : Int) % 2 ^ k) ∧ wr = w.drewN q) (fun _ i _ => 32 - (intOf i).toNat)
  case atStart => exact ⟨0, 0, Nat.zero_le _, rfl, by simp, rfl⟩
  case round =>
    obtain ⟨k, q, hk, rfl, rfl, rfl⟩ := hrel
    by_cases hlt : k < 32
    · have hm := bit_moreI z k
      rw [hbit.out k] at hm
      have hb := mod_bd z k (by omega)
      have hb' := mod_bd z (k + 1) (by omega)
      rw [bit_moreI, hbit.out k] at hb'
      have hx := bit_of x k
      have hy := bit_of y k
      have h0 := pow_pos32 k
      have h1 := pow_le31 k (by omega)
      cases cx : x.testBit k <;> cases cy : y.testBit k <;> simp only [cx, cy, Bool.toNat_true, Bool.toNat_false] at hx hy hb' hm <;> clear cx cy <;> have H := Lib.hid hm <;> clear hm
      all_goals
        go_wp2
        go_quiet (fail)
        go_wp2
        go_roundw
        case rel => exact ⟨k + 1, _, by omega, by go_num, by rw [H.out]; simp, rfl⟩
        case measure => simp [intOf]; omega
    · obtain rfl : k = 32 := by omega
      go_wp2
      go_ret
      exact ⟨ret_int (by have := hz2.out; omega), q, rfl⟩
end WR
end Go.Proofs.Ytdnddgfnpefklaa
