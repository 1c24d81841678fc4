/-
  The document's answers for instructions (package solderref03): powers, fields, words, rows, what fits: each a contract. Conditions: numbers of bits from 0 to 31; fields of registers and so on within 2^31.
-/
import Derived.Test.YtlmblfkcmhgdaaaGreatCodeQd
import Derived.RegionTactic
import Derived.BigRegion
import Derived.BigGuardPart
namespace Go.Proofs.YtlmblfkcmhgdaaaGreat
open Go.RowKit
set_option linter.unusedVariables false
set_option linter.unusedSimpArgs false
namespace CR
open CC CW
theorem pow_pos31 (n : Nat) : (0 : Int) < 2 ^ n := Int.pow_pos (by decide)
theorem pow_le31 (n : Nat) (h : n ≤ 31) : (2 : Int) ^ n ≤ 2147483648 := by
  have : (2 : Nat) ^ n ≤ 2 ^ 31 := Nat.pow_le_pow_right (by omega) h
  have h2 : ((2 ^ n : Nat) : Int) ≤ ((2 ^ 31 : Nat) : Int) := Int.ofNat_le.mpr this
  simpa using h2
theorem power (n : Int) (h1 : 0 ≤ n) (h2 : n ≤ 31) (w : World) : Calls Tryz.prog 77 #[.int .i64 n] w fun e w' => e = .returned (.int .i64 (2 ^ n.toNat)) ∧ w' = w := by
  obtain ⟨m, rfl⟩ := Int.eq_ofNat_of_zero_le h1
  go_enter Tryz.func77, Tryz.ntmps77
  go_wp2
  go_loop [3, 4] (fun p i => ∃ k : Nat, k ≤ m ∧ i = .int .i64 k ∧ p = .int .i64 (2 ^ k)) (fun _ i => m - (intOf i).toNat)
  case atStart => exact ⟨0, Nat.zero_le _, rfl, rfl⟩
  case round =>
    obtain ⟨k, hk, rfl, rfl⟩ := hrel
    have hp := pow_pos31 k
    by_cases hlt : k < m
    · have hq := pow_le31 k (by omega)
      go_wp2
      go_round
      case rel => exact ⟨k + 1, by omega, by go_num, by rw [Int.pow_succ]⟩
      case measure => simp [intOf]; omega
    · obtain rfl : k = m := by omega
      go_wp2
      go_ret
      exact ⟨rfl, rfl⟩
theorem half_even (y : Int) (h : y.tmod 2 = 0) : y.tdiv 2 = y / 2 := by
  have := Int.dvd_of_tmod_eq_zero h
  exact Int.tdiv_eq_ediv_of_dvd this
theorem half_odd (y : Int) (h : ¬ y.tmod 2 = 0) : (y - 1).tdiv 2 = y / 2 := by
  have h2 : ¬ y % 2 = 0 := fun e => h (Int.tmod_eq_zero_of_dvd (Int.dvd_of_emod_eq_zero e))
  have hd : (2 : Int) ∣ y - 1 := ⟨y / 2, by omega⟩
  rw [Int.tdiv_eq_ediv_of_dvd hd]
  omega
theorem down (x : Int) (k : Nat) : x / 2 ^ k / 2 = x / 2 ^ (k + 1) := by
  rw [Int.ediv_ediv_of_nonneg (by have := pow_pos31 k; omega), Int.pow_succ]
theorem down_bd (x : Int) (k : Nat) (h1 : -9223372036854775808 ≤ x) (h2 : x ≤ 9223372036854775807) : -9223372036854775808 ≤ x / 2 ^ k ∧ x / 2 ^ k ≤ 9223372036854775807 := by
  induction k with
  | zero => simp; omega
  | succ k ih => rw [← down]; omega
theorem tmod_fix (y P : Int) (hP : 0 < P) : (y.tmod P < 0 → y.tmod P + P = y % P) ∧ (0 ≤ y.tmod P → y.tmod P = y % P) := by
  have h1 := Int.emod_nonneg y (Int.ne_of_gt hP)
  have h2 := Int.emod_lt_of_pos y hP
  rcases Int.lt_or_le y 0 with hy | hy
  · have h3 := Int.tmod_eq_emod (a := y) (b := P)
    rw [h3]
    split
    · rename_i h; constructor <;> intro hh <;> omega
    · rename_i h
      have h4 : (P.natAbs : Int) = P := by omega
      rw [h4]
      constructor <;> intro hh <;> omega
  · rw [Int.tmod_eq_emod_of_nonneg hy]
    constructor <;> intro hh <;> omega
theorem field_ (x : Int) (m : Nat) (n : Int) (h1 : -9223372036854775808 ≤ x) (h2 : x ≤ 9223372036854775807) (hm : m ≤ 31) (hn0 : 0 ≤ n) (hn : n ≤ 31) (w : World) :
    Calls Tryz.prog 52 #[.int .i64 x, .int .i64 (m : Int), .int .i64 n] w fun e w' => e = .returned (.int .i64 (x / 2 ^ m % 2 ^ n.toNat)) ∧ w' = w := by
  have hpw := fun w => power n hn0 hn w
  have hp := pow_pos31 n.toNat
  have hq := pow_le31 n.toNat (by omega)
  go_enter Tryz.func52, Tryz.ntmps52
  go_wp2
  go_loop [0, 7] (fun y i => ∃ k : Nat, k ≤ m ∧ i = .int .i64 k ∧ y = .int .i64 (x / 2 ^ k)) (fun _ i => m - (intOf i).toNat)
  case atStart => exact ⟨0, Nat.zero_le _, rfl, by simp⟩
  case round =>
    obtain ⟨k, hk, rfl, rfl⟩ := hrel
    obtain ⟨b1, b2⟩ := down_bd x k h1 h2
    by_cases hlt : k < m
    · have hd := Lib.hid (down x k)
      by_cases ho : (x / 2 ^ k).tmod 2 = 0
      · have he := Lib.hid (half_even _ ho)
        generalize x / 2 ^ k = y at *
        go_wp2
        go_round
        case rel => exact ⟨k + 1, by omega, by go_num, by rw [← hd.out, ← he.out]⟩
        case measure => simp [intOf]; omega
      · have he := Lib.hid (half_odd _ ho)
        have hne : ¬ x / 2 ^ k = -9223372036854775808 := fun e => ho (by rw [e]; decide)
        have hb3 : -9223372036854775808 ≤ x / 2 ^ k - 1 := by omega
        have ho' : ((x / 2 ^ k).tmod 2 != 0) = true := by simp [ho]
        clear ho hne
        generalize x / 2 ^ k = y at *
        go_wp2
        go_round
        case rel => exact ⟨k + 1, by omega, by go_num, by rw [← hd.out, ← he.out]⟩
        case measure => simp [intOf]; omega
    · obtain rfl : k = m := by omega
      obtain ⟨t1, t2⟩ := tmod_fix (x / 2 ^ k) (2 ^ n.toNat) hp
      have hz : ¬ (2 : Int) ^ n.toNat = 0 := by omega
      generalize hy : x / 2 ^ k = y at *
      have HY := Lib.hid hy
      clear hy
      have hr1 := Int.tmod_lt_of_pos y hp
      have hr2 : -(2 ^ n.toNat) < y.tmod (2 ^ n.toNat) := by
        rcases Int.lt_or_le (y.tmod (2 ^ n.toNat)) 0 with c | c
        · have := t1 c; have := Int.emod_nonneg y hz; have h3 := Int.emod_lt_of_pos y hp; have h4 : y % 2 ^ n.toNat ≠ 0 := fun e => by
            have := Int.tmod_eq_zero_of_dvd (Int.dvd_of_emod_eq_zero e); omega
          omega
        · omega
      by_cases c : y.tmod (2 ^ n.toNat) < 0
      · have H := Lib.hid (t1 c)
        clear t1 t2
        go_wp2_with (go_at_call 77; refine (hpw _).mono ?_; rintro e w' ⟨rfl, rfl⟩)
        go_ret
        exact ⟨ret_int (by rw [HY.out]; exact H.out), rfl⟩
      · have H := Lib.hid (t2 (by omega))
        clear t1 t2
        go_wp2_with (go_at_call 77; refine (hpw _).mono ?_; rintro e w' ⟨rfl, rfl⟩)
        go_ret
        exact ⟨ret_int (by rw [HY.out]; exact H.out), rfl⟩
theorem word_ (o rd a rs1 rs2 b : Int) (ho : 0 ≤ o ∧ o ≤ 127) (h1 : 0 ≤ rd ∧ rd ≤ 31) (ha : 0 ≤ a ∧ a ≤ 7) (h2 : 0 ≤ rs1 ∧ rs1 ≤ 31) (h3 : 0 ≤ rs2 ∧ rs2 ≤ 31) (hb : 0 ≤ b ∧ b ≤ 127) (w : World) :
    Calls Tryz.prog 51 #[.int .i64 o, .int .i64 rd, .int .i64 a, .int .i64 rs1, .int .i64 rs2, .int .i64 b] w fun e w' => e = .returned (.int .u32 (CM.six o rd a rs1 rs2 b)) ∧ w' = w := by
  go_enter Tryz.func51, Tryz.ntmps51
  go_wp2
  go_ret
  exact ⟨ret_int (by unfold CM.six; omega), rfl⟩
end CR
end Go.Proofs.YtlmblfkcmhgdaaaGreat
