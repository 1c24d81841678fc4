/-
  What Extend answers, package word's and the document's (package solderref01), each a contract. Conditions: words lie from 0 to below 2^32.
-/
import Derived.Test.YtdnddgfnpefklaaWordR
import Derived.Test.YtdnddgfnpefklaaWordN
namespace Go.Proofs.Ytdnddgfnpefklaa
open Go.RowKit
set_option linter.unusedVariables false
namespace WG
open WM WC
theorem extend_no (a n : Int) (h : ¬ (1 ≤ n ∧ n ≤ 32)) (w : World) : Calls Try.prog 18 #[.int .u32 a, .int .i64 n] w fun e w' => e = .returned (.tuple #[.int .u32 0, .int .i64 1]) ∧ w' = w := by
  by_cases h1 : n < 1
  · go_enter Try.func18, Try.ntmps18
    go_wp2
    go_ret2
    exact ⟨rfl, rfl⟩
  · have h2 : 32 < n := by omega
    go_enter Try.func18, Try.ntmps18
    go_wp2
    go_ret2
    exact ⟨rfl, rfl⟩
theorem extend_yes (a n : Int) (ha : Ok a) (h1 : 1 ≤ n) (h2 : n ≤ 32) (w : World) : Calls Try.prog 18 #[.int .u32 a, .int .i64 n] w fun e w' => e = .returned (.tuple #[.int .u32 (ext a n), .int .i64 0]) ∧ w' = w := by
  have h3 : ¬ n < 1 := by omega
  have h4 : ¬ 32 < n := by omega
  have h5 : 0 ≤ 32 - n := by omega
  have H := Lib.hid (ext_moved a n h1 h2)
  go_enter Try.func18, Try.ntmps18
  go_wp2
  go_ret2
  exact ⟨ret_pair (by exact H.out), rfl⟩
theorem rextend_no (a n : Int) (h : ¬ (1 ≤ n ∧ n ≤ 32)) (w : World) : Calls Try.prog 19 #[.int .u32 a, .int .i64 n] w fun e w' => e = .returned (.tuple #[.int .u32 0, .bool false]) ∧ w' = w := by
  by_cases h1 : n < 1
  · go_enter Try.func19, Try.ntmps19
    go_wp2
    go_ret2
    exact ⟨rfl, rfl⟩
  · have h2 : 32 < n := by omega
    go_enter Try.func19, Try.ntmps19
    go_wp2
    go_ret2
    exact ⟨rfl, rfl⟩
theorem rextend_yes (a n : Int) (ha : Ok a) (h1 : 1 ≤ n) (h2 : n ≤ 32) (w : World) : Calls Try.prog 19 #[.int .u32 a, .int .i64 n] w fun e w' => e = .returned (.tuple #[.int .u32 (ext a n), .bool true]) ∧ w' = w := by
  have h3 : ¬ n < 1 := by omega
  have h4 : ¬ 32 < n := by omega
  have p1 := pow_pos32 n.toNat
  have p2 := pow_le32 n.toNat (by omega)
  have hz : ¬ (2 : Int) ^ n.toNat = 0 := by omega
  have q1 := Int.emod_nonneg a (Int.ne_of_gt p1)
  have q2 := Int.emod_lt_of_pos a p1
  obtain ⟨ha1, ha2⟩ := ha
  have hu : Hid (ext a n = if 2 ^ (n.toNat - 1) ≤ a % 2 ^ n.toNat then a % 2 ^ n.toNat - 2 ^ n.toNat + 4294967296 else a % 2 ^ n.toNat) := Lib.hid rfl
  have c1 := fun w => WR.power n (by omega) (by omega) w
  have c2 := fun w => WR.power (n - 1) (by omega) (by omega) w
  have e : (n - 1).toNat = n.toNat - 1 := by omega
  rw [e] at c2
  clear e
  by_cases hc : 2 ^ (n.toNat - 1) ≤ a % 2 ^ n.toNat
  · have hv : Hid (ext a n = a % 2 ^ n.toNat - 2 ^ n.toNat + 4294967296) := Lib.hid (by rw [hu.out, if_pos hc])
    clear hu
    go_enter Try.func19, Try.ntmps19
    go_wp2_with (first
      | (go_at_call 28; with_reducible refine (c1 _).mono ?_; rintro e w' ⟨rfl, rfl⟩)
      | (go_at_call 28; with_reducible refine (c2 _).mono ?_; rintro e w' ⟨rfl, rfl⟩)
      | (go_at_call 17; refine (WR.of _ (by omega) (by omega) _).mono ?_; rintro e w' ⟨rfl, rfl⟩))
    go_ret2
    exact ⟨ret_pair (by rw [hv.out]; omega), rfl⟩
  · have hv : Hid (ext a n = a % 2 ^ n.toNat) := Lib.hid (by rw [hu.out, if_neg hc])
    clear hu
    go_enter Try.func19, Try.ntmps19
    go_wp2_with (first
      | (go_at_call 28; with_reducible refine (c1 _).mono ?_; rintro e w' ⟨rfl, rfl⟩)
      | (go_at_call 28; with_reducible refine (c2 _).mono ?_; rintro e w' ⟨rfl, rfl⟩)
      | (go_at_call 17; refine (WR.of _ (by omega) (by omega) _).mono ?_; rintro e w' ⟨rfl, rfl⟩))
    go_ret2
    exact ⟨ret_pair (by rw [hv.out]; omega), rfl⟩
end WG
end Go.Proofs.Ytdnddgfnpefklaa
