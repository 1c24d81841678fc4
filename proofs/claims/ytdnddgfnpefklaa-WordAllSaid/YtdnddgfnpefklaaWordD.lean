/-
  What the document's Do and Extend answer for words (package solderref01), as contracts: the same numbers as package word's. Conditions: words lie from 0 to below 2^32.
-/
import Derived.Test.YtdnddgfnpefklaaWordR
namespace Go.Proofs.Ytdnddgfnpefklaa
open Go.RowKit
set_option linter.unusedVariables false
namespace WR
open WM WC
theorem wrap32_0 : wrap32 0 = 0 := by unfold wrap32; omega
theorem tdiv_bd (x y : Int) (h1 : -9223372036854775807 ≤ x) (h2 : x ≤ 9223372036854775807) : -9223372036854775807 ≤ x.tdiv y ∧ x.tdiv y ≤ 9223372036854775807 := by
  have hd := Int.natAbs_tdiv_le_natAbs x y; omega
theorem tmod_bd' (x y : Int) (h1 : -9223372036854775807 ≤ x) (h2 : x ≤ 9223372036854775807) : -9223372036854775807 ≤ x.tmod y ∧ x.tmod y ≤ 9223372036854775807 := by
  have hd := Int.natAbs_tmod x y
  have := Nat.mod_le x.natAbs y.natAbs
  omega
theorem divided_14 (a b : Int) (ha : Ok a) (hb : Ok b) (w : World) : Calls Try.prog 32 #[.int .i64 14, .int .u32 a, .int .u32 b] w fun e w' => e = .returned (.tuple #[.int .u32 (val 14 a b), .bool true]) ∧ w' = w := by
  have hw1 := wrap32_bd a
  have hw2 := wrap32_bd b
  have hwz := wrap32_zero b hb
  by_cases h0 : b = 0
  · subst h0
    have e0 := wrap32_0
    rw [v14, if_pos rfl]
    go_enter Try.func32, Try.ntmps32
    go_wp2_with (go_at_call 15; refine (signed _ (by assumption) _).mono ?_; rintro e w' ⟨rfl, rfl⟩)
    go_ret2
    exact ⟨rfl, rfl⟩
  · have hz : ¬ wrap32 b = 0 := fun h => h0 (hwz.mp h)
    have hz' : (wrap32 b == 0) = false := by simpa using hz
    obtain ⟨hd1, hd2⟩ := tdiv_bd (wrap32 a) (wrap32 b) (by omega) (by omega)
    rw [v14, if_neg h0]
    clear hwz
    go_enter Try.func32, Try.ntmps32
    go_wp2_with (first
      | (go_at_call 15; refine (signed _ (by assumption) _).mono ?_; rintro e w' ⟨rfl, rfl⟩)
      | (go_at_call 17; refine (of _ (by omega) (by omega) _).mono ?_; rintro e w' ⟨rfl, rfl⟩))
    go_ret2
    exact ⟨rfl, rfl⟩
theorem divided_16 (a b : Int) (ha : Ok a) (hb : Ok b) (w : World) : Calls Try.prog 32 #[.int .i64 16, .int .u32 a, .int .u32 b] w fun e w' => e = .returned (.tuple #[.int .u32 (val 16 a b), .bool true]) ∧ w' = w := by
  have hw1 := wrap32_bd a
  have hw2 := wrap32_bd b
  have hwz := wrap32_zero b hb
  by_cases h0 : b = 0
  · subst h0
    have e0 := wrap32_0
    rw [v16, if_pos rfl]
    go_enter Try.func32, Try.ntmps32
    go_wp2_with (go_at_call 15; refine (signed _ (by assumption) _).mono ?_; rintro e w' ⟨rfl, rfl⟩)
    go_ret2
    exact ⟨rfl, rfl⟩
  · have hz : ¬ wrap32 b = 0 := fun h => h0 (hwz.mp h)
    have hz' : (wrap32 b == 0) = false := by simpa using hz
    obtain ⟨hd1, hd2⟩ := tmod_bd' (wrap32 a) (wrap32 b) (by omega) (by omega)
    rw [v16, if_neg h0]
    clear hwz
    go_enter Try.func32, Try.ntmps32
    go_wp2_with (first
      | (go_at_call 15; refine (signed _ (by assumption) _).mono ?_; rintro e w' ⟨rfl, rfl⟩)
      | (go_at_call 17; refine (of _ (by omega) (by omega) _).mono ?_; rintro e w' ⟨rfl, rfl⟩))
    go_ret2
    exact ⟨rfl, rfl⟩
theorem divided_15 (a b : Int) (ha : Ok a) (hb : Ok b) (w : World) : Calls Try.prog 32 #[.int .i64 15, .int .u32 a, .int .u32 b] w fun e w' => e = .returned (.tuple #[.int .u32 (val 15 a b), .bool true]) ∧ w' = w := by
  have hv := val_ok 15 a b ha hb
  obtain ⟨ha1, ha2⟩ := ha
  obtain ⟨hb1, hb2⟩ := hb
  by_cases h0 : b = 0
  · subst h0
    rw [v15, if_pos rfl]
    clear hv
    go_enter Try.func32, Try.ntmps32
    go_wp2_with (go_at_call 15; refine (signed _ ⟨by omega, by omega⟩ _).mono ?_; rintro e w' ⟨rfl, rfl⟩)
    go_ret2
    exact ⟨rfl, rfl⟩
  · have hz' : (b == 0) = false := by simpa using h0
    rw [v15, if_neg h0] at *
    obtain ⟨hv1, hv2⟩ := hv
    have hm : Hid (a / b % 4294967296 = a / b) := by exact Lib.hid (by omega)
    go_enter Try.func32, Try.ntmps32
    go_wp2_with (first
      | (go_at_call 15; refine (signed _ ⟨by omega, by omega⟩ _).mono ?_; rintro e w' ⟨rfl, rfl⟩)
      | (go_at_call 17; refine (of _ (by omega) (by omega) _).mono ?_; rintro e w' ⟨rfl, rfl⟩))
    go_ret2
    exact ⟨ret_pair hm.out, rfl⟩
theorem divided_17 (a b : Int) (ha : Ok a) (hb : Ok b) (w : World) : Calls Try.prog 32 #[.int .i64 17, .int .u32 a, .int .u32 b] w fun e w' => e = .returned (.tuple #[.int .u32 (val 17 a b), .bool true]) ∧ w' = w := by
  have hv := val_ok 17 a b ha hb
  obtain ⟨ha1, ha2⟩ := ha
  obtain ⟨hb1, hb2⟩ := hb
  by_cases h0 : b = 0
  · subst h0
    rw [v17, if_pos rfl]
    clear hv
    go_enter Try.func32, Try.ntmps32
    go_wp2_with (go_at_call 15; refine (signed _ ⟨by omega, by omega⟩ _).mono ?_; rintro e w' ⟨rfl, rfl⟩)
    go_ret2
    exact ⟨rfl, rfl⟩
  · have hz' : (b == 0) = false := by simpa using h0
    rw [v17, if_neg h0] at *
    obtain ⟨hv1, hv2⟩ := hv
    have hm : Hid (a % b % 4294967296 = a % b) := by exact Lib.hid (by omega)
    go_enter Try.func32, Try.ntmps32
    go_wp2_with (first
      | (go_at_call 15; refine (signed _ ⟨by omega, by omega⟩ _).mono ?_; rintro e w' ⟨rfl, rfl⟩)
      | (go_at_call 17; refine (of _ (by omega) (by omega) _).mono ?_; rintro e w' ⟨rfl, rfl⟩))
    go_ret2
    exact ⟨ret_pair hm.out, rfl⟩
theorem divided_no (op a b : Int) (ha : Ok a) (hb : Ok b) (ho : isOp op = false) (w : World) : Calls Try.prog 32 #[.int .i64 op, .int .u32 a, .int .u32 b] w fun e w' => e = .returned (.tuple #[.int .u32 (val op a b), .bool false]) ∧ w' = w := by
  rw [vno op a b ho]
  have h' : ¬ (1 ≤ op ∧ op ≤ 17) := by simpa [isOp] using ho
  have e14 : (op == 14) = false := by simp; omega
  have e15 : (op == 15) = false := by simp; omega
  have e16 : (op == 16) = false := by simp; omega
  have e17 : (op == 17) = false := by simp; omega
  clear ho h'
  go_enter Try.func32, Try.ntmps32
  go_wp2_with (go_at_call 15; refine (signed _ (by assumption) _).mono ?_; rintro e w' ⟨rfl, rfl⟩)
  go_ret2
  exact ⟨rfl, rfl⟩
end WR
end Go.Proofs.Ytdnddgfnpefklaa
