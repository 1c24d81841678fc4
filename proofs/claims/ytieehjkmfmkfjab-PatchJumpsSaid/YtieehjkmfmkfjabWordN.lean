/-
  Plain arithmetic of words: the laws that the statements name, over what each operation answers. Conditions: words lie from 0 to below 2^32.
-/
import Derived.Test.YtieehjkmfmkfjabWordM
namespace Go.Proofs.Ytieehjkmfmkfjab
open Go.RowKit
set_option linter.unusedVariables false
namespace WM
/-! ### The product -/
theorem wrap32_emod (a : Int) : wrap32 a % 4294967296 = a % 4294967296 := by unfold wrap32; omega
theorem prod_u (a b : Int) : val 13 a b * 4294967296 + val 11 a b = a * b := by rw [v13, v11]; omega
theorem prod_s (a b : Int) : wrap32 (val 12 a b) * 4294967296 + val 11 a b = wrap32 a * wrap32 b := by
  have h1 := mul_bd (wrap32 a) (wrap32 b) (by have := wrap32_bd a; omega) (by have := wrap32_bd b; omega)
  have h2 : a * b % 4294967296 = wrap32 a * wrap32 b % 4294967296 := by
    rw [Int.mul_emod, Int.mul_emod (wrap32 a), wrap32_emod, wrap32_emod]
  rw [v12, v11, h2]
  unfold wrap32 at *
  omega
/-! ### Quotients and what is left -/
theorem quo_s (a b : Int) (ha : Ok a) (hb : Ok b) : val 1 (val 11 (val 14 a b) b) (val 16 a b) = a := by
  rw [v1, v11, v14, v16]
  have hm := wrap32_mod a ha
  by_cases h : b = 0
  · subst h; simp; unfold Ok at ha; omega
  · rw [if_neg h, if_neg h]
    have h1 := Int.tmod_add_mul_tdiv (wrap32 a) (wrap32 b)
    have h2 : ((wrap32 a).tdiv (wrap32 b) % 4294967296 * b) % 4294967296 = (wrap32 b * (wrap32 a).tdiv (wrap32 b)) % 4294967296 := by
      rw [Int.mul_emod, Int.emod_emod, Int.mul_comm (wrap32 b), Int.mul_emod _ (wrap32 b), wrap32_emod]
    rw [h2]
    omega
theorem quo_u (a b : Int) (ha : Ok a) : val 1 (val 11 (val 15 a b) b) (val 17 a b) = a := by
  rw [v1, v11, v15, v17]
  by_cases h : b = 0
  · subst h; simp; unfold Ok at ha; omega
  · rw [if_neg h, if_neg h]
    have h1 := Int.mul_ediv_add_emod a b
    rw [Int.mul_comm (a / b) b]
    unfold Ok at ha
    omega
theorem rem_lt (a b : Int) (hb : Ok b) (h : b ≠ 0) : val 17 a b < b := by
  rw [v17, if_neg h]; unfold Ok at hb; exact Int.emod_lt_of_pos a (by omega)
/-! ### Sums, products, XOR -/
theorem add_comm' (a b : Int) : val 1 a b = val 1 b a := by rw [v1, v1, Int.add_comm]
theorem mul_comm' (a b : Int) : val 11 a b = val 11 b a := by rw [v11, v11, Int.mul_comm]
theorem sub_add (a b : Int) (ha : Ok a) : val 2 (val 1 a b) b = a := by rw [v1, v2]; unfold Ok at ha; omega
theorem xor_xor (a b : Int) (ha : Ok a) (hb : Ok b) : val 6 (val 6 a b) b = a := by
  have hx := xor_ok a b ha hb
  rw [v6, v6]
  obtain ⟨ha1, ha2⟩ := ha
  obtain ⟨hb1, hb2⟩ := hb
  rw [u32_xor _ b hx.1 (by have := hx.2; omega) hb1 (by omega), u32_xor a b ha1 (by omega) hb1 (by omega), Int.toNat_natCast, Nat.xor_assoc, Nat.xor_self, Nat.xor_zero]
  omega
theorem distrib (a b c : Int) : val 11 a (val 1 b c) = val 1 (val 11 a b) (val 11 a c) := by
  rw [v11, v11, v11, v1, v1, Int.mul_emod, Int.emod_emod, ← Int.mul_emod, Int.mul_add]; omega
/-! ### Moves -/
theorem shl_shr (a : Int) (n : Nat) (hn : n ≤ 32) : a * 2 ^ n % 4294967296 / 2 ^ n = a % 2 ^ (32 - n) := by
  rw [← shl_parts a n hn]
  have h1 := pow_pos32 n
  have h3 := pow_pos32 (32 - n)
  have h : (2 : Int) ^ (32 - n) * 2 ^ n = 4294967296 := by rw [← Int.pow_add, Nat.sub_add_cancel hn]; rfl
  have e2 := Int.emod_nonneg a (Int.ne_of_gt h3)
  have e3 := Int.emod_lt_of_pos a h3
  have e4 : 0 ≤ a % 2 ^ (32 - n) * 2 ^ n := Int.mul_nonneg e2 (by omega)
  have e5 : a % 2 ^ (32 - n) * 2 ^ n < 4294967296 := by
    rw [← h]; exact Int.mul_lt_mul_of_pos_right e3 h1
  rw [Int.emod_eq_of_lt e4 e5, Int.mul_ediv_cancel _ (Int.ne_of_gt h1)]
theorem and_mask (a : Int) (n : Nat) (ha : Ok a) (hn : n ≤ 32) : val 10 a (2 ^ n - 1) = a % 2 ^ n := by
  have h1 := pow_pos32 n
  have h2 := pow_le32 n hn
  rw [v10, u32_and a _ ha.1 (by have := ha.2; omega) (by omega) (by omega)]
  have h3 : ((2 : Int) ^ n - 1).toNat = 2 ^ n - 1 := by
    have : ((2 ^ n : Nat) : Int) = (2 : Int) ^ n := by simp
    omega
  rw [h3, Nat.and_two_pow_sub_one_eq_mod]
  have : a = (a.toNat : Int) := by have := ha.1; omega
  rw [Int.natCast_emod, ← this]
  simp
theorem one_le (p : Prop) [Decidable p] : 0 ≤ one p ∧ one p ≤ 1 := by unfold one; split <;> omega
theorem slt_sum (a b : Int) : val 4 a b + val 4 b a ≤ 1 ∧ 0 ≤ val 4 a b + val 4 b a := by
  rw [v4, v4]; unfold one; split <;> split <;> omega
theorem shl_mul (a k : Int) (h0 : 0 ≤ k) (h1 : k ≤ 31) : val 3 a k = val 11 a (2 ^ k.toNat) := by
  have : k % 32 = k := by omega
  rw [v3, v11, this]
theorem shl_one (k : Int) (h0 : 0 ≤ k) (h1 : k ≤ 31) : val 3 1 k = 2 ^ k.toNat := by
  have hk : k % 32 = k := by omega
  have h2 := pow_le31 k.toNat (by omega)
  have h3 := pow_pos32 k.toNat
  rw [v3, hk]; omega
theorem shr_div (a k : Int) (h0 : 0 ≤ k) (h1 : k ≤ 31) : val 7 a k = val 15 a (2 ^ k.toNat) := by
  have hk : k % 32 = k := by omega
  have h3 := pow_pos32 k.toNat
  rw [v7, v15, if_neg (by omega), hk]
theorem sra_bd (a k : Int) (h0 : 0 ≤ k) (h1 : k ≤ 31) : wrap32 (val 8 a k) = wrap32 a / 2 ^ k.toNat := by
  have hk : k % 32 = k := by omega
  have h2 := wrap32_bd a
  have h3 := ediv_bd (wrap32 a) (2 ^ k.toNat) (-2147483648) 2147483647 (pow_pos32 _) (by omega) (by omega) (by omega) (by omega)
  rw [v8, hk]
  generalize wrap32 a / 2 ^ k.toNat = y at *
  unfold wrap32; omega
theorem floor_bd (x p : Int) (hp : 0 < p) : x / p * p ≤ x ∧ x < x / p * p + p := by
  have h1 := Int.mul_ediv_add_emod x p
  have h2 := Int.emod_nonneg x (Int.ne_of_gt hp)
  have h3 := Int.emod_lt_of_pos x hp
  rw [Int.mul_comm] at h1
  omega
/-! ### Extend -/
/-- The lowest n bits of a, the others copies of the highest of these. -/
def ext (a n : Int) : Int := if 2 ^ (n.toNat - 1) ≤ a % 2 ^ n.toNat then a % 2 ^ n.toNat - 2 ^ n.toNat + 4294967296 else a % 2 ^ n.toNat
theorem pow_split (n : Int) (h1 : 1 ≤ n) (h2 : n ≤ 32) : (2 : Int) ^ n.toNat = 2 * 2 ^ (n.toNat - 1) ∧ 2 ^ n.toNat * 2 ^ (32 - n).toNat = (4294967296 : Int) ∧ 2 ^ (n.toNat - 1) * 2 ^ (32 - n).toNat = (2147483648 : Int) := by
  refine ⟨?_, ?_, ?_⟩
  · generalize hk : n.toNat - 1 = k; rw [show n.toNat = k + 1 by omega, Int.pow_succ, Int.mul_comm]
  · rw [← Int.pow_add, show n.toNat + (32 - n).toNat = 32 by omega]; rfl
  · rw [← Int.pow_add, show (n.toNat - 1) + (32 - n).toNat = 31 by omega]; rfl
theorem ext_ok (a n : Int) (h1 : 1 ≤ n) (h2 : n ≤ 32) : Ok (ext a n) := by
  have h3 := Int.emod_nonneg a (Int.ne_of_gt (pow_pos32 n.toNat))
  have h4 := Int.emod_lt_of_pos a (pow_pos32 n.toNat)
  have h5 := pow_le32 n.toNat (by omega)
  unfold ext Ok; split <;> omega
/-- Moved up and back down, signed: the code's way. -/
theorem ext_moved (a n : Int) (h1 : 1 ≤ n) (h2 : n ≤ 32) : wrap32 (a * 2 ^ (32 - n).toNat % 4294967296) / 2 ^ (32 - n).toNat % 4294967296 = ext a n := by
  obtain ⟨e1, e2, e3⟩ := pow_split n h1 h2
  have h3 := Int.emod_nonneg a (Int.ne_of_gt (pow_pos32 n.toNat))
  have h4 := Int.emod_lt_of_pos a (pow_pos32 n.toNat)
  have h5 := pow_le32 n.toNat (by omega)
  have hp := pow_pos32 (32 - n).toNat
  have hs := shl_parts a (32 - n).toNat (by omega)
  rw [show 32 - (32 - n).toNat = n.toNat by omega] at hs
  rw [← hs]
  unfold ext
  generalize a % 2 ^ n.toNat = low at *
  generalize (2 : Int) ^ n.toNat = P at *
  generalize (2 : Int) ^ (n.toNat - 1) = H at *
  generalize (2 : Int) ^ (32 - n).toNat = K at *
  have a1 : 0 ≤ low * K := Int.mul_nonneg h3 (by omega)
  have a2 : low * K < 4294967296 := by rw [← e2]; exact Int.mul_lt_mul_of_pos_right h4 hp
  rw [Int.emod_eq_of_lt a1 a2]
  split
  · rename_i h
    have a3 : 2147483648 ≤ low * K := by rw [← e3]; exact Int.mul_le_mul_of_nonneg_right h (by omega)
    have a4 : wrap32 (low * K) = (low - P) * K := by rw [Int.sub_mul, e2]; unfold wrap32; omega
    rw [a4, Int.mul_ediv_cancel _ (Int.ne_of_gt hp)]
    omega
  · rename_i h
    have a3 : low * K < 2147483648 := by rw [← e3]; exact Int.mul_lt_mul_of_pos_right (by omega) hp
    have a4 : wrap32 (low * K) = low * K := by unfold wrap32; omega
    rw [a4, Int.mul_ediv_cancel _ (Int.ne_of_gt hp)]
    omega
theorem ext_ext (a n : Int) (h1 : 1 ≤ n) (h2 : n ≤ 32) : ext (ext a n) n = ext a n := by
  obtain ⟨e1, e2, e3⟩ := pow_split n h1 h2
  have h3 := Int.emod_nonneg a (Int.ne_of_gt (pow_pos32 n.toNat))
  have h4 := Int.emod_lt_of_pos a (pow_pos32 n.toNat)
  have h : ext a n % 2 ^ n.toNat = a % 2 ^ n.toNat := by
    unfold ext
    split
    · rw [← e2, show a % 2 ^ n.toNat - 2 ^ n.toNat + 2 ^ n.toNat * 2 ^ (32 - n).toNat = a % 2 ^ n.toNat + 2 ^ n.toNat * (2 ^ (32 - n).toNat - 1) by rw [Int.mul_sub]; omega, Int.add_mul_emod_self_left, Int.emod_emod]
    · rw [Int.emod_emod]
  unfold ext at h ⊢
  rw [h]
end WM
end Go.Proofs.Ytieehjkmfmkfjab
