/-
  The plain arithmetic of words of 32 bits: what each operation answers, as a function of integers. No condition. It speaks of no program.
-/
import Derived.WalkKit
import Derived.IntWalk
namespace Go.Proofs.Ytieehjkmfmkfjab
open Go.RowKit
set_option linter.unusedVariables false
namespace WM
/-- A word: a number from 0 to below 2^32. -/
def Ok (a : Int) : Prop := 0 ≤ a ∧ a ≤ 4294967295
/-- Is it an operation's number? -/
def isOp (op : Int) : Bool := decide (1 ≤ op ∧ op ≤ 17)
/-- 1 if it holds, else 0. -/
def one (p : Prop) [Decidable p] : Int := if p then 1 else 0
/-- What the operation op of a and b answers; 0 if it is none. -/
def val (op a b : Int) : Int :=
  if op = 1 then (a + b) % 4294967296
  else if op = 2 then (a - b) % 4294967296
  else if op = 3 then a * 2 ^ (b % 32).toNat % 4294967296
  else if op = 4 then one (wrap32 a < wrap32 b)
  else if op = 5 then one (a < b)
  else if op = 6 then bits .xor .u32 a b
  else if op = 7 then a / 2 ^ (b % 32).toNat
  else if op = 8 then wrap32 a / 2 ^ (b % 32).toNat % 4294967296
  else if op = 9 then bits .or .u32 a b
  else if op = 10 then bits .and .u32 a b
  else if op = 11 then a * b % 4294967296
  else if op = 12 then wrap32 a * wrap32 b / 4294967296 % 4294967296
  else if op = 13 then a * b / 4294967296
  else if op = 14 then (if b = 0 then 4294967295 else (wrap32 a).tdiv (wrap32 b) % 4294967296)
  else if op = 15 then (if b = 0 then 4294967295 else a / b)
  else if op = 16 then (if b = 0 then a else (wrap32 a).tmod (wrap32 b) % 4294967296)
  else if op = 17 then (if b = 0 then a else a % b)
  else 0
theorem v1 (a b : Int) : val 1 a b = (a + b) % 4294967296 := by simp [val]
theorem v2 (a b : Int) : val 2 a b = (a - b) % 4294967296 := by simp [val]
theorem v3 (a b : Int) : val 3 a b = a * 2 ^ (b % 32).toNat % 4294967296 := by simp [val]
theorem v4 (a b : Int) : val 4 a b = one (wrap32 a < wrap32 b) := by simp [val]
theorem v5 (a b : Int) : val 5 a b = one (a < b) := by simp [val]
theorem v6 (a b : Int) : val 6 a b = bits .xor .u32 a b := by simp [val]
theorem v7 (a b : Int) : val 7 a b = a / 2 ^ (b % 32).toNat := by simp [val]
theorem v8 (a b : Int) : val 8 a b = wrap32 a / 2 ^ (b % 32).toNat % 4294967296 := by simp [val]
theorem v9 (a b : Int) : val 9 a b = bits .or .u32 a b := by simp [val]
theorem v10 (a b : Int) : val 10 a b = bits .and .u32 a b := by simp [val]
theorem v11 (a b : Int) : val 11 a b = a * b % 4294967296 := by simp [val]
theorem v12 (a b : Int) : val 12 a b = wrap32 a * wrap32 b / 4294967296 % 4294967296 := by simp [val]
theorem v13 (a b : Int) : val 13 a b = a * b / 4294967296 := by simp [val]
theorem v14 (a b : Int) : val 14 a b = if b = 0 then 4294967295 else (wrap32 a).tdiv (wrap32 b) % 4294967296 := by simp [val]
theorem v15 (a b : Int) : val 15 a b = if b = 0 then 4294967295 else a / b := by simp [val]
theorem v16 (a b : Int) : val 16 a b = if b = 0 then a else (wrap32 a).tmod (wrap32 b) % 4294967296 := by simp [val]
theorem v17 (a b : Int) : val 17 a b = if b = 0 then a else a % b := by simp [val]
theorem vno (op a b : Int) (h : isOp op = false) : val op a b = 0 := by
  have h' : ¬ (1 ≤ op ∧ op ≤ 17) := by simpa [isOp] using h
  unfold val
  repeat rw [if_neg (by omega)]
theorem cases17 {op : Int} (h : isOp op = true) : op = 1 ∨ op = 2 ∨ op = 3 ∨ op = 4 ∨ op = 5 ∨ op = 6 ∨ op = 7 ∨ op = 8 ∨ op = 9 ∨ op = 10 ∨ op = 11 ∨ op = 12 ∨ op = 13 ∨ op = 14 ∨ op = 15 ∨ op = 16 ∨ op = 17 := by
  have : 1 ≤ op ∧ op ≤ 17 := by simpa [isOp] using h
  omega
theorem and31 (b : Int) (h : Ok b) : bits .and .u32 b 31 = b % 32 := by
  obtain ⟨hb, hb'⟩ := h
  rw [u32_and b 31 hb (by omega) (by omega) (by omega)]
  have h : b.toNat &&& (31 : Int).toNat = b.toNat % 32 := nat_mask5 b.toNat
  rw [h]; omega
theorem wrap32_bd (a : Int) : -2147483648 ≤ wrap32 a ∧ wrap32 a ≤ 2147483647 := by unfold wrap32; omega
theorem wrap32_cases (a : Int) (h : Ok a) : wrap32 a = a ∧ a ≤ 2147483647 ∨ wrap32 a = a - 4294967296 ∧ 2147483648 ≤ a := by
  unfold Ok at h; unfold wrap32; omega
theorem wrap32_mod (a : Int) (h : Ok a) : wrap32 a % 4294967296 = a := by
  unfold Ok at h; unfold wrap32; omega
theorem wrap32_zero (a : Int) (h : Ok a) : wrap32 a = 0 ↔ a = 0 := by
  unfold Ok at h; unfold wrap32; omega
/-- A product of two numbers that are each from -2^31 to 2^31 lies within 2^62. -/
theorem mul_bd (x y : Int) (hx : -2147483648 ≤ x ∧ x ≤ 2147483648) (hy : -2147483648 ≤ y ∧ y ≤ 2147483648) : -4611686018427387904 ≤ x * y ∧ x * y ≤ 4611686018427387904 := by
  have a1 : 0 ≤ (x + 2147483648) * (y + 2147483648) := Int.mul_nonneg (by omega) (by omega)
  have a2 : 0 ≤ (2147483648 - x) * (2147483648 - y) := Int.mul_nonneg (by omega) (by omega)
  have a3 : 0 ≤ (x + 2147483648) * (2147483648 - y) := Int.mul_nonneg (by omega) (by omega)
  have a4 : 0 ≤ (2147483648 - x) * (y + 2147483648) := Int.mul_nonneg (by omega) (by omega)
  simp only [Int.add_mul, Int.mul_add, Int.sub_mul, Int.mul_sub] at a1 a2 a3 a4
  omega
theorem umul_bd (x y : Int) (hx : Ok x) (hy : Ok y) : 0 ≤ x * y ∧ x * y ≤ 18446744065119617025 := by
  unfold Ok at hx hy
  have a1 : 0 ≤ x * y := Int.mul_nonneg (by omega) (by omega)
  have a2 : 0 ≤ (4294967295 - x) * (4294967295 + y) := Int.mul_nonneg (by omega) (by omega)
  have a3 : 0 ≤ (4294967295 + x) * (4294967295 - y) := Int.mul_nonneg (by omega) (by omega)
  simp only [Int.add_mul, Int.mul_add, Int.sub_mul, Int.mul_sub] at a2 a3
  omega
theorem pow_pos32 (n : Nat) : (0 : Int) < 2 ^ n := Int.pow_pos (by decide)
theorem pow_le31 (n : Nat) (h : n ≤ 31) : (2 : Int) ^ n ≤ 2147483648 := by
  have : (2 : Nat) ^ n ≤ 2 ^ 31 := Nat.pow_le_pow_right (by omega) h
  have h2 : ((2 ^ n : Nat) : Int) ≤ ((2 ^ 31 : Nat) : Int) := Int.ofNat_le.mpr this
  simpa using h2
theorem pow_le32 (n : Nat) (h : n ≤ 32) : (2 : Int) ^ n ≤ 4294967296 := by
  have : (2 : Nat) ^ n ≤ 2 ^ 32 := Nat.pow_le_pow_right (by omega) h
  have h2 : ((2 ^ n : Nat) : Int) ≤ ((2 ^ 32 : Nat) : Int) := Int.ofNat_le.mpr this
  simpa using h2
theorem div_bd (x y : Int) (h : 0 ≤ x) (hy : 0 < y) : 0 ≤ x / y ∧ x / y ≤ x :=
  ⟨Int.ediv_nonneg h (Int.le_of_lt hy), Int.ediv_le_self y h⟩
theorem and_ok (a b : Int) (ha : Ok a) (hb : Ok b) : Ok (bits .and .u32 a b) := by
  unfold Ok at *
  rw [u32_and a b ha.1 (by omega) hb.1 (by omega)]
  have := Nat.and_le_left (n := a.toNat) (m := b.toNat)
  omega
theorem or_ok (a b : Int) (ha : Ok a) (hb : Ok b) : Ok (bits .or .u32 a b) := by
  unfold Ok at *
  rw [u32_or a b ha.1 (by omega) hb.1 (by omega)]
  have : a.toNat ||| b.toNat < 2 ^ 32 := Nat.or_lt_two_pow (by omega) (by omega)
  omega
theorem xor_ok (a b : Int) (ha : Ok a) (hb : Ok b) : Ok (bits .xor .u32 a b) := by
  unfold Ok at *
  rw [u32_xor a b ha.1 (by omega) hb.1 (by omega)]
  have : a.toNat ^^^ b.toNat < 2 ^ 32 := Nat.xor_lt_two_pow (by omega) (by omega)
  omega
theorem mod_ok (n : Int) : Ok (n % 4294967296) := by unfold Ok; omega
theorem val_ok (op a b : Int) (ha : Ok a) (hb : Ok b) : Ok (val op a b) := by
  by_cases ho : isOp op = true
  · rcases cases17 ho with h | h | h | h | h | h | h | h | h | h | h | h | h | h | h | h | h <;> subst h
    · rw [v1]; exact mod_ok _
    · rw [v2]; exact mod_ok _
    · rw [v3]; exact mod_ok _
    · rw [v4]; unfold Ok one; split <;> omega
    · rw [v5]; unfold Ok one; split <;> omega
    · rw [v6]; exact xor_ok a b ha hb
    · rw [v7]; have h7 := div_bd a (2 ^ (b % 32).toNat) ha.1 (pow_pos32 _); unfold Ok at *; omega
    · rw [v8]; exact mod_ok _
    · rw [v9]; exact or_ok a b ha hb
    · rw [v10]; exact and_ok a b ha hb
    · rw [v11]; exact mod_ok _
    · rw [v12]; exact mod_ok _
    · rw [v13]; have h7 := umul_bd a b ha hb; unfold Ok at *; omega
    · rw [v14]; split
      · unfold Ok; omega
      · exact mod_ok _
    · rw [v15]; split
      · unfold Ok; omega
      · have h7 := div_bd a b ha.1 (by unfold Ok at *; omega); unfold Ok at *; omega
    · rw [v16]; split
      · exact ha
      · exact mod_ok _
    · rw [v17]; split
      · exact ha
      · have h7 := Int.emod_nonneg a (b := b) (by omega); have h8 := Int.emod_lt_of_pos a (b := b) (by unfold Ok at *; omega); unfold Ok at *; omega
  · rw [vno op a b (by simpa using ho)]; unfold Ok; omega
/-! ### What the document's answers need -/
theorem tmod_bd (n m : Int) (hm : 0 < m) : -m < n.tmod m ∧ n.tmod m < m := ⟨Int.lt_tmod_of_pos n hm, Int.tmod_lt_of_pos n hm⟩
theorem floor_neg (n m : Int) (hm : 0 < m) (h : n.tmod m < 0) : n.tdiv m - 1 = n / m ∧ n.tmod m + m = n % m := by
  have h1 := Int.tmod_add_mul_tdiv n m
  have h2 := tmod_bd n m hm
  have h3 := (Int.ediv_emod_unique (a := n) (q := n.tdiv m - 1) (r := n.tmod m + m) hm).mpr ⟨by rw [Int.mul_sub]; omega, by omega, by omega⟩
  exact ⟨h3.1.symm, h3.2.symm⟩
theorem floor_pos (n m : Int) (hm : 0 < m) (h : ¬ n.tmod m < 0) : n.tdiv m = n / m ∧ n.tmod m = n % m := by
  have h1 := Int.tmod_add_mul_tdiv n m
  have h2 := tmod_bd n m hm
  have h3 := (Int.ediv_emod_unique (a := n) (q := n.tdiv m) (r := n.tmod m) hm).mpr ⟨by omega, by omega, by omega⟩
  exact ⟨h3.1.symm, h3.2.symm⟩
/-- A quotient by a number above 0 lies no further from 0 than what is divided. -/
theorem ediv_bd (n m l u : Int) (hm : 0 < m) (hl : l ≤ 0) (hu : 0 ≤ u) (h1 : l ≤ n) (h2 : n ≤ u) : l ≤ n / m ∧ n / m ≤ u := by
  constructor
  · rw [Int.le_ediv_iff_mul_le hm]
    have h : 0 ≤ (-l) * (m - 1) := Int.mul_nonneg (by omega) (by omega)
    simp only [Int.mul_sub, Int.neg_mul] at h
    omega
  · rcases Int.lt_or_le n 0 with h | h
    · have := Int.ediv_neg_of_neg_of_pos h hm; omega
    · have := Int.ediv_le_self m h; omega
theorem half_bd (a b : Int) (ha : 0 ≤ a) (ha' : a ≤ 65535) (hb : 0 ≤ b) (hb' : b ≤ 65535) : 0 ≤ a * b ∧ a * b ≤ 4294836225 := by
  have a1 : 0 ≤ a * b := Int.mul_nonneg ha hb
  have a2 : 0 ≤ (65535 - a) * (65535 + b) := Int.mul_nonneg (by omega) (by omega)
  have a3 : 0 ≤ (65535 + a) * (65535 - b) := Int.mul_nonneg (by omega) (by omega)
  simp only [Int.add_mul, Int.mul_add, Int.sub_mul, Int.mul_sub] at a2 a3
  omega
theorem split_mul (a b : Int) : a * b = a / 65536 * (b / 65536) * 4294967296 + (a / 65536 * (b % 65536) + a % 65536 * (b / 65536)) * 65536 + a % 65536 * (b % 65536) := by
  have h1 : a = a / 65536 * 65536 + a % 65536 := by omega
  have h2 : b = b / 65536 * 65536 + b % 65536 := by omega
  generalize a / 65536 = x at *
  generalize a % 65536 = y at *
  generalize b / 65536 = z at *
  generalize b % 65536 = u at *
  subst h1 h2
  simp only [Int.add_mul, Int.mul_add]
  have e1 : x * 65536 * (z * 65536) = x * z * 4294967296 := by
    rw [Int.mul_assoc, ← Int.mul_assoc 65536 z, Int.mul_comm 65536 z, Int.mul_assoc z, ← Int.mul_assoc x z]; rfl
  have e2 : x * 65536 * u = x * u * 65536 := by rw [Int.mul_assoc, Int.mul_comm 65536 u, ← Int.mul_assoc]
  have e3 : y * (z * 65536) = y * z * 65536 := by rw [← Int.mul_assoc]
  omega
/-- The product of two words, by its parts of 16 bits: its upper 32 bits. -/
theorem upper_parts (a b : Int) : a / 65536 * (b / 65536) + (a / 65536 * (b % 65536) + a % 65536 * (b / 65536) + a % 65536 * (b % 65536) / 65536) / 65536 = a * b / 4294967296 := by
  rw [split_mul a b]
  omega
theorem lower_parts (a b : Int) : (a % 65536 * b + a / 65536 * (b % 65536) * 65536) % 4294967296 = a * b % 4294967296 := by
  have h : a % 65536 * b = a % 65536 * (b / 65536) * 65536 + a % 65536 * (b % 65536) := by
    have h2 : b = b / 65536 * 65536 + b % 65536 := by omega
    have : a % 65536 * b = a % 65536 * (b / 65536 * 65536 + b % 65536) := by rw [← h2]
    rw [this, Int.mul_add, ← Int.mul_assoc]
  rw [split_mul a b, h]
  omega
theorem shl_parts (a : Int) (n : Nat) (hn : n ≤ 32) : a % 2 ^ (32 - n) * 2 ^ n % 4294967296 = a * 2 ^ n % 4294967296 := by
  have h : (2 : Int) ^ n * 2 ^ (32 - n) = 4294967296 := by
    rw [← Int.pow_add, Nat.add_sub_cancel' hn]; rfl
  rw [Int.mul_comm, Int.mul_comm a, ← h, Int.mul_emod_mul_of_pos _ _ (pow_pos32 n), Int.mul_emod_mul_of_pos _ _ (pow_pos32 n), Int.emod_emod]
/-- A bit more of a number. -/
theorem bit_more (x k : Nat) : x % 2 ^ (k + 1) = x % 2 ^ k + (x.testBit k).toNat * 2 ^ k := by
  rw [Nat.mod_pow_succ, Nat.toNat_testBit, Nat.mul_comm]
theorem bit_of (x k : Nat) : ((x : Int) / 2 ^ k).tmod 2 = ((x.testBit k).toNat : Int) := by
  rw [Nat.toNat_testBit, Int.tmod_eq_emod_of_nonneg (Int.ediv_nonneg (by omega) (Int.le_of_lt (pow_pos32 k)))]
  simp
theorem bit_moreI (x k : Nat) : (x : Int) % 2 ^ (k + 1) = (x : Int) % 2 ^ k + ((x.testBit k).toNat : Int) * 2 ^ k := by
  have h := bit_more x k
  have h2 : ((x % 2 ^ (k + 1) : Nat) : Int) = ((x % 2 ^ k + (x.testBit k).toNat * 2 ^ k : Nat) : Int) := by rw [h]
  simpa using h2
theorem mod_bd (x k : Nat) (h : k ≤ 32) : 0 ≤ (x : Int) % 2 ^ k ∧ (x : Int) % 2 ^ k ≤ 4294967295 := by
  have h1 := Int.emod_nonneg (x : Int) (b := 2 ^ k) (Int.ne_of_gt (pow_pos32 k))
  have h2 := Int.emod_lt_of_pos (x : Int) (pow_pos32 k)
  have h3 := pow_le32 k h
  omega
end WM
end Go.Proofs.Ytieehjkmfmkfjab
