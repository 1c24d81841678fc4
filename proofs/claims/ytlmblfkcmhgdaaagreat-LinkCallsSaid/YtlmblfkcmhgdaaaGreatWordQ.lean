/-
  The plain arithmetic of words of 32 bits: what each operation answers, as a function of integers. No condition. It speaks of no program.
  Plain arithmetic of words: the laws that the statements name, over what each operation answers. Conditions: words lie from 0 to below 2^32.
  What package word's functions answer, each a contract: Do, Signed, Of, Extend and what they call. Conditions: words lie from 0 to below 2^32.
  What the document's answers for words answer (package solderref01), each a contract. Conditions: words lie from 0 to below 2^32, numbers in 64 bits.
  What Extend answers, package word's and the document's (package solderref01), each a contract. Conditions: words lie from 0 to below 2^32.
-/
import Derived.WalkKit
import Derived.IntWalk
import Derived.Test.YtlmblfkcmhgdaaaGreatRows
import Derived.ProofKit
import Derived.OpenShut
import Derived.WalkLawsBesides
import Derived.WalkSpells
import Derived.Outline
import Derived.Lib.Hide
import Derived.Deep.QuietTactic
import Derived.BigQuiet
namespace Go.Proofs.YtlmblfkcmhgdaaaGreat
open Go.RowKit
set_option linter.unusedVariables false
namespace WM
/-- A word: a number from 0 to below 2^32. -/
def Ok (a : Int) : Prop := 0 ≤ a ∧ a ≤ 4294967295
/-- Is it an operation's number? -/
def isOp (op : Int) : Bool := decide (1 ≤ op ∧ op ≤ 17)
/-- 1 if it holds, else 0. -/
def one (p : Prop) [Decidable p] : Int := if p then 1 else 0
/-- What the operation op of a and b answers; 0 if it is none. -/
def val (op a b : Int) : Int :=
  if op = 1 then (a + b) % 4294967296
  else if op = 2 then (a - b) % 4294967296
  else if op = 3 then a * 2 ^ (b % 32).toNat % 4294967296
  else if op = 4 then one (wrap32 a < wrap32 b)
  else if op = 5 then one (a < b)
  else if op = 6 then bits .xor .u32 a b
  else if op = 7 then a / 2 ^ (b % 32).toNat
  else if op = 8 then wrap32 a / 2 ^ (b % 32).toNat % 4294967296
  else if op = 9 then bits .or .u32 a b
  else if op = 10 then bits .and .u32 a b
  else if op = 11 then a * b % 4294967296
  else if op = 12 then wrap32 a * wrap32 b / 4294967296 % 4294967296
  else if op = 13 then a * b / 4294967296
  else if op = 14 then (if b = 0 then 4294967295 else (wrap32 a).tdiv (wrap32 b) % 4294967296)
  else if op = 15 then (if b = 0 then 4294967295 else a / b)
  else if op = 16 then (if b = 0 then a else (wrap32 a).tmod (wrap32 b) % 4294967296)
  else if op = 17 then (if b = 0 then a else a % b)
  else 0
theorem v1 (a b : Int) : val 1 a b = (a + b) % 4294967296 := by simp [val]
theorem v2 (a b : Int) : val 2 a b = (a - b) % 4294967296 := by simp [val]
theorem v3 (a b : Int) : val 3 a b = a * 2 ^ (b % 32).toNat % 4294967296 := by simp [val]
theorem v4 (a b : Int) : val 4 a b = one (wrap32 a < wrap32 b) := by simp [val]
theorem v5 (a b : Int) : val 5 a b = one (a < b) := by simp [val]
theorem v6 (a b : Int) : val 6 a b = bits .xor .u32 a b := by simp [val]
theorem v7 (a b : Int) : val 7 a b = a / 2 ^ (b % 32).toNat := by simp [val]
theorem v8 (a b : Int) : val 8 a b = wrap32 a / 2 ^ (b % 32).toNat % 4294967296 := by simp [val]
theorem v9 (a b : Int) : val 9 a b = bits .or .u32 a b := by simp [val]
theorem v10 (a b : Int) : val 10 a b = bits .and .u32 a b := by simp [val]
theorem v11 (a b : Int) : val 11 a b = a * b % 4294967296 := by simp [val]
theorem v12 (a b : Int) : val 12 a b = wrap32 a * wrap32 b / 4294967296 % 4294967296 := by simp [val]
theorem v13 (a b : Int) : val 13 a b = a * b / 4294967296 := by simp [val]
theorem v14 (a b : Int) : val 14 a b = if b = 0 then 4294967295 else (wrap32 a).tdiv (wrap32 b) % 4294967296 := by simp [val]
theorem v15 (a b : Int) : val 15 a b = if b = 0 then 4294967295 else a / b := by simp [val]
theorem v16 (a b : Int) : val 16 a b = if b = 0 then a else (wrap32 a).tmod (wrap32 b) % 4294967296 := by simp [val]
theorem v17 (a b : Int) : val 17 a b = if b = 0 then a else a % b := by simp [val]
theorem vno (op a b : Int) (h : isOp op = false) : val op a b = 0 := by
  have h' : ¬ (1 ≤ op ∧ op ≤ 17) := by simpa [isOp] using h
  unfold val
  repeat rw [if_neg (by omega)]
theorem cases17 {op : Int} (h : isOp op = true) : op = 1 ∨ op = 2 ∨ op = 3 ∨ op = 4 ∨ op = 5 ∨ op = 6 ∨ op = 7 ∨ op = 8 ∨ op = 9 ∨ op = 10 ∨ op = 11 ∨ op = 12 ∨ op = 13 ∨ op = 14 ∨ op = 15 ∨ op = 16 ∨ op = 17 := by
  have : 1 ≤ op ∧ op ≤ 17 := by simpa [isOp] using h
  omega
theorem and31 (b : Int) (h : Ok b) : bits .and .u32 b 31 = b % 32 := by
  obtain ⟨hb, hb'⟩ := h
  rw [u32_and b 31 hb (by omega) (by omega) (by omega)]
  have h : b.toNat &&& (31 : Int).toNat = b.toNat % 32 := nat_mask5 b.toNat
  rw [h]; omega
theorem wrap32_bd (a : Int) : -2147483648 ≤ wrap32 a ∧ wrap32 a ≤ 2147483647 := by unfold wrap32; omega
theorem wrap32_zero (a : Int) (h : Ok a) : wrap32 a = 0 ↔ a = 0 := by
  unfold Ok at h; unfold wrap32; omega
/-- A product of two numbers that are each from -2^31 to 2^31 lies within 2^62. -/
theorem mul_bd (x y : Int) (hx : -2147483648 ≤ x ∧ x ≤ 2147483648) (hy : -2147483648 ≤ y ∧ y ≤ 2147483648) : -4611686018427387904 ≤ x * y ∧ x * y ≤ 4611686018427387904 := by
  have a1 : 0 ≤ (x + 2147483648) * (y + 2147483648) := Int.mul_nonneg (by omega) (by omega)
  have a2 : 0 ≤ (2147483648 - x) * (2147483648 - y) := Int.mul_nonneg (by omega) (by omega)
  have a3 : 0 ≤ (x + 2147483648) * (2147483648 - y) := Int.mul_nonneg (by omega) (by omega)
  have a4 : 0 ≤ (2147483648 - x) * (y + 2147483648) := Int.mul_nonneg (by omega) (by omega)
  simp only [Int.add_mul, Int.mul_add, Int.sub_mul, Int.mul_sub] at a1 a2 a3 a4
  omega
theorem umul_bd (x y : Int) (hx : Ok x) (hy : Ok y) : 0 ≤ x * y ∧ x * y ≤ 18446744065119617025 := by
  unfold Ok at hx hy
  have a1 : 0 ≤ x * y := Int.mul_nonneg (by omega) (by omega)
  have a2 : 0 ≤ (4294967295 - x) * (4294967295 + y) := Int.mul_nonneg (by omega) (by omega)
  have a3 : 0 ≤ (4294967295 + x) * (4294967295 - y) := Int.mul_nonneg (by omega) (by omega)
  simp only [Int.add_mul, Int.mul_add, Int.sub_mul, Int.mul_sub] at a2 a3
  omega
theorem pow_pos32 (n : Nat) : (0 : Int) < 2 ^ n := Int.pow_pos (by decide)
theorem pow_le31 (n : Nat) (h : n ≤ 31) : (2 : Int) ^ n ≤ 2147483648 := by
  have : (2 : Nat) ^ n ≤ 2 ^ 31 := Nat.pow_le_pow_right (by omega) h
  have h2 : ((2 ^ n : Nat) : Int) ≤ ((2 ^ 31 : Nat) : Int) := Int.ofNat_le.mpr this
  simpa using h2
theorem pow_le32 (n : Nat) (h : n ≤ 32) : (2 : Int) ^ n ≤ 4294967296 := by
  have : (2 : Nat) ^ n ≤ 2 ^ 32 := Nat.pow_le_pow_right (by omega) h
  have h2 : ((2 ^ n : Nat) : Int) ≤ ((2 ^ 32 : Nat) : Int) := Int.ofNat_le.mpr this
  simpa using h2
theorem div_bd (x y : Int) (h : 0 ≤ x) (hy : 0 < y) : 0 ≤ x / y ∧ x / y ≤ x :=
  ⟨Int.ediv_nonneg h (Int.le_of_lt hy), Int.ediv_le_self y h⟩
theorem and_ok (a b : Int) (ha : Ok a) (hb : Ok b) : Ok (bits .and .u32 a b) := by
  unfold Ok at *
  rw [u32_and a b ha.1 (by omega) hb.1 (by omega)]
  have := Nat.and_le_left (n := a.toNat) (m := b.toNat)
  omega
theorem or_ok (a b : Int) (ha : Ok a) (hb : Ok b) : Ok (bits .or .u32 a b) := by
  unfold Ok at *
  rw [u32_or a b ha.1 (by omega) hb.1 (by omega)]
  have : a.toNat ||| b.toNat < 2 ^ 32 := Nat.or_lt_two_pow (by omega) (by omega)
  omega
theorem xor_ok (a b : Int) (ha : Ok a) (hb : Ok b) : Ok (bits .xor .u32 a b) := by
  unfold Ok at *
  rw [u32_xor a b ha.1 (by omega) hb.1 (by omega)]
  have : a.toNat ^^^ b.toNat < 2 ^ 32 := Nat.xor_lt_two_pow (by omega) (by omega)
  omega
theorem mod_ok (n : Int) : Ok (n % 4294967296) := by unfold Ok; omega
theorem val_ok (op a b : Int) (ha : Ok a) (hb : Ok b) : Ok (val op a b) := by
  by_cases ho : isOp op = true
  · rcases cases17 ho with h | h | h | h | h | h | h | h | h | h | h | h | h | h | h | h | h <;> subst h
    · rw [v1]; exact mod_ok _
    · rw [v2]; exact mod_ok _
    · rw [v3]; exact mod_ok _
    · rw [v4]; unfold Ok one; split <;> omega
    · rw [v5]; unfold Ok one; split <;> omega
    · rw [v6]; exact xor_ok a b ha hb
    · rw [v7]; have h7 := div_bd a (2 ^ (b % 32).toNat) ha.1 (pow_pos32 _); unfold Ok at *; omega
    · rw [v8]; exact mod_ok _
    · rw [v9]; exact or_ok a b ha hb
    · rw [v10]; exact and_ok a b ha hb
    · rw [v11]; exact mod_ok _
    · rw [v12]; exact mod_ok _
    · rw [v13]; have h7 := umul_bd a b ha hb; unfold Ok at *; omega
    · rw [v14]; split
      · unfold Ok; omega
      · exact mod_ok _
    · rw [v15]; split
      · unfold Ok; omega
      · have h7 := div_bd a b ha.1 (by unfold Ok at *; omega); unfold Ok at *; omega
    · rw [v16]; split
      · exact ha
      · exact mod_ok _
    · rw [v17]; split
      · exact ha
      · have h7 := Int.emod_nonneg a (b := b) (by omega); have h8 := Int.emod_lt_of_pos a (b := b) (by unfold Ok at *; omega); unfold Ok at *; omega
  · rw [vno op a b (by simpa using ho)]; unfold Ok; omega
/-! ### What the document's answers need -/
theorem tmod_bd (n m : Int) (hm : 0 < m) : -m < n.tmod m ∧ n.tmod m < m := ⟨Int.lt_tmod_of_pos n hm, Int.tmod_lt_of_pos n hm⟩
theorem floor_neg (n m : Int) (hm : 0 < m) (h : n.tmod m < 0) : n.tdiv m - 1 = n / m ∧ n.tmod m + m = n % m := by
  have h1 := Int.tmod_add_mul_tdiv n m
  have h2 := tmod_bd n m hm
  have h3 := (Int.ediv_emod_unique (a := n) (q := n.tdiv m - 1) (r := n.tmod m + m) hm).mpr ⟨by rw [Int.mul_sub]; omega, by omega, by omega⟩
  exact ⟨h3.1.symm, h3.2.symm⟩
theorem floor_pos (n m : Int) (hm : 0 < m) (h : ¬ n.tmod m < 0) : n.tdiv m = n / m ∧ n.tmod m = n % m := by
  have h1 := Int.tmod_add_mul_tdiv n m
  have h2 := tmod_bd n m hm
  have h3 := (Int.ediv_emod_unique (a := n) (q := n.tdiv m) (r := n.tmod m) hm).mpr ⟨by omega, by omega, by omega⟩
  exact ⟨h3.1.symm, h3.2.symm⟩
theorem shl_parts (a : Int) (n : Nat) (hn : n ≤ 32) : a % 2 ^ (32 - n) * 2 ^ n % 4294967296 = a * 2 ^ n % 4294967296 := by
  have h : (2 : Int) ^ n * 2 ^ (32 - n) = 4294967296 := by
    rw [← Int.pow_add, Nat.add_sub_cancel' hn]; rfl
  rw [Int.mul_comm, Int.mul_comm a, ← h, Int.mul_emod_mul_of_pos _ _ (pow_pos32 n), Int.mul_emod_mul_of_pos _ _ (pow_pos32 n), Int.emod_emod]
theorem mod_bd (x k : Nat) (h : k ≤ 32) : 0 ≤ (x : Int) % 2 ^ k ∧ (x : Int) % 2 ^ k ≤ 4294967295 := by
  have h1 := Int.emod_nonneg (x : Int) (b := 2 ^ k) (Int.ne_of_gt (pow_pos32 k))
  have h2 := Int.emod_lt_of_pos (x : Int) (pow_pos32 k)
  have h3 := pow_le32 k h
  omega
end WM
end Go.Proofs.YtlmblfkcmhgdaaaGreat
namespace Go.Proofs.YtlmblfkcmhgdaaaGreat
open Go.RowKit
set_option linter.unusedVariables false
namespace WM
/-! ### The product -/
/-! ### Quotients and what is left -/
/-! ### Sums, products, XOR -/
theorem add_comm' (a b : Int) : val 1 a b = val 1 b a := by rw [v1, v1, Int.add_comm]
theorem mul_comm' (a b : Int) : val 11 a b = val 11 b a := by rw [v11, v11, Int.mul_comm]
/-! ### Moves -/
theorem and_mask (a : Int) (n : Nat) (ha : Ok a) (hn : n ≤ 32) : val 10 a (2 ^ n - 1) = a % 2 ^ n := by
  have h1 := pow_pos32 n
  have h2 := pow_le32 n hn
  rw [v10, u32_and a _ ha.1 (by have := ha.2; omega) (by omega) (by omega)]
  have h3 : ((2 : Int) ^ n - 1).toNat = 2 ^ n - 1 := by
    have : ((2 ^ n : Nat) : Int) = (2 : Int) ^ n := by simp
    omega
  rw [h3, Nat.and_two_pow_sub_one_eq_mod]
  have : a = (a.toNat : Int) := by have := ha.1; omega
  rw [Int.natCast_emod, ← this]
  simp
/-! ### Extend -/
/-- The lowest n bits of a, the others copies of the highest of these. -/
def ext (a n : Int) : Int := if 2 ^ (n.toNat - 1) ≤ a % 2 ^ n.toNat then a % 2 ^ n.toNat - 2 ^ n.toNat + 4294967296 else a % 2 ^ n.toNat
theorem pow_split (n : Int) (h1 : 1 ≤ n) (h2 : n ≤ 32) : (2 : Int) ^ n.toNat = 2 * 2 ^ (n.toNat - 1) ∧ 2 ^ n.toNat * 2 ^ (32 - n).toNat = (4294967296 : Int) ∧ 2 ^ (n.toNat - 1) * 2 ^ (32 - n).toNat = (2147483648 : Int) := by
  refine ⟨?_, ?_, ?_⟩
  · generalize hk : n.toNat - 1 = k; rw [show n.toNat = k + 1 by omega, Int.pow_succ, Int.mul_comm]
  · rw [← Int.pow_add, show n.toNat + (32 - n).toNat = 32 by omega]; rfl
  · rw [← Int.pow_add, show (n.toNat - 1) + (32 - n).toNat = 31 by omega]; rfl
theorem ext_ok (a n : Int) (h1 : 1 ≤ n) (h2 : n ≤ 32) : Ok (ext a n) := by
  have h3 := Int.emod_nonneg a (Int.ne_of_gt (pow_pos32 n.toNat))
  have h4 := Int.emod_lt_of_pos a (pow_pos32 n.toNat)
  have h5 := pow_le32 n.toNat (by omega)
  unfold ext Ok; split <;> omega
/-- Moved up and back down, signed: the code's way. -/
theorem ext_moved (a n : Int) (h1 : 1 ≤ n) (h2 : n ≤ 32) : wrap32 (a * 2 ^ (32 - n).toNat % 4294967296) / 2 ^ (32 - n).toNat % 4294967296 = ext a n := by
  obtain ⟨e1, e2, e3⟩ := pow_split n h1 h2
  have h3 := Int.emod_nonneg a (Int.ne_of_gt (pow_pos32 n.toNat))
  have h4 := Int.emod_lt_of_pos a (pow_pos32 n.toNat)
  have h5 := pow_le32 n.toNat (by omega)
  have hp := pow_pos32 (32 - n).toNat
  have hs := shl_parts a (32 - n).toNat (by omega)
  rw [show 32 - (32 - n).toNat = n.toNat by omega] at hs
  rw [← hs]
  unfold ext
  generalize a % 2 ^ n.toNat = low at *
  generalize (2 : Int) ^ n.toNat = P at *
  generalize (2 : Int) ^ (n.toNat - 1) = H at *
  generalize (2 : Int) ^ (32 - n).toNat = K at *
  have a1 : 0 ≤ low * K := Int.mul_nonneg h3 (by omega)
  have a2 : low * K < 4294967296 := by rw [← e2]; exact Int.mul_lt_mul_of_pos_right h4 hp
  rw [Int.emod_eq_of_lt a1 a2]
  split
  · rename_i h
    have a3 : 2147483648 ≤ low * K := by rw [← e3]; exact Int.mul_le_mul_of_nonneg_right h (by omega)
    have a4 : wrap32 (low * K) = (low - P) * K := by rw [Int.sub_mul, e2]; unfold wrap32; omega
    rw [a4, Int.mul_ediv_cancel _ (Int.ne_of_gt hp)]
    omega
  · rename_i h
    have a3 : low * K < 2147483648 := by rw [← e3]; exact Int.mul_lt_mul_of_pos_right (by omega) hp
    have a4 : wrap32 (low * K) = low * K := by unfold wrap32; omega
    rw [a4, Int.mul_ediv_cancel _ (Int.ne_of_gt hp)]
    omega
end WM
end Go.Proofs.YtlmblfkcmhgdaaaGreat
namespace Go.Proofs.YtlmblfkcmhgdaaaGreat
open Go.RowKit
set_option linter.unusedVariables false
namespace WC
open WM
theorem ret_int {k : IntKind} {a b : Int} (h : a = b) : Ending.returned (.int k a) = .returned (.int k b) := by rw [h]
theorem ret_pair {k : IntKind} {a b : Int} {v : Value} (h : a = b) : Ending.returned (.tuple #[.int k a, v]) = .returned (.tuple #[.int k b, v]) := by rw [h]

theorem oneIf_y (w : World) : Calls Tryz.prog 158 #[.bool true] w fun e w' => e = .returned (.int .u32 1) ∧ w' = w := by
  go_enter Tryz.func158, Tryz.ntmps158
  go_wp2
  go_ret
  exact ⟨rfl, rfl⟩
theorem oneIf_n (w : World) : Calls Tryz.prog 158 #[.bool false] w fun e w' => e = .returned (.int .u32 0) ∧ w' = w := by
  go_enter Tryz.func158, Tryz.ntmps158
  go_wp2
  go_ret
  exact ⟨rfl, rfl⟩
theorem oneIf (p : Prop) [Decidable p] (w : World) : Calls Tryz.prog 158 #[.bool (decide p)] w fun e w' => e = .returned (.int .u32 (one p)) ∧ w' = w := by
  unfold one
  by_cases h : p
  · rw [if_pos h, decide_eq_true h]; exact oneIf_y w
  · rw [if_neg h, decide_eq_false h]; exact oneIf_n w

theorem upperSigned (a b : Int) (w : World) : Calls Tryz.prog 156 #[.int .u32 a, .int .u32 b] w fun e w' => e = .returned (.int .u32 (val 12 a b)) ∧ w' = w := by
  go_enter Tryz.func156, Tryz.ntmps156
  go_wp2
  go_ret
  refine ⟨ret_int ?_, rfl⟩
  have h1 := wrap32_bd a
  have h2 := wrap32_bd b
  have h3 := mul_bd (wrap32 a) (wrap32 b) (by omega) (by omega)
  rw [v12, IntWalk.wrap64_in (wrap32 a) (by omega), IntWalk.wrap64_in (wrap32 b) (by omega), IntWalk.wrap64_in _ (by omega)]
theorem upperUnsigned (a b : Int) (ha : Ok a) (hb : Ok b) (w : World) : Calls Tryz.prog 157 #[.int .u32 a, .int .u32 b] w fun e w' => e = .returned (.int .u32 (val 13 a b)) ∧ w' = w := by
  go_enter Tryz.func157, Tryz.ntmps157
  go_wp2
  go_ret
  refine ⟨ret_int ?_, rfl⟩
  have h3 := umul_bd a b ha hb
  rw [v13, IntWalk.u64_in a (by unfold Ok at ha; omega), IntWalk.u64_in b (by unfold Ok at hb; omega), IntWalk.u64_in _ (by omega)]
  omega
theorem divideSigned (a b : Int) (hb : Ok b) (w : World) : Calls Tryz.prog 159 #[.int .u32 a, .int .u32 b] w fun e w' => e = .returned (.int .u32 (val 14 a b)) ∧ w' = w := by
  by_cases h0 : b = 0
  · subst h0
    go_enter Tryz.func159, Tryz.ntmps159
    go_wp2
    go_ret
    exact ⟨ret_int (by rw [v14]; rfl), rfl⟩
  · have h1 : (b == 0) = false := by simpa using h0
    have h2 : ¬ wrap32 b = 0 := fun h => h0 ((wrap32_zero b hb).mp h)
    go_enter Tryz.func159, Tryz.ntmps159
    go_wp2
    go_ret
    exact ⟨ret_int (by rw [v14, if_neg h0]; simp only [wrap32]; omega), rfl⟩
theorem divideUnsigned (a b : Int) (ha : Ok a) (hb : Ok b) (w : World) : Calls Tryz.prog 160 #[.int .u32 a, .int .u32 b] w fun e w' => e = .returned (.int .u32 (val 15 a b)) ∧ w' = w := by
  by_cases h0 : b = 0
  · subst h0
    go_enter Tryz.func160, Tryz.ntmps160
    go_wp2
    go_ret
    exact ⟨ret_int (by rw [v15]; rfl), rfl⟩
  · have h1 : (b == 0) = false := by simpa using h0
    obtain ⟨ha1, ha2⟩ := ha
    obtain ⟨hb1, hb2⟩ := hb
    go_enter Tryz.func160, Tryz.ntmps160
    go_wp2
    go_ret
    exact ⟨ret_int (by rw [v15, if_neg h0]), rfl⟩
theorem restSigned (a b : Int) (hb : Ok b) (w : World) : Calls Tryz.prog 161 #[.int .u32 a, .int .u32 b] w fun e w' => e = .returned (.int .u32 (val 16 a b)) ∧ w' = w := by
  by_cases h0 : b = 0
  · subst h0
    go_enter Tryz.func161, Tryz.ntmps161
    go_wp2
    go_ret
    exact ⟨ret_int (by rw [v16]; rfl), rfl⟩
  · have h1 : (b == 0) = false := by simpa using h0
    have h2 : ¬ wrap32 b = 0 := fun h => h0 ((wrap32_zero b hb).mp h)
    go_enter Tryz.func161, Tryz.ntmps161
    go_wp2
    go_ret
    exact ⟨ret_int (by rw [v16, if_neg h0]), rfl⟩
theorem restUnsigned (a b : Int) (ha : Ok a) (hb : Ok b) (w : World) : Calls Tryz.prog 162 #[.int .u32 a, .int .u32 b] w fun e w' => e = .returned (.int .u32 (val 17 a b)) ∧ w' = w := by
  by_cases h0 : b = 0
  · subst h0
    go_enter Tryz.func162, Tryz.ntmps162
    go_wp2
    go_ret
    exact ⟨ret_int (by rw [v17]; rfl), rfl⟩
  · have h1 : (b == 0) = false := by simpa using h0
    obtain ⟨ha1, ha2⟩ := ha
    obtain ⟨hb1, hb2⟩ := hb
    go_enter Tryz.func162, Tryz.ntmps162
    go_wp2
    go_ret
    exact ⟨ret_int (by rw [v17, if_neg h0]), rfl⟩
set_option maxHeartbeats 1000000 in
theorem do_yes (op a b : Int) (ho : isOp op = true) (ha : Ok a) (hb : Ok b) (w : World) : Calls Tryz.prog 137 #[.int .i64 op, .int .u32 a, .int .u32 b] w fun e w' => e = .returned (.tuple #[.int .u32 (val op a b), .int .i64 0]) ∧ w' = w := by
  have h1 := and31 b hb
  have h2 : 0 ≤ b % 32 := by omega
  have h3 : b % 32 ≤ 31 := by omega
  rcases cases17 ho with h | h | h | h | h | h | h | h | h | h | h | h | h | h | h | h | h <;> subst h <;> clear ho
  all_goals
    go_enter Tryz.func137, Tryz.ntmps137
  · go_wp2
    go_ret2
    exact ⟨ret_pair (by rw [v1]), rfl⟩
  · go_wp2
    go_ret2
    exact ⟨ret_pair (by rw [v2]), rfl⟩
  · go_wp2
    go_ret2
    exact ⟨ret_pair (by rw [v3]), rfl⟩
  · go_wp2_with (go_at_call 158; refine (oneIf _ _).mono ?_; rintro e w' ⟨rfl, rfl⟩)
    go_ret2
    exact ⟨ret_pair (by rw [v4]), rfl⟩
  · go_wp2_with (go_at_call 158; refine (oneIf _ _).mono ?_; rintro e w' ⟨rfl, rfl⟩)
    go_ret2
    exact ⟨ret_pair (by rw [v5]), rfl⟩
  · go_wp2
    go_ret2
    exact ⟨ret_pair (by rw [v6]), rfl⟩
  · go_wp2
    go_ret2
    exact ⟨ret_pair (by rw [v7]), rfl⟩
  · go_wp2
    go_ret2
    exact ⟨ret_pair (by rw [v8]), rfl⟩
  · go_wp2
    go_ret2
    exact ⟨ret_pair (by rw [v9]), rfl⟩
  · go_wp2
    go_ret2
    exact ⟨ret_pair (by rw [v10]), rfl⟩
  · go_wp2
    go_ret2
    exact ⟨ret_pair (by rw [v11]), rfl⟩
  · go_wp2_with (go_at_call 156; refine (upperSigned a b _).mono ?_; rintro e w' ⟨rfl, rfl⟩)
    go_ret2
    exact ⟨rfl, rfl⟩
  · go_wp2_with (go_at_call 157; refine (upperUnsigned a b ha hb _).mono ?_; rintro e w' ⟨rfl, rfl⟩)
    go_ret2
    exact ⟨rfl, rfl⟩
  · go_wp2_with (go_at_call 159; refine (divideSigned a b hb _).mono ?_; rintro e w' ⟨rfl, rfl⟩)
    go_ret2
    exact ⟨rfl, rfl⟩
  · go_wp2_with (go_at_call 160; refine (divideUnsigned a b ha hb _).mono ?_; rintro e w' ⟨rfl, rfl⟩)
    go_ret2
    exact ⟨rfl, rfl⟩
  · go_wp2_with (go_at_call 161; refine (restSigned a b hb _).mono ?_; rintro e w' ⟨rfl, rfl⟩)
    go_ret2
    exact ⟨rfl, rfl⟩
  · go_wp2_with (go_at_call 162; refine (restUnsigned a b ha hb _).mono ?_; rintro e w' ⟨rfl, rfl⟩)
    go_ret2
    exact ⟨rfl, rfl⟩
theorem do_no (op a b : Int) (ho : isOp op = false) (w : World) : Calls Tryz.prog 137 #[.int .i64 op, .int .u32 a, .int .u32 b] w fun e w' => e = .returned (.tuple #[.int .u32 (val op a b), .int .i64 1]) ∧ w' = w := by
  rw [vno op a b ho]
  have h' : ¬ (1 ≤ op ∧ op ≤ 17) := by simpa [isOp] using ho
  have e : ∀ k : Int, 1 ≤ k → k ≤ 17 → (op == k) = false := fun k h1 h2 => by simp; omega
  have e1 := e 1 (by omega) (by omega)
  have e2 := e 2 (by omega) (by omega)
  have e3 := e 3 (by omega) (by omega)
  have e4 := e 4 (by omega) (by omega)
  have e5 := e 5 (by omega) (by omega)
  have e6 := e 6 (by omega) (by omega)
  have e7 := e 7 (by omega) (by omega)
  have e8 := e 8 (by omega) (by omega)
  have e9 := e 9 (by omega) (by omega)
  have e10 := e 10 (by omega) (by omega)
  have e11 := e 11 (by omega) (by omega)
  have e12 := e 12 (by omega) (by omega)
  have e13 := e 13 (by omega) (by omega)
  have e14 := e 14 (by omega) (by omega)
  have e15 := e 15 (by omega) (by omega)
  have e16 := e 16 (by omega) (by omega)
  have e17 := e 17 (by omega) (by omega)
  clear e ho h'
  go_enter Tryz.func137, Tryz.ntmps137
  go_wp2
  go_ret2
  exact ⟨rfl, rfl⟩

theorem signed (a : Int) (ha : Ok a) (w : World) : Calls Tryz.prog 130 #[.int .u32 a] w fun e w' => e = .returned (.int .i64 (wrap32 a)) ∧ w' = w := by
  go_enter Tryz.func130, Tryz.ntmps130
  go_wp2
  go_ret
  have h1 := wrap32_bd a
  exact ⟨ret_int (by rw [IntWalk.wrap64_in (wrap32 a) (by omega)]), rfl⟩
theorem of (n : Int) (w : World) : Calls Tryz.prog 78 #[.int .i64 n] w fun e w' => e = .returned (.int .u32 (n % 4294967296)) ∧ w' = w := by
  go_enter Tryz.func78, Tryz.ntmps78
  go_wp2
  go_ret
  exact ⟨rfl, rfl⟩
end WC
end Go.Proofs.YtlmblfkcmhgdaaaGreat
namespace Go.Proofs.YtlmblfkcmhgdaaaGreat
open Go.RowKit
set_option linter.unusedVariables false
namespace WR
open WM WC
theorem signed (a : Int) (ha : Ok a) (w : World) : Calls Tryz.prog 56 #[.int .u32 a] w fun e w' => e = .returned (.int .i64 (wrap32 a)) ∧ w' = w := by
  obtain ⟨h1, h2⟩ := ha
  by_cases h : 2147483648 ≤ a
  · go_enter Tryz.func56, Tryz.ntmps56
    go_wp2
    go_ret
    exact ⟨ret_int (by unfold wrap32; omega), rfl⟩
  · go_enter Tryz.func56, Tryz.ntmps56
    go_wp2
    go_ret
    exact ⟨ret_int (by unfold wrap32; omega), rfl⟩
theorem of (n : Int) (h1 : -9223372036854775808 ≤ n) (h2 : n ≤ 9223372036854775807) (w : World) : Calls Tryz.prog 31 #[.int .i64 n] w fun e w' => e = .returned (.int .u32 (n % 4294967296)) ∧ w' = w := by
  have t1 := (tmod_bd n 4294967296 (by omega)).1
  have t2 := (tmod_bd n 4294967296 (by omega)).2
  by_cases h : n.tmod 4294967296 < 0
  · have hq := (floor_neg n 4294967296 (by omega) h).2
    have H := Lib.hid hq
    clear hq
    go_enter Tryz.func31, Tryz.ntmps31
    go_wp2
    go_ret
    exact ⟨ret_int (by have := H.out; omega), rfl⟩
  · have hq := (floor_pos n 4294967296 (by omega) h).2
    have H := Lib.hid hq
    clear hq
    go_enter Tryz.func31, Tryz.ntmps31
    go_wp2
    go_ret
    exact ⟨ret_int (by have := H.out; omega), rfl⟩
end WR
end Go.Proofs.YtlmblfkcmhgdaaaGreat
namespace Go.Proofs.YtlmblfkcmhgdaaaGreat
open Go.RowKit
set_option linter.unusedVariables false
namespace WG
open WM WC
theorem extend_yes (a n : Int) (ha : Ok a) (h1 : 1 ≤ n) (h2 : n ≤ 32) (w : World) : Calls Tryz.prog 127 #[.int .u32 a, .int .i64 n] w fun e w' => e = .returned (.tuple #[.int .u32 (ext a n), .int .i64 0]) ∧ w' = w := by
  have h3 : ¬ n < 1 := by omega
  have h4 : ¬ 32 < n := by omega
  have h5 : 0 ≤ 32 - n := by omega
  have H := Lib.hid (ext_moved a n h1 h2)
  go_enter Tryz.func127, Tryz.ntmps127
  go_wp2
  go_ret2
  exact ⟨ret_pair (by exact H.out), rfl⟩
end WG
end Go.Proofs.YtlmblfkcmhgdaaaGreat
