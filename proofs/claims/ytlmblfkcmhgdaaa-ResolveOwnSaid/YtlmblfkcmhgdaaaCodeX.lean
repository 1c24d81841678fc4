/-
  What package code makes of pieces, as plain arithmetic: the word of right parts and the parts of a word in closed form; what is wrong with parts. No condition.
-/
import Derived.Test.YtlmblfkcmhgdaaaCodeV
namespace Go.Proofs.Ytlmblfkcmhgdaaa
open Go.RowKit
set_option linter.unusedVariables false
set_option linter.unusedSimpArgs false
namespace CX
open CC CW CI CV
/-! ### bits that are apart -/
theorem nat_or (t b p r : Nat) (hr : r < 2 ^ b) (h : p / 2 ^ t % 2 ^ b = 0) : p ||| r * 2 ^ t = p + r * 2 ^ t := by
  have h1 : p = 2 ^ (t + b) * (p / 2 ^ t / 2 ^ b) + p % 2 ^ t := by
    have e1 := Nat.div_add_mod p (2 ^ t)
    have e2 := Nat.div_add_mod (p / 2 ^ t) (2 ^ b)
    rw [h, Nat.add_zero] at e2
    rw [Nat.pow_add, Nat.mul_assoc, e2, e1]
  have hl : p % 2 ^ t < 2 ^ t := Nat.mod_lt _ (Nat.pow_pos (by omega))
  have h2 : 2 ^ t * r + p % 2 ^ t < 2 ^ (t + b) := by
    rw [Nat.pow_add]
    have : 2 ^ t * r + 2 ^ t ≤ 2 ^ t * 2 ^ b := by
      rw [← Nat.mul_succ]; exact Nat.mul_le_mul_left _ hr
    omega
  generalize p / 2 ^ t / 2 ^ b = hi at *
  generalize p % 2 ^ t = lo at *
  have a1 := Nat.two_pow_add_eq_or_of_lt (i := t) hl r
  have a2 := Nat.two_pow_add_eq_or_of_lt (i := t + b) h2 hi
  have h3 : lo < 2 ^ (t + b) := by omega
  have a3 := Nat.two_pow_add_eq_or_of_lt (i := t + b) h3 hi
  rw [Nat.mul_comm r, h1, a3, Nat.or_assoc, Nat.or_comm lo, ← a1, ← a2, ← a3]
  omega
theorem or_add (t b : Nat) (T B : Int) (hT : T = 2 ^ t) (hB : B = 2 ^ b) {p r : Int} (hp : 0 ≤ p) (hp' : p < 4294967296) (hr : 0 ≤ r ∧ r < B) (h : p / T % B = 0) (hs : p + r * T < 4294967296) : bits .or .u32 p (r * T) = p + r * T := by
  subst hT hB
  obtain ⟨P, rfl⟩ : ∃ P : Nat, p = P := ⟨p.toNat, by omega⟩
  obtain ⟨R, rfl⟩ : ∃ R : Nat, r = R := ⟨r.toNat, by omega⟩
  have h1 : P / 2 ^ t % 2 ^ b = 0 := by exact_mod_cast h
  have h2 : R < 2 ^ b := by exact_mod_cast hr.2
  have e : ((R : Int) * 2 ^ t) = ((R * 2 ^ t : Nat) : Int) := by rw [Int.natCast_mul, Int.natCast_pow]; rfl
  have hn := nat_or t b P R h2 h1
  rw [e] at hs
  rw [e]
  clear e h1 h2 h hr
  generalize R * 2 ^ t = M at *
  rw [u32_or_nat P M (by omega) (by omega), hn]
  omega
theorem or_add64 (t b : Nat) (T B : Int) (hT : T = 2 ^ t) (hB : B = 2 ^ b) {p r : Int} (hp : 0 ≤ p) (hp' : p < 4294967296) (hr : 0 ≤ r ∧ r < B) (h : p / T % B = 0) (hs : p + r * T < 4294967296) : bits .or .i64 p (r * T) = p + r * T := by
  subst hT hB
  obtain ⟨P, rfl⟩ : ∃ P : Nat, p = P := ⟨p.toNat, by omega⟩
  obtain ⟨R, rfl⟩ : ∃ R : Nat, r = R := ⟨r.toNat, by omega⟩
  have h1 : P / 2 ^ t % 2 ^ b = 0 := by exact_mod_cast h
  have h2 : R < 2 ^ b := by exact_mod_cast hr.2
  have e : ((R : Int) * 2 ^ t) = ((R * 2 ^ t : Nat) : Int) := by rw [Int.natCast_mul, Int.natCast_pow]; rfl
  have hn := nat_or t b P R h2 h1
  rw [e] at hs
  rw [e]
  clear e h1 h2 h hr
  generalize R * 2 ^ t = M at *
  rw [or64 P M (by omega) (by omega), hn]
  omega
theorem or_rng (p q : Int) : 0 ≤ bits .or .u32 p q ∧ bits .or .u32 p q < 4294967296 := by
  show 0 ≤ IntKind.u32.wrap _ ∧ IntKind.u32.wrap _ < _
  rw [IntKind.wrap_u32']; omega
theorem or_zero (p : Int) (hp : 0 ≤ p ∧ p < 4294967296) : bits .or .u32 p 0 = p := by
  rw [u32_or p 0 hp.1 hp.2 (by omega) (by omega)]; simp; omega
theorem or_zero64 (p : Int) (hp : 0 ≤ p ∧ p < 4294967296) : bits .or .i64 p 0 = p := by
  obtain ⟨P, rfl⟩ : ∃ P : Nat, p = P := ⟨p.toNat, by omega⟩
  have := or64 P 0 (by omega) (by omega)
  simpa using this
theorem and_mask (y : Int) (b : Nat) (hy : 0 ≤ y ∧ y < 4294967296) (hb : b ≤ 31) : bits .and .u32 y (2 ^ b - 1) = y % 2 ^ b := by
  obtain ⟨Y, rfl⟩ : ∃ Y : Nat, y = Y := ⟨y.toNat, by omega⟩
  have h1 : 2 ^ b ≤ 2 ^ 31 := Nat.pow_le_pow_right (by omega) hb
  have h2 : 0 < 2 ^ b := Nat.pow_pos (by omega)
  have e0 : (2 : Int) ^ b = ((2 ^ b : Nat) : Int) := by push_cast; rfl
  have e : ((2 : Int) ^ b - 1) = ((2 ^ b - 1 : Nat) : Int) := by rw [e0]; omega
  rw [e, u32_and_nat Y (2 ^ b - 1) (by omega) (by omega), Nat.and_two_pow_sub_one_eq_mod]
  push_cast; rfl
theorem pv_zero (x : Int) : pv x 0 0 0 = 0 := by
  unfold pv
  have h := and_mask (x % 4294967296 / 2 ^ (0 : Int).toNat) 0 (by simp; omega) (by omega)
  simp at h ⊢
  rw [h]; simp
theorem orz (p q x : Int) : bits .or .u32 (bits .or .u32 p q) (pv x 0 0 0) = bits .or .u32 p q := by rw [pv_zero, or_zero _ (or_rng p q)]
theorem pv_0_5_7 (x : Int) : pv x 0 5 7 = x % 32 * 128 := by
  unfold pv
  have h := and_mask (x % 4294967296 / 1) 5 (by omega) (by omega)
  simp only [show ((0 : Int)).toNat = 0 from rfl, show ((5 : Int)).toNat = 5 from rfl, show ((7 : Int)).toNat = 7 from rfl]
  rw [show ((2 : Int) ^ 0) = 1 from rfl, h, show ((2 : Int) ^ 5) = 32 from rfl, show ((2 : Int) ^ 7) = 128 from rfl]
  omega
theorem pc_0_5_7 (x : Int) (hx : 0 ≤ x ∧ x < 4294967296) : pc x 0 5 7 = x / 128 % 32 * 1 := by
  unfold pc
  have h := and_mask (x / 128) 5 (by omega) (by omega)
  simp only [show ((0 : Int)).toNat = 0 from rfl, show ((5 : Int)).toNat = 5 from rfl, show ((7 : Int)).toNat = 7 from rfl]
  rw [show ((2 : Int) ^ 7) = 128 from rfl, h, show ((2 : Int) ^ 5) = 32 from rfl, show ((2 : Int) ^ 0) = 1 from rfl]
  omega
theorem pv_0_5_15 (x : Int) : pv x 0 5 15 = x % 32 * 32768 := by
  unfold pv
  have h := and_mask (x % 4294967296 / 1) 5 (by omega) (by omega)
  simp only [show ((0 : Int)).toNat = 0 from rfl, show ((5 : Int)).toNat = 5 from rfl, show ((15 : Int)).toNat = 15 from rfl]
  rw [show ((2 : Int) ^ 0) = 1 from rfl, h, show ((2 : Int) ^ 5) = 32 from rfl, show ((2 : Int) ^ 15) = 32768 from rfl]
  omega
theorem pc_0_5_15 (x : Int) (hx : 0 ≤ x ∧ x < 4294967296) : pc x 0 5 15 = x / 32768 % 32 * 1 := by
  unfold pc
  have h := and_mask (x / 32768) 5 (by omega) (by omega)
  simp only [show ((0 : Int)).toNat = 0 from rfl, show ((5 : Int)).toNat = 5 from rfl, show ((15 : Int)).toNat = 15 from rfl]
  rw [show ((2 : Int) ^ 15) = 32768 from rfl, h, show ((2 : Int) ^ 5) = 32 from rfl, show ((2 : Int) ^ 0) = 1 from rfl]
  omega
theorem pv_0_5_20 (x : Int) : pv x 0 5 20 = x % 32 * 1048576 := by
  unfold pv
  have h := and_mask (x % 4294967296 / 1) 5 (by omega) (by omega)
  simp only [show ((0 : Int)).toNat = 0 from rfl, show ((5 : Int)).toNat = 5 from rfl, show ((20 : Int)).toNat = 20 from rfl]
  rw [show ((2 : Int) ^ 0) = 1 from rfl, h, show ((2 : Int) ^ 5) = 32 from rfl, show ((2 : Int) ^ 20) = 1048576 from rfl]
  omega
theorem pc_0_5_20 (x : Int) (hx : 0 ≤ x ∧ x < 4294967296) : pc x 0 5 20 = x / 1048576 % 32 * 1 := by
  unfold pc
  have h := and_mask (x / 1048576) 5 (by omega) (by omega)
  simp only [show ((0 : Int)).toNat = 0 from rfl, show ((5 : Int)).toNat = 5 from rfl, show ((20 : Int)).toNat = 20 from rfl]
  rw [show ((2 : Int) ^ 20) = 1048576 from rfl, h, show ((2 : Int) ^ 5) = 32 from rfl, show ((2 : Int) ^ 0) = 1 from rfl]
  omega
theorem pv_0_12_20 (x : Int) : pv x 0 12 20 = x % 4096 * 1048576 := by
  unfold pv
  have h := and_mask (x % 4294967296 / 1) 12 (by omega) (by omega)
  simp only [show ((0 : Int)).toNat = 0 from rfl, show ((12 : Int)).toNat = 12 from rfl, show ((20 : Int)).toNat = 20 from rfl]
  rw [show ((2 : Int) ^ 0) = 1 from rfl, h, show ((2 : Int) ^ 12) = 4096 from rfl, show ((2 : Int) ^ 20) = 1048576 from rfl]
  omega
theorem pc_0_12_20 (x : Int) (hx : 0 ≤ x ∧ x < 4294967296) : pc x 0 12 20 = x / 1048576 % 4096 * 1 := by
  unfold pc
  have h := and_mask (x / 1048576) 12 (by omega) (by omega)
  simp only [show ((0 : Int)).toNat = 0 from rfl, show ((12 : Int)).toNat = 12 from rfl, show ((20 : Int)).toNat = 20 from rfl]
  rw [show ((2 : Int) ^ 20) = 1048576 from rfl, h, show ((2 : Int) ^ 12) = 4096 from rfl, show ((2 : Int) ^ 0) = 1 from rfl]
  omega
theorem pv_0_20_12 (x : Int) : pv x 0 20 12 = x % 1048576 * 4096 := by
  unfold pv
  have h := and_mask (x % 4294967296 / 1) 20 (by omega) (by omega)
  simp only [show ((0 : Int)).toNat = 0 from rfl, show ((20 : Int)).toNat = 20 from rfl, show ((12 : Int)).toNat = 12 from rfl]
  rw [show ((2 : Int) ^ 0) = 1 from rfl, h, show ((2 : Int) ^ 20) = 1048576 from rfl, show ((2 : Int) ^ 12) = 4096 from rfl]
  omega
theorem pc_0_20_12 (x : Int) (hx : 0 ≤ x ∧ x < 4294967296) : pc x 0 20 12 = x / 4096 % 1048576 * 1 := by
  unfold pc
  have h := and_mask (x / 4096) 20 (by omega) (by omega)
  simp only [show ((0 : Int)).toNat = 0 from rfl, show ((20 : Int)).toNat = 20 from rfl, show ((12 : Int)).toNat = 12 from rfl]
  rw [show ((2 : Int) ^ 12) = 4096 from rfl, h, show ((2 : Int) ^ 20) = 1048576 from rfl, show ((2 : Int) ^ 0) = 1 from rfl]
  omega
theorem pv_1_4_8 (x : Int) : pv x 1 4 8 = x / 2 % 16 * 256 := by
  unfold pv
  have h := and_mask (x % 4294967296 / 2) 4 (by omega) (by omega)
  simp only [show ((1 : Int)).toNat = 1 from rfl, show ((4 : Int)).toNat = 4 from rfl, show ((8 : Int)).toNat = 8 from rfl]
  rw [show ((2 : Int) ^ 1) = 2 from rfl, h, show ((2 : Int) ^ 4) = 16 from rfl, show ((2 : Int) ^ 8) = 256 from rfl]
  omega
theorem pc_1_4_8 (x : Int) (hx : 0 ≤ x ∧ x < 4294967296) : pc x 1 4 8 = x / 256 % 16 * 2 := by
  unfold pc
  have h := and_mask (x / 256) 4 (by omega) (by omega)
  simp only [show ((1 : Int)).toNat = 1 from rfl, show ((4 : Int)).toNat = 4 from rfl, show ((8 : Int)).toNat = 8 from rfl]
  rw [show ((2 : Int) ^ 8) = 256 from rfl, h, show ((2 : Int) ^ 4) = 16 from rfl, show ((2 : Int) ^ 1) = 2 from rfl]
  omega
theorem pv_1_10_21 (x : Int) : pv x 1 10 21 = x / 2 % 1024 * 2097152 := by
  unfold pv
  have h := and_mask (x % 4294967296 / 2) 10 (by omega) (by omega)
  simp only [show ((1 : Int)).toNat = 1 from rfl, show ((10 : Int)).toNat = 10 from rfl, show ((21 : Int)).toNat = 21 from rfl]
  rw [show ((2 : Int) ^ 1) = 2 from rfl, h, show ((2 : Int) ^ 10) = 1024 from rfl, show ((2 : Int) ^ 21) = 2097152 from rfl]
  omega
theorem pc_1_10_21 (x : Int) (hx : 0 ≤ x ∧ x < 4294967296) : pc x 1 10 21 = x / 2097152 % 1024 * 2 := by
  unfold pc
  have h := and_mask (x / 2097152) 10 (by omega) (by omega)
  simp only [show ((1 : Int)).toNat = 1 from rfl, show ((10 : Int)).toNat = 10 from rfl, show ((21 : Int)).toNat = 21 from rfl]
  rw [show ((2 : Int) ^ 21) = 2097152 from rfl, h, show ((2 : Int) ^ 10) = 1024 from rfl, show ((2 : Int) ^ 1) = 2 from rfl]
  omega
theorem pv_5_6_25 (x : Int) : pv x 5 6 25 = x / 32 % 64 * 33554432 := by
  unfold pv
  have h := and_mask (x % 4294967296 / 32) 6 (by omega) (by omega)
  simp only [show ((5 : Int)).toNat = 5 from rfl, show ((6 : Int)).toNat = 6 from rfl, show ((25 : Int)).toNat = 25 from rfl]
  rw [show ((2 : Int) ^ 5) = 32 from rfl, h, show ((2 : Int) ^ 6) = 64 from rfl, show ((2 : Int) ^ 25) = 33554432 from rfl]
  omega
theorem pc_5_6_25 (x : Int) (hx : 0 ≤ x ∧ x < 4294967296) : pc x 5 6 25 = x / 33554432 % 64 * 32 := by
  unfold pc
  have h := and_mask (x / 33554432) 6 (by omega) (by omega)
  simp only [show ((5 : Int)).toNat = 5 from rfl, show ((6 : Int)).toNat = 6 from rfl, show ((25 : Int)).toNat = 25 from rfl]
  rw [show ((2 : Int) ^ 25) = 33554432 from rfl, h, show ((2 : Int) ^ 6) = 64 from rfl, show ((2 : Int) ^ 5) = 32 from rfl]
  omega
theorem pv_5_7_25 (x : Int) : pv x 5 7 25 = x / 32 % 128 * 33554432 := by
  unfold pv
  have h := and_mask (x % 4294967296 / 32) 7 (by omega) (by omega)
  simp only [show ((5 : Int)).toNat = 5 from rfl, show ((7 : Int)).toNat = 7 from rfl, show ((25 : Int)).toNat = 25 from rfl]
  rw [show ((2 : Int) ^ 5) = 32 from rfl, h, show ((2 : Int) ^ 7) = 128 from rfl, show ((2 : Int) ^ 25) = 33554432 from rfl]
  omega
theorem pc_5_7_25 (x : Int) (hx : 0 ≤ x ∧ x < 4294967296) : pc x 5 7 25 = x / 33554432 % 128 * 32 := by
  unfold pc
  have h := and_mask (x / 33554432) 7 (by omega) (by omega)
  simp only [show ((5 : Int)).toNat = 5 from rfl, show ((7 : Int)).toNat = 7 from rfl, show ((25 : Int)).toNat = 25 from rfl]
  rw [show ((2 : Int) ^ 25) = 33554432 from rfl, h, show ((2 : Int) ^ 7) = 128 from rfl, show ((2 : Int) ^ 5) = 32 from rfl]
  omega
theorem pv_11_1_7 (x : Int) : pv x 11 1 7 = x / 2048 % 2 * 128 := by
  unfold pv
  have h := and_mask (x % 4294967296 / 2048) 1 (by omega) (by omega)
  simp only [show ((11 : Int)).toNat = 11 from rfl, show ((1 : Int)).toNat = 1 from rfl, show ((7 : Int)).toNat = 7 from rfl]
  rw [show ((2 : Int) ^ 11) = 2048 from rfl, h, show ((2 : Int) ^ 1) = 2 from rfl, show ((2 : Int) ^ 7) = 128 from rfl]
  omega
theorem pc_11_1_7 (x : Int) (hx : 0 ≤ x ∧ x < 4294967296) : pc x 11 1 7 = x / 128 % 2 * 2048 := by
  unfold pc
  have h := and_mask (x / 128) 1 (by omega) (by omega)
  simp only [show ((11 : Int)).toNat = 11 from rfl, show ((1 : Int)).toNat = 1 from rfl, show ((7 : Int)).toNat = 7 from rfl]
  rw [show ((2 : Int) ^ 7) = 128 from rfl, h, show ((2 : Int) ^ 1) = 2 from rfl, show ((2 : Int) ^ 11) = 2048 from rfl]
  omega
theorem pv_11_1_20 (x : Int) : pv x 11 1 20 = x / 2048 % 2 * 1048576 := by
  unfold pv
  have h := and_mask (x % 4294967296 / 2048) 1 (by omega) (by omega)
  simp only [show ((11 : Int)).toNat = 11 from rfl, show ((1 : Int)).toNat = 1 from rfl, show ((20 : Int)).toNat = 20 from rfl]
  rw [show ((2 : Int) ^ 11) = 2048 from rfl, h, show ((2 : Int) ^ 1) = 2 from rfl, show ((2 : Int) ^ 20) = 1048576 from rfl]
  omega
theorem pc_11_1_20 (x : Int) (hx : 0 ≤ x ∧ x < 4294967296) : pc x 11 1 20 = x / 1048576 % 2 * 2048 := by
  unfold pc
  have h := and_mask (x / 1048576) 1 (by omega) (by omega)
  simp only [show ((11 : Int)).toNat = 11 from rfl, show ((1 : Int)).toNat = 1 from rfl, show ((20 : Int)).toNat = 20 from rfl]
  rw [show ((2 : Int) ^ 20) = 1048576 from rfl, h, show ((2 : Int) ^ 1) = 2 from rfl, show ((2 : Int) ^ 11) = 2048 from rfl]
  omega
theorem pv_12_1_31 (x : Int) : pv x 12 1 31 = x / 4096 % 2 * 2147483648 := by
  unfold pv
  have h := and_mask (x % 4294967296 / 4096) 1 (by omega) (by omega)
  simp only [show ((12 : Int)).toNat = 12 from rfl, show ((1 : Int)).toNat = 1 from rfl, show ((31 : Int)).toNat = 31 from rfl]
  rw [show ((2 : Int) ^ 12) = 4096 from rfl, h, show ((2 : Int) ^ 1) = 2 from rfl, show ((2 : Int) ^ 31) = 2147483648 from rfl]
  omega
theorem pc_12_1_31 (x : Int) (hx : 0 ≤ x ∧ x < 4294967296) : pc x 12 1 31 = x / 2147483648 % 2 * 4096 := by
  unfold pc
  have h := and_mask (x / 2147483648) 1 (by omega) (by omega)
  simp only [show ((12 : Int)).toNat = 12 from rfl, show ((1 : Int)).toNat = 1 from rfl, show ((31 : Int)).toNat = 31 from rfl]
  rw [show ((2 : Int) ^ 31) = 2147483648 from rfl, h, show ((2 : Int) ^ 1) = 2 from rfl, show ((2 : Int) ^ 12) = 4096 from rfl]
  omega
theorem pv_12_8_12 (x : Int) : pv x 12 8 12 = x / 4096 % 256 * 4096 := by
  unfold pv
  have h := and_mask (x % 4294967296 / 4096) 8 (by omega) (by omega)
  simp only [show ((12 : Int)).toNat = 12 from rfl, show ((8 : Int)).toNat = 8 from rfl, show ((12 : Int)).toNat = 12 from rfl]
  rw [show ((2 : Int) ^ 12) = 4096 from rfl, h, show ((2 : Int) ^ 8) = 256 from rfl]
  omega
theorem pc_12_8_12 (x : Int) (hx : 0 ≤ x ∧ x < 4294967296) : pc x 12 8 12 = x / 4096 % 256 * 4096 := by
  unfold pc
  have h := and_mask (x / 4096) 8 (by omega) (by omega)
  simp only [show ((12 : Int)).toNat = 12 from rfl, show ((8 : Int)).toNat = 8 from rfl, show ((12 : Int)).toNat = 12 from rfl]
  rw [show ((2 : Int) ^ 12) = 4096 from rfl, h, show ((2 : Int) ^ 8) = 256 from rfl]
  omega
theorem pv_20_1_31 (x : Int) : pv x 20 1 31 = x / 1048576 % 2 * 2147483648 := by
  unfold pv
  have h := and_mask (x % 4294967296 / 1048576) 1 (by omega) (by omega)
  simp only [show ((20 : Int)).toNat = 20 from rfl, show ((1 : Int)).toNat = 1 from rfl, show ((31 : Int)).toNat = 31 from rfl]
  rw [show ((2 : Int) ^ 20) = 1048576 from rfl, h, show ((2 : Int) ^ 1) = 2 from rfl, show ((2 : Int) ^ 31) = 2147483648 from rfl]
  omega
theorem pc_20_1_31 (x : Int) (hx : 0 ≤ x ∧ x < 4294967296) : pc x 20 1 31 = x / 2147483648 % 2 * 1048576 := by
  unfold pc
  have h := and_mask (x / 2147483648) 1 (by omega) (by omega)
  simp only [show ((20 : Int)).toNat = 20 from rfl, show ((1 : Int)).toNat = 1 from rfl, show ((31 : Int)).toNat = 31 from rfl]
  rw [show ((2 : Int) ^ 31) = 2147483648 from rfl, h, show ((2 : Int) ^ 1) = 2 from rfl, show ((2 : Int) ^ 20) = 1048576 from rfl]
  omega
theorem pc_zero (x : Int) (hx : 0 ≤ x ∧ x < 4294967296) : pc x 0 0 0 = 0 := by
  unfold pc
  have h := and_mask (x / 2 ^ (0 : Int).toNat) 0 (by simp; omega) (by omega)
  simp at h ⊢
  rw [h]; simp
/-! ### the word, kind by kind -/
theorem w0 (o a b : Int) (ho : 0 ≤ o ∧ o ≤ 127) (ha : 0 ≤ a ∧ a ≤ 7) (hb : 0 ≤ b ∧ b ≤ 127) : bits .or .u32 (bits .or .u32 o (a * 4096 % 4294967296)) (b * 33554432 % 4294967296) = o + 4096 * a + 33554432 * b := by
  rw [show a * 4096 % 4294967296 = a * 4096 by omega, show b * 33554432 % 4294967296 = b * 33554432 by omega,
    or_add 12 3 4096 8 rfl rfl (by omega) (by omega) (by omega) (by omega) (by omega), or_add 25 7 33554432 128 rfl rfl (by omega) (by omega) (by omega) (by omega) (by omega)]
  omega
theorem chain0 (p : Nat → Int) (A B : Int) : accN (CM.uv 0) p (bits .or .u32 A B) 4 = bits .or .u32 (bits .or .u32 (bits .or .u32 (bits .or .u32 A B) (pv (p 0) 0 5 7)) (pv (p 1) 0 5 15)) (pv (p 2) 0 5 20) := by
  have h : accN (CM.uv 0) p (bits .or .u32 A B) 4 = bits .or .u32 (bits .or .u32 (bits .or .u32 (bits .or .u32 (bits .or .u32 (bits .or .u32 (bits .or .u32 (bits .or .u32 (bits .or .u32 (bits .or .u32 (bits .or .u32 (bits .or .u32 (bits .or .u32 (bits .or .u32 (bits .or .u32 (bits .or .u32 (bits .or .u32 A B) (pv (p 0) 0 5 7)) (pv (p 0) 0 0 0)) (pv (p 0) 0 0 0)) (pv (p 0) 0 0 0)) (pv (p 1) 0 5 15)) (pv (p 1) 0 0 0)) (pv (p 1) 0 0 0)) (pv (p 1) 0 0 0)) (pv (p 2) 0 5 20)) (pv (p 2) 0 0 0)) (pv (p 2) 0 0 0)) (pv (p 2) 0 0 0)) (pv (p 3) 0 0 0)) (pv (p 3) 0 0 0)) (pv (p 3) 0 0 0)) (pv (p 3) 0 0 0) := rfl
  rw [h]
  simp only [orz]
theorem chain1 (p : Nat → Int) (A B : Int) : accN (CM.uv 1) p (bits .or .u32 A B) 4 = bits .or .u32 (bits .or .u32 (bits .or .u32 (bits .or .u32 A B) (pv (p 0) 0 5 7)) (pv (p 1) 0 5 15)) (pv (p 3) 0 12 20) := by
  have h : accN (CM.uv 1) p (bits .or .u32 A B) 4 = bits .or .u32 (bits .or .u32 (bits .or .u32 (bits .or .u32 (bits .or .u32 (bits .or .u32 (bits .or .u32 (bits .or .u32 (bits .or .u32 (bits .or .u32 (bits .or .u32 (bits .or .u32 (bits .or .u32 (bits .or .u32 (bits .or .u32 (bits .or .u32 (bits .or .u32 A B) (pv (p 0) 0 5 7)) (pv (p 0) 0 0 0)) (pv (p 0) 0 0 0)) (pv (p 0) 0 0 0)) (pv (p 1) 0 5 15)) (pv (p 1) 0 0 0)) (pv (p 1) 0 0 0)) (pv (p 1) 0 0 0)) (pv (p 2) 0 0 0)) (pv (p 2) 0 0 0)) (pv (p 2) 0 0 0)) (pv (p 2) 0 0 0)) (pv (p 3) 0 12 20)) (pv (p 3) 0 0 0)) (pv (p 3) 0 0 0)) (pv (p 3) 0 0 0) := rfl
  rw [h]
  simp only [orz]
theorem chain2 (p : Nat → Int) (A B : Int) : accN (CM.uv 2) p (bits .or .u32 A B) 4 = bits .or .u32 (bits .or .u32 (bits .or .u32 (bits .or .u32 A B) (pv (p 0) 0 5 7)) (pv (p 1) 0 5 15)) (pv (p 3) 0 5 20) := by
  have h : accN (CM.uv 2) p (bits .or .u32 A B) 4 = bits .or .u32 (bits .or .u32 (bits .or .u32 (bits .or .u32 (bits .or .u32 (bits .or .u32 (bits .or .u32 (bits .or .u32 (bits .or .u32 (bits .or .u32 (bits .or .u32 (bits .or .u32 (bits .or .u32 (bits .or .u32 (bits .or .u32 (bits .or .u32 (bits .or .u32 A B) (pv (p 0) 0 5 7)) (pv (p 0) 0 0 0)) (pv (p 0) 0 0 0)) (pv (p 0) 0 0 0)) (pv (p 1) 0 5 15)) (pv (p 1) 0 0 0)) (pv (p 1) 0 0 0)) (pv (p 1) 0 0 0)) (pv (p 2) 0 0 0)) (pv (p 2) 0 0 0)) (pv (p 2) 0 0 0)) (pv (p 2) 0 0 0)) (pv (p 3) 0 5 20)) (pv (p 3) 0 0 0)) (pv (p 3) 0 0 0)) (pv (p 3) 0 0 0) := rfl
  rw [h]
  simp only [orz]
theorem chain3 (p : Nat → Int) (A B : Int) : accN (CM.uv 3) p (bits .or .u32 A B) 4 = bits .or .u32 (bits .or .u32 (bits .or .u32 (bits .or .u32 (bits .or .u32 A B) (pv (p 1) 0 5 15)) (pv (p 2) 0 5 20)) (pv (p 3) 0 5 7)) (pv (p 3) 5 7 25) := by
  have h : accN (CM.uv 3) p (bits .or .u32 A B) 4 = bits .or .u32 (bits .or .u32 (bits .or .u32 (bits .or .u32 (bits .or .u32 (bits .or .u32 (bits .or .u32 (bits .or .u32 (bits .or .u32 (bits .or .u32 (bits .or .u32 (bits .or .u32 (bits .or .u32 (bits .or .u32 (bits .or .u32 (bits .or .u32 (bits .or .u32 A B) (pv (p 0) 0 0 0)) (pv (p 0) 0 0 0)) (pv (p 0) 0 0 0)) (pv (p 0) 0 0 0)) (pv (p 1) 0 5 15)) (pv (p 1) 0 0 0)) (pv (p 1) 0 0 0)) (pv (p 1) 0 0 0)) (pv (p 2) 0 5 20)) (pv (p 2) 0 0 0)) (pv (p 2) 0 0 0)) (pv (p 2) 0 0 0)) (pv (p 3) 0 5 7)) (pv (p 3) 5 7 25)) (pv (p 3) 0 0 0)) (pv (p 3) 0 0 0) := rfl
  rw [h]
  simp only [orz]
theorem chain4 (p : Nat → Int) (A B : Int) : accN (CM.uv 4) p (bits .or .u32 A B) 4 = bits .or .u32 (bits .or .u32 (bits .or .u32 (bits .or .u32 (bits .or .u32 (bits .or .u32 (bits .or .u32 A B) (pv (p 1) 0 5 15)) (pv (p 2) 0 5 20)) (pv (p 3) 11 1 7)) (pv (p 3) 1 4 8)) (pv (p 3) 5 6 25)) (pv (p 3) 12 1 31) := by
  have h : accN (CM.uv 4) p (bits .or .u32 A B) 4 = bits .or .u32 (bits .or .u32 (bits .or .u32 (bits .or .u32 (bits .or .u32 (bits .or .u32 (bits .or .u32 (bits .or .u32 (bits .or .u32 (bits .or .u32 (bits .or .u32 (bits .or .u32 (bits .or .u32 (bits .or .u32 (bits .or .u32 (bits .or .u32 (bits .or .u32 A B) (pv (p 0) 0 0 0)) (pv (p 0) 0 0 0)) (pv (p 0) 0 0 0)) (pv (p 0) 0 0 0)) (pv (p 1) 0 5 15)) (pv (p 1) 0 0 0)) (pv (p 1) 0 0 0)) (pv (p 1) 0 0 0)) (pv (p 2) 0 5 20)) (pv (p 2) 0 0 0)) (pv (p 2) 0 0 0)) (pv (p 2) 0 0 0)) (pv (p 3) 11 1 7)) (pv (p 3) 1 4 8)) (pv (p 3) 5 6 25)) (pv (p 3) 12 1 31) := rfl
  rw [h]
  simp only [orz]
theorem chain5 (p : Nat → Int) (A B : Int) : accN (CM.uv 5) p (bits .or .u32 A B) 4 = bits .or .u32 (bits .or .u32 (bits .or .u32 A B) (pv (p 0) 0 5 7)) (pv (p 3) 0 20 12) := by
  have h : accN (CM.uv 5) p (bits .or .u32 A B) 4 = bits .or .u32 (bits .or .u32 (bits .or .u32 (bits .or .u32 (bits .or .u32 (bits .or .u32 (bits .or .u32 (bits .or .u32 (bits .or .u32 (bits .or .u32 (bits .or .u32 (bits .or .u32 (bits .or .u32 (bits .or .u32 (bits .or .u32 (bits .or .u32 (bits .or .u32 A B) (pv (p 0) 0 5 7)) (pv (p 0) 0 0 0)) (pv (p 0) 0 0 0)) (pv (p 0) 0 0 0)) (pv (p 1) 0 0 0)) (pv (p 1) 0 0 0)) (pv (p 1) 0 0 0)) (pv (p 1) 0 0 0)) (pv (p 2) 0 0 0)) (pv (p 2) 0 0 0)) (pv (p 2) 0 0 0)) (pv (p 2) 0 0 0)) (pv (p 3) 0 20 12)) (pv (p 3) 0 0 0)) (pv (p 3) 0 0 0)) (pv (p 3) 0 0 0) := rfl
  rw [h]
  simp only [orz]
theorem chain6 (p : Nat → Int) (A B : Int) : accN (CM.uv 6) p (bits .or .u32 A B) 4 = bits .or .u32 (bits .or .u32 (bits .or .u32 (bits .or .u32 (bits .or .u32 (bits .or .u32 A B) (pv (p 0) 0 5 7)) (pv (p 3) 12 8 12)) (pv (p 3) 11 1 20)) (pv (p 3) 1 10 21)) (pv (p 3) 20 1 31) := by
  have h : accN (CM.uv 6) p (bits .or .u32 A B) 4 = bits .or .u32 (bits .or .u32 (bits .or .u32 (bits .or .u32 (bits .or .u32 (bits .or .u32 (bits .or .u32 (bits .or .u32 (bits .or .u32 (bits .or .u32 (bits .or .u32 (bits .or .u32 (bits .or .u32 (bits .or .u32 (bits .or .u32 (bits .or .u32 (bits .or .u32 A B) (pv (p 0) 0 5 7)) (pv (p 0) 0 0 0)) (pv (p 0) 0 0 0)) (pv (p 0) 0 0 0)) (pv (p 1) 0 0 0)) (pv (p 1) 0 0 0)) (pv (p 1) 0 0 0)) (pv (p 1) 0 0 0)) (pv (p 2) 0 0 0)) (pv (p 2) 0 0 0)) (pv (p 2) 0 0 0)) (pv (p 2) 0 0 0)) (pv (p 3) 12 8 12)) (pv (p 3) 11 1 20)) (pv (p 3) 1 10 21)) (pv (p 3) 20 1 31) := rfl
  rw [h]
  simp only [orz]
theorem chain7 (p : Nat → Int) (A B : Int) : accN (CM.uv 7) p (bits .or .u32 A B) 4 = bits .or .u32 A B := by
  have h : accN (CM.uv 7) p (bits .or .u32 A B) 4 = bits .or .u32 (bits .or .u32 (bits .or .u32 (bits .or .u32 (bits .or .u32 (bits .or .u32 (bits .or .u32 (bits .or .u32 (bits .or .u32 (bits .or .u32 (bits .or .u32 (bits .or .u32 (bits .or .u32 (bits .or .u32 (bits .or .u32 (bits .or .u32 (bits .or .u32 A B) (pv (p 0) 0 0 0)) (pv (p 0) 0 0 0)) (pv (p 0) 0 0 0)) (pv (p 0) 0 0 0)) (pv (p 1) 0 0 0)) (pv (p 1) 0 0 0)) (pv (p 1) 0 0 0)) (pv (p 1) 0 0 0)) (pv (p 2) 0 0 0)) (pv (p 2) 0 0 0)) (pv (p 2) 0 0 0)) (pv (p 2) 0 0 0)) (pv (p 3) 0 0 0)) (pv (p 3) 0 0 0)) (pv (p 3) 0 0 0)) (pv (p 3) 0 0 0) := rfl
  rw [h]
  simp only [orz]
theorem chain8 (p : Nat → Int) (A B : Int) : accN (CM.uv 8) p (bits .or .u32 A B) 4 = bits .or .u32 (bits .or .u32 (bits .or .u32 (bits .or .u32 A B) (pv (p 0) 0 5 7)) (pv (p 1) 0 5 15)) (pv (p 2) 0 5 20) := by
  have h : accN (CM.uv 8) p (bits .or .u32 A B) 4 = bits .or .u32 (bits .or .u32 (bits .or .u32 (bits .or .u32 (bits .or .u32 (bits .or .u32 (bits .or .u32 (bits .or .u32 (bits .or .u32 (bits .or .u32 (bits .or .u32 (bits .or .u32 (bits .or .u32 (bits .or .u32 (bits .or .u32 (bits .or .u32 (bits .or .u32 A B) (pv (p 0) 0 5 7)) (pv (p 0) 0 0 0)) (pv (p 0) 0 0 0)) (pv (p 0) 0 0 0)) (pv (p 1) 0 5 15)) (pv (p 1) 0 0 0)) (pv (p 1) 0 0 0)) (pv (p 1) 0 0 0)) (pv (p 2) 0 5 20)) (pv (p 2) 0 0 0)) (pv (p 2) 0 0 0)) (pv (p 2) 0 0 0)) (pv (p 3) 0 0 0)) (pv (p 3) 0 0 0)) (pv (p 3) 0 0 0)) (pv (p 3) 0 0 0) := rfl
  rw [h]
  simp only [orz]
theorem chain9 (p : Nat → Int) (A B : Int) : accN (CM.uv 9) p (bits .or .u32 A B) 4 = bits .or .u32 (bits .or .u32 (bits .or .u32 (bits .or .u32 A B) (pv (p 0) 0 5 7)) (pv (p 1) 0 5 15)) (pv (p 1) 0 5 20) := by
  have h : accN (CM.uv 9) p (bits .or .u32 A B) 4 = bits .or .u32 (bits .or .u32 (bits .or .u32 (bits .or .u32 (bits .or .u32 (bits .or .u32 (bits .or .u32 (bits .or .u32 (bits .or .u32 (bits .or .u32 (bits .or .u32 (bits .or .u32 (bits .or .u32 (bits .or .u32 (bits .or .u32 (bits .or .u32 (bits .or .u32 A B) (pv (p 0) 0 5 7)) (pv (p 0) 0 0 0)) (pv (p 0) 0 0 0)) (pv (p 0) 0 0 0)) (pv (p 1) 0 5 15)) (pv (p 1) 0 5 20)) (pv (p 1) 0 0 0)) (pv (p 1) 0 0 0)) (pv (p 2) 0 0 0)) (pv (p 2) 0 0 0)) (pv (p 2) 0 0 0)) (pv (p 2) 0 0 0)) (pv (p 3) 0 0 0)) (pv (p 3) 0 0 0)) (pv (p 3) 0 0 0)) (pv (p 3) 0 0 0) := rfl
  rw [h]
  simp only [orz]
theorem chain10 (p : Nat → Int) (A B : Int) : accN (CM.uv 10) p (bits .or .u32 A B) 4 = bits .or .u32 (bits .or .u32 (bits .or .u32 A B) (pv (p 0) 0 5 7)) (pv (p 1) 0 5 15) := by
  have h : accN (CM.uv 10) p (bits .or .u32 A B) 4 = bits .or .u32 (bits .or .u32 (bits .or .u32 (bits .or .u32 (bits .or .u32 (bits .or .u32 (bits .or .u32 (bits .or .u32 (bits .or .u32 (bits .or .u32 (bits .or .u32 (bits .or .u32 (bits .or .u32 (bits .or .u32 (bits .or .u32 (bits .or .u32 (bits .or .u32 A B) (pv (p 0) 0 5 7)) (pv (p 0) 0 0 0)) (pv (p 0) 0 0 0)) (pv (p 0) 0 0 0)) (pv (p 1) 0 5 15)) (pv (p 1) 0 0 0)) (pv (p 1) 0 0 0)) (pv (p 1) 0 0 0)) (pv (p 2) 0 0 0)) (pv (p 2) 0 0 0)) (pv (p 2) 0 0 0)) (pv (p 2) 0 0 0)) (pv (p 3) 0 0 0)) (pv (p 3) 0 0 0)) (pv (p 3) 0 0 0)) (pv (p 3) 0 0 0) := rfl
  rw [h]
  simp only [orz]
theorem word0 (o a b rd rs1 rs2 imm : Int) (hf : CM.ft 0 o a b = true) (g : CM.Good 0 rd rs1 rs2 imm) : accN (CM.uv 0) (CW.part rd rs1 rs2 imm) (bits .or .u32 (bits .or .u32 o (a * 4096 % 4294967296)) (b * 33554432 % 4294967296)) 4 = CM.word 0 o a b rd rs1 rs2 imm := by
  obtain ⟨o0, o1, a0, a1, b0, b1, z1, z2⟩ := CM.ft_bd hf
  obtain ⟨g1, g2, g3, g4, g5, g6, g7, g8⟩ := g
  simp [CM.uRd, CM.uRs1, CM.uRs2, CM.uImm, CM.fits] at g4 g5 g6 g7 g8 z1 z2
  rw [chain0, w0 o a b ⟨o0, o1⟩ ⟨a0, a1⟩ ⟨b0, b1⟩]
  simp only [CW.part, pv_0_5_15, pv_0_5_20, pv_0_5_7]
  rw [or_add 7 5 128 32 rfl rfl (by omega) (by omega) (by omega) (by omega) (by omega)]
  rw [or_add 15 5 32768 32 rfl rfl (by omega) (by omega) (by omega) (by omega) (by omega)]
  rw [or_add 20 5 1048576 32 rfl rfl (by omega) (by omega) (by omega) (by omega) (by omega)]
  simp [CM.word]
  omega
theorem word1 (o a b rd rs1 rs2 imm : Int) (hf : CM.ft 1 o a b = true) (g : CM.Good 1 rd rs1 rs2 imm) : accN (CM.uv 1) (CW.part rd rs1 rs2 imm) (bits .or .u32 (bits .or .u32 o (a * 4096 % 4294967296)) (b * 33554432 % 4294967296)) 4 = CM.word 1 o a b rd rs1 rs2 imm := by
  obtain ⟨o0, o1, a0, a1, b0, b1, z1, z2⟩ := CM.ft_bd hf
  obtain ⟨g1, g2, g3, g4, g5, g6, g7, g8⟩ := g
  simp [CM.uRd, CM.uRs1, CM.uRs2, CM.uImm, CM.fits] at g4 g5 g6 g7 g8 z1 z2
  rw [chain1, w0 o a b ⟨o0, o1⟩ ⟨a0, a1⟩ ⟨b0, b1⟩]
  simp only [CW.part, pv_0_12_20, pv_0_5_15, pv_0_5_7]
  rw [or_add 7 5 128 32 rfl rfl (by omega) (by omega) (by omega) (by omega) (by omega)]
  rw [or_add 15 5 32768 32 rfl rfl (by omega) (by omega) (by omega) (by omega) (by omega)]
  rw [or_add 20 12 1048576 4096 rfl rfl (by omega) (by omega) (by omega) (by omega) (by omega)]
  simp [CM.word]
  omega
theorem word2 (o a b rd rs1 rs2 imm : Int) (hf : CM.ft 2 o a b = true) (g : CM.Good 2 rd rs1 rs2 imm) : accN (CM.uv 2) (CW.part rd rs1 rs2 imm) (bits .or .u32 (bits .or .u32 o (a * 4096 % 4294967296)) (b * 33554432 % 4294967296)) 4 = CM.word 2 o a b rd rs1 rs2 imm := by
  obtain ⟨o0, o1, a0, a1, b0, b1, z1, z2⟩ := CM.ft_bd hf
  obtain ⟨g1, g2, g3, g4, g5, g6, g7, g8⟩ := g
  simp [CM.uRd, CM.uRs1, CM.uRs2, CM.uImm, CM.fits] at g4 g5 g6 g7 g8 z1 z2
  rw [chain2, w0 o a b ⟨o0, o1⟩ ⟨a0, a1⟩ ⟨b0, b1⟩]
  simp only [CW.part, pv_0_5_15, pv_0_5_20, pv_0_5_7]
  rw [or_add 7 5 128 32 rfl rfl (by omega) (by omega) (by omega) (by omega) (by omega)]
  rw [or_add 15 5 32768 32 rfl rfl (by omega) (by omega) (by omega) (by omega) (by omega)]
  rw [or_add 20 5 1048576 32 rfl rfl (by omega) (by omega) (by omega) (by omega) (by omega)]
  simp [CM.word]
  omega
theorem word3 (o a b rd rs1 rs2 imm : Int) (hf : CM.ft 3 o a b = true) (g : CM.Good 3 rd rs1 rs2 imm) : accN (CM.uv 3) (CW.part rd rs1 rs2 imm) (bits .or .u32 (bits .or .u32 o (a * 4096 % 4294967296)) (b * 33554432 % 4294967296)) 4 = CM.word 3 o a b rd rs1 rs2 imm := by
  obtain ⟨o0, o1, a0, a1, b0, b1, z1, z2⟩ := CM.ft_bd hf
  obtain ⟨g1, g2, g3, g4, g5, g6, g7, g8⟩ := g
  simp [CM.uRd, CM.uRs1, CM.uRs2, CM.uImm, CM.fits] at g4 g5 g6 g7 g8 z1 z2
  rw [chain3, w0 o a b ⟨o0, o1⟩ ⟨a0, a1⟩ ⟨b0, b1⟩]
  simp only [CW.part, pv_0_5_15, pv_0_5_20, pv_0_5_7, pv_5_7_25]
  rw [or_add 15 5 32768 32 rfl rfl (by omega) (by omega) (by omega) (by omega) (by omega)]
  rw [or_add 20 5 1048576 32 rfl rfl (by omega) (by omega) (by omega) (by omega) (by omega)]
  rw [or_add 7 5 128 32 rfl rfl (by omega) (by omega) (by omega) (by omega) (by omega)]
  rw [or_add 25 7 33554432 128 rfl rfl (by omega) (by omega) (by omega) (by omega) (by omega)]
  simp [CM.word]
  omega
theorem word4 (o a b rd rs1 rs2 imm : Int) (hf : CM.ft 4 o a b = true) (g : CM.Good 4 rd rs1 rs2 imm) : accN (CM.uv 4) (CW.part rd rs1 rs2 imm) (bits .or .u32 (bits .or .u32 o (a * 4096 % 4294967296)) (b * 33554432 % 4294967296)) 4 = CM.word 4 o a b rd rs1 rs2 imm := by
  obtain ⟨o0, o1, a0, a1, b0, b1, z1, z2⟩ := CM.ft_bd hf
  obtain ⟨g1, g2, g3, g4, g5, g6, g7, g8⟩ := g
  simp [CM.uRd, CM.uRs1, CM.uRs2, CM.uImm, CM.fits] at g4 g5 g6 g7 g8 z1 z2
  rw [chain4, w0 o a b ⟨o0, o1⟩ ⟨a0, a1⟩ ⟨b0, b1⟩]
  rw [show CM.word 4 o a b rd rs1 rs2 imm = o + 128 * (imm / 2048 % 2) + 256 * (imm / 2 % 16) + 4096 * a + 32768 * rs1 + 1048576 * rs2 + 33554432 * (imm / 32 % 64) + 2147483648 * (imm / 4096 % 2) by simp [CM.word]]
  simp only [CW.part, pv_0_5_15, pv_0_5_20, pv_11_1_7, pv_12_1_31, pv_1_4_8, pv_5_6_25]
  have y0 : 0 ≤ imm / 2048 % 2 ∧ imm / 2048 % 2 < 2 := by omega
  have y1 : 0 ≤ imm / 2 % 16 ∧ imm / 2 % 16 < 16 := by omega
  have y2 : 0 ≤ imm / 32 % 64 ∧ imm / 32 % 64 < 64 := by omega
  have y3 : 0 ≤ imm / 4096 % 2 ∧ imm / 4096 % 2 < 2 := by omega
  generalize imm / 2048 % 2 = v0 at *
  generalize imm / 2 % 16 = v1 at *
  generalize imm / 32 % 64 = v2 at *
  generalize imm / 4096 % 2 = v3 at *
  clear g7 g8
  rw [or_add 15 5 32768 32 rfl rfl (by omega) (by omega) (by omega) (by omega) (by omega)]
  rw [or_add 20 5 1048576 32 rfl rfl (by omega) (by omega) (by omega) (by omega) (by omega)]
  rw [or_add 7 1 128 2 rfl rfl (by omega) (by omega) (by omega) (by omega) (by omega)]
  rw [or_add 8 4 256 16 rfl rfl (by omega) (by omega) (by omega) (by omega) (by omega)]
  rw [or_add 25 6 33554432 64 rfl rfl (by omega) (by omega) (by omega) (by omega) (by omega)]
  rw [or_add 31 1 2147483648 2 rfl rfl (by omega) (by omega) (by omega) (by omega) (by omega)]
  omega
theorem word5 (o a b rd rs1 rs2 imm : Int) (hf : CM.ft 5 o a b = true) (g : CM.Good 5 rd rs1 rs2 imm) : accN (CM.uv 5) (CW.part rd rs1 rs2 imm) (bits .or .u32 (bits .or .u32 o (a * 4096 % 4294967296)) (b * 33554432 % 4294967296)) 4 = CM.word 5 o a b rd rs1 rs2 imm := by
  obtain ⟨o0, o1, a0, a1, b0, b1, z1, z2⟩ := CM.ft_bd hf
  obtain ⟨g1, g2, g3, g4, g5, g6, g7, g8⟩ := g
  simp [CM.uRd, CM.uRs1, CM.uRs2, CM.uImm, CM.fits] at g4 g5 g6 g7 g8 z1 z2
  rw [chain5, w0 o a b ⟨o0, o1⟩ ⟨a0, a1⟩ ⟨b0, b1⟩]
  simp only [CW.part, pv_0_20_12, pv_0_5_7]
  rw [or_add 7 5 128 32 rfl rfl (by omega) (by omega) (by omega) (by omega) (by omega)]
  rw [or_add 12 20 4096 1048576 rfl rfl (by omega) (by omega) (by omega) (by omega) (by omega)]
  simp [CM.word]
  omega
theorem word6 (o a b rd rs1 rs2 imm : Int) (hf : CM.ft 6 o a b = true) (g : CM.Good 6 rd rs1 rs2 imm) : accN (CM.uv 6) (CW.part rd rs1 rs2 imm) (bits .or .u32 (bits .or .u32 o (a * 4096 % 4294967296)) (b * 33554432 % 4294967296)) 4 = CM.word 6 o a b rd rs1 rs2 imm := by
  obtain ⟨o0, o1, a0, a1, b0, b1, z1, z2⟩ := CM.ft_bd hf
  obtain ⟨g1, g2, g3, g4, g5, g6, g7, g8⟩ := g
  simp [CM.uRd, CM.uRs1, CM.uRs2, CM.uImm, CM.fits] at g4 g5 g6 g7 g8 z1 z2
  rw [chain6, w0 o a b ⟨o0, o1⟩ ⟨a0, a1⟩ ⟨b0, b1⟩]
  rw [show CM.word 6 o a b rd rs1 rs2 imm = o + 128 * rd + 4096 * (imm / 4096 % 256) + 1048576 * (imm / 2048 % 2) + 2097152 * (imm / 2 % 1024) + 2147483648 * (imm / 1048576 % 2) by simp [CM.word]]
  simp only [CW.part, pv_0_5_7, pv_11_1_20, pv_12_8_12, pv_1_10_21, pv_20_1_31]
  have y0 : 0 ≤ imm / 4096 % 256 ∧ imm / 4096 % 256 < 256 := by omega
  have y1 : 0 ≤ imm / 2048 % 2 ∧ imm / 2048 % 2 < 2 := by omega
  have y2 : 0 ≤ imm / 2 % 1024 ∧ imm / 2 % 1024 < 1024 := by omega
  have y3 : 0 ≤ imm / 1048576 % 2 ∧ imm / 1048576 % 2 < 2 := by omega
  generalize imm / 4096 % 256 = v0 at *
  generalize imm / 2048 % 2 = v1 at *
  generalize imm / 2 % 1024 = v2 at *
  generalize imm / 1048576 % 2 = v3 at *
  clear g7 g8
  rw [or_add 7 5 128 32 rfl rfl (by omega) (by omega) (by omega) (by omega) (by omega)]
  rw [or_add 12 8 4096 256 rfl rfl (by omega) (by omega) (by omega) (by omega) (by omega)]
  rw [or_add 20 1 1048576 2 rfl rfl (by omega) (by omega) (by omega) (by omega) (by omega)]
  rw [or_add 21 10 2097152 1024 rfl rfl (by omega) (by omega) (by omega) (by omega) (by omega)]
  rw [or_add 31 1 2147483648 2 rfl rfl (by omega) (by omega) (by omega) (by omega) (by omega)]
  omega
theorem word7 (o a b rd rs1 rs2 imm : Int) (hf : CM.ft 7 o a b = true) (g : CM.Good 7 rd rs1 rs2 imm) : accN (CM.uv 7) (CW.part rd rs1 rs2 imm) (bits .or .u32 (bits .or .u32 o (a * 4096 % 4294967296)) (b * 33554432 % 4294967296)) 4 = CM.word 7 o a b rd rs1 rs2 imm := by
  obtain ⟨o0, o1, a0, a1, b0, b1, z1, z2⟩ := CM.ft_bd hf
  obtain ⟨g1, g2, g3, g4, g5, g6, g7, g8⟩ := g
  simp [CM.uRd, CM.uRs1, CM.uRs2, CM.uImm, CM.fits] at g4 g5 g6 g7 g8 z1 z2
  rw [chain7, w0 o a b ⟨o0, o1⟩ ⟨a0, a1⟩ ⟨b0, b1⟩]
  simp [CM.word]
  omega
theorem word8 (o a b rd rs1 rs2 imm : Int) (hf : CM.ft 8 o a b = true) (g : CM.Good 8 rd rs1 rs2 imm) : accN (CM.uv 8) (CW.part rd rs1 rs2 imm) (bits .or .u32 (bits .or .u32 o (a * 4096 % 4294967296)) (b * 33554432 % 4294967296)) 4 = CM.word 8 o a b rd rs1 rs2 imm := by
  obtain ⟨o0, o1, a0, a1, b0, b1, z1, z2⟩ := CM.ft_bd hf
  obtain ⟨g1, g2, g3, g4, g5, g6, g7, g8⟩ := g
  simp [CM.uRd, CM.uRs1, CM.uRs2, CM.uImm, CM.fits] at g4 g5 g6 g7 g8 z1 z2
  rw [chain8, w0 o a b ⟨o0, o1⟩ ⟨a0, a1⟩ ⟨b0, b1⟩]
  simp only [CW.part, pv_0_5_15, pv_0_5_20, pv_0_5_7]
  rw [or_add 7 5 128 32 rfl rfl (by omega) (by omega) (by omega) (by omega) (by omega)]
  rw [or_add 15 5 32768 32 rfl rfl (by omega) (by omega) (by omega) (by omega) (by omega)]
  rw [or_add 20 5 1048576 32 rfl rfl (by omega) (by omega) (by omega) (by omega) (by omega)]
  simp [CM.word]
  omega
theorem word9 (o a b rd rs1 rs2 imm : Int) (hf : CM.ft 9 o a b = true) (g : CM.Good 9 rd rs1 rs2 imm) : accN (CM.uv 9) (CW.part rd rs1 rs2 imm) (bits .or .u32 (bits .or .u32 o (a * 4096 % 4294967296)) (b * 33554432 % 4294967296)) 4 = CM.word 9 o a b rd rs1 rs2 imm := by
  obtain ⟨o0, o1, a0, a1, b0, b1, z1, z2⟩ := CM.ft_bd hf
  obtain ⟨g1, g2, g3, g4, g5, g6, g7, g8⟩ := g
  simp [CM.uRd, CM.uRs1, CM.uRs2, CM.uImm, CM.fits] at g4 g5 g6 g7 g8 z1 z2
  rw [chain9, w0 o a b ⟨o0, o1⟩ ⟨a0, a1⟩ ⟨b0, b1⟩]
  simp only [CW.part, pv_0_5_15, pv_0_5_20, pv_0_5_7]
  rw [or_add 7 5 128 32 rfl rfl (by omega) (by omega) (by omega) (by omega) (by omega)]
  rw [or_add 15 5 32768 32 rfl rfl (by omega) (by omega) (by omega) (by omega) (by omega)]
  rw [or_add 20 5 1048576 32 rfl rfl (by omega) (by omega) (by omega) (by omega) (by omega)]
  simp [CM.word]
  omega
theorem word10 (o a b rd rs1 rs2 imm : Int) (hf : CM.ft 10 o a b = true) (g : CM.Good 10 rd rs1 rs2 imm) : accN (CM.uv 10) (CW.part rd rs1 rs2 imm) (bits .or .u32 (bits .or .u32 o (a * 4096 % 4294967296)) (b * 33554432 % 4294967296)) 4 = CM.word 10 o a b rd rs1 rs2 imm := by
  obtain ⟨o0, o1, a0, a1, b0, b1, z1, z2⟩ := CM.ft_bd hf
  obtain ⟨g1, g2, g3, g4, g5, g6, g7, g8⟩ := g
  simp [CM.uRd, CM.uRs1, CM.uRs2, CM.uImm, CM.fits] at g4 g5 g6 g7 g8 z1 z2
  rw [chain10, w0 o a b ⟨o0, o1⟩ ⟨a0, a1⟩ ⟨b0, b1⟩]
  simp only [CW.part, pv_0_5_15, pv_0_5_7]
  rw [or_add 7 5 128 32 rfl rfl (by omega) (by omega) (by omega) (by omega) (by omega)]
  rw [or_add 15 5 32768 32 rfl rfl (by omega) (by omega) (by omega) (by omega) (by omega)]
  simp [CM.word]
  omega
theorem word_all {k o a b rd rs1 rs2 imm : Int} (hf : CM.ft k o a b = true) (g : CM.Good k rd rs1 rs2 imm) : accN (CM.uv k) (CW.part rd rs1 rs2 imm) (bits .or .u32 (bits .or .u32 o (a * 4096 % 4294967296)) (b * 33554432 % 4294967296)) 4 = CM.word k o a b rd rs1 rs2 imm := by
  rcases CM.kinds hf with h | h | h | h | h | h | h | h | h | h | h <;> subst h
  · exact word0 o a b rd rs1 rs2 imm hf g
  · exact word1 o a b rd rs1 rs2 imm hf g
  · exact word2 o a b rd rs1 rs2 imm hf g
  · exact word3 o a b rd rs1 rs2 imm hf g
  · exact word4 o a b rd rs1 rs2 imm hf g
  · exact word5 o a b rd rs1 rs2 imm hf g
  · exact word6 o a b rd rs1 rs2 imm hf g
  · exact word7 o a b rd rs1 rs2 imm hf g
  · exact word8 o a b rd rs1 rs2 imm hf g
  · exact word9 o a b rd rs1 rs2 imm hf g
  · exact word10 o a b rd rs1 rs2 imm hf g
/-! ### the parts of a word -/
def ins4 (x f1 b1 t1 f2 b2 t2 f3 b3 t3 f4 b4 t4 : Int) : Int := bits .or .i64 (bits .or .i64 (bits .or .i64 (bits .or .i64 0 (pc x f1 b1 t1)) (pc x f2 b2 t2)) (pc x f3 b3 t3)) (pc x f4 b4 t4)
theorem insF4 (k x : Int) (n : Nat) : insF (CM.uv k) x n = CG.signed (CM.uv k (15 * n)) (CM.uv k (15 * n + 1)) (CM.uv k (15 * n + 2)) (ins4 x (CM.uv k (15 * n + 3)) (CM.uv k (15 * n + 4)) (CM.uv k (15 * n + 5)) (CM.uv k (15 * n + 6)) (CM.uv k (15 * n + 7)) (CM.uv k (15 * n + 8)) (CM.uv k (15 * n + 9)) (CM.uv k (15 * n + 10)) (CM.uv k (15 * n + 11)) (CM.uv k (15 * n + 12)) (CM.uv k (15 * n + 13)) (CM.uv k (15 * n + 14))) := rfl
theorem ins4_0 (x : Int) (hx : 0 ≤ x ∧ x < 4294967296) : ins4 x 0 5 7 0 0 0 0 0 0 0 0 0 = x / 128 % 32 * 1 := by
  unfold ins4
  simp only [pc_0_5_7 x hx, pc_zero x hx]
  rw [or_add64 0 5 1 32 rfl rfl (by omega) (by omega) (by omega) (by omega) (by omega)]
  rw [or_zero64 (0 + x / 128 % 32 * 1) (by omega)]
  rw [or_zero64 (0 + x / 128 % 32 * 1) (by omega)]
  rw [or_zero64 (0 + x / 128 % 32 * 1) (by omega)]
  omega
theorem ins4_1 (x : Int) (hx : 0 ≤ x ∧ x < 4294967296) : ins4 x 0 5 15 0 0 0 0 0 0 0 0 0 = x / 32768 % 32 * 1 := by
  unfold ins4
  simp only [pc_0_5_15 x hx, pc_zero x hx]
  rw [or_add64 0 5 1 32 rfl rfl (by omega) (by omega) (by omega) (by omega) (by omega)]
  rw [or_zero64 (0 + x / 32768 % 32 * 1) (by omega)]
  rw [or_zero64 (0 + x / 32768 % 32 * 1) (by omega)]
  rw [or_zero64 (0 + x / 32768 % 32 * 1) (by omega)]
  omega
theorem ins4_2 (x : Int) (hx : 0 ≤ x ∧ x < 4294967296) : ins4 x 0 5 20 0 0 0 0 0 0 0 0 0 = x / 1048576 % 32 * 1 := by
  unfold ins4
  simp only [pc_0_5_20 x hx, pc_zero x hx]
  rw [or_add64 0 5 1 32 rfl rfl (by omega) (by omega) (by omega) (by omega) (by omega)]
  rw [or_zero64 (0 + x / 1048576 % 32 * 1) (by omega)]
  rw [or_zero64 (0 + x / 1048576 % 32 * 1) (by omega)]
  rw [or_zero64 (0 + x / 1048576 % 32 * 1) (by omega)]
  omega
theorem ins4_3 (x : Int) (hx : 0 ≤ x ∧ x < 4294967296) : ins4 x 0 0 0 0 0 0 0 0 0 0 0 0 = 0 := by
  unfold ins4
  simp only [pc_zero x hx]
  rw [or_zero64 (0) (by omega)]
  rw [or_zero64 (0) (by omega)]
  rw [or_zero64 (0) (by omega)]
  rw [or_zero64 (0) (by omega)]
theorem ins4_4 (x : Int) (hx : 0 ≤ x ∧ x < 4294967296) : ins4 x 0 12 20 0 0 0 0 0 0 0 0 0 = x / 1048576 % 4096 * 1 := by
  unfold ins4
  simp only [pc_0_12_20 x hx, pc_zero x hx]
  rw [or_add64 0 12 1 4096 rfl rfl (by omega) (by omega) (by omega) (by omega) (by omega)]
  rw [or_zero64 (0 + x / 1048576 % 4096 * 1) (by omega)]
  rw [or_zero64 (0 + x / 1048576 % 4096 * 1) (by omega)]
  rw [or_zero64 (0 + x / 1048576 % 4096 * 1) (by omega)]
  omega
theorem ins4_5 (x : Int) (hx : 0 ≤ x ∧ x < 4294967296) : ins4 x 0 5 7 5 7 25 0 0 0 0 0 0 = x / 128 % 32 * 1 + x / 33554432 % 128 * 32 := by
  unfold ins4
  simp only [pc_0_5_7 x hx, pc_5_7_25 x hx, pc_zero x hx]
  rw [or_add64 0 5 1 32 rfl rfl (by omega) (by omega) (by omega) (by omega) (by omega)]
  rw [or_add64 5 7 32 128 rfl rfl (by omega) (by omega) (by omega) (by omega) (by omega)]
  rw [or_zero64 (0 + x / 128 % 32 * 1 + x / 33554432 % 128 * 32) (by omega)]
  rw [or_zero64 (0 + x / 128 % 32 * 1 + x / 33554432 % 128 * 32) (by omega)]
  omega
theorem ins4_6 (x : Int) (hx : 0 ≤ x ∧ x < 4294967296) : ins4 x 11 1 7 1 4 8 5 6 25 12 1 31 = x / 128 % 2 * 2048 + x / 256 % 16 * 2 + x / 33554432 % 64 * 32 + x / 2147483648 % 2 * 4096 := by
  unfold ins4
  simp only [pc_11_1_7 x hx, pc_12_1_31 x hx, pc_1_4_8 x hx, pc_5_6_25 x hx]
  have y0 : 0 ≤ x / 128 % 2 ∧ x / 128 % 2 < 2 := by omega
  have y1 : 0 ≤ x / 256 % 16 ∧ x / 256 % 16 < 16 := by omega
  have y2 : 0 ≤ x / 33554432 % 64 ∧ x / 33554432 % 64 < 64 := by omega
  have y3 : 0 ≤ x / 2147483648 % 2 ∧ x / 2147483648 % 2 < 2 := by omega
  generalize x / 128 % 2 = v0 at *
  generalize x / 256 % 16 = v1 at *
  generalize x / 33554432 % 64 = v2 at *
  generalize x / 2147483648 % 2 = v3 at *
  rw [or_add64 11 1 2048 2 rfl rfl (by omega) (by omega) (by omega) (by omega) (by omega)]
  rw [or_add64 1 4 2 16 rfl rfl (by omega) (by omega) (by omega) (by omega) (by omega)]
  rw [or_add64 5 6 32 64 rfl rfl (by omega) (by omega) (by omega) (by omega) (by omega)]
  rw [or_add64 12 1 4096 2 rfl rfl (by omega) (by omega) (by omega) (by omega) (by omega)]
  omega
theorem ins4_7 (x : Int) (hx : 0 ≤ x ∧ x < 4294967296) : ins4 x 0 20 12 0 0 0 0 0 0 0 0 0 = x / 4096 % 1048576 * 1 := by
  unfold ins4
  simp only [pc_0_20_12 x hx, pc_zero x hx]
  rw [or_add64 0 20 1 1048576 rfl rfl (by omega) (by omega) (by omega) (by omega) (by omega)]
  rw [or_zero64 (0 + x / 4096 % 1048576 * 1) (by omega)]
  rw [or_zero64 (0 + x / 4096 % 1048576 * 1) (by omega)]
  rw [or_zero64 (0 + x / 4096 % 1048576 * 1) (by omega)]
  omega
theorem ins4_8 (x : Int) (hx : 0 ≤ x ∧ x < 4294967296) : ins4 x 12 8 12 11 1 20 1 10 21 20 1 31 = x / 4096 % 256 * 4096 + x / 1048576 % 2 * 2048 + x / 2097152 % 1024 * 2 + x / 2147483648 % 2 * 1048576 := by
  unfold ins4
  simp only [pc_11_1_20 x hx, pc_12_8_12 x hx, pc_1_10_21 x hx, pc_20_1_31 x hx]
  have y0 : 0 ≤ x / 4096 % 256 ∧ x / 4096 % 256 < 256 := by omega
  have y1 : 0 ≤ x / 1048576 % 2 ∧ x / 1048576 % 2 < 2 := by omega
  have y2 : 0 ≤ x / 2097152 % 1024 ∧ x / 2097152 % 1024 < 1024 := by omega
  have y3 : 0 ≤ x / 2147483648 % 2 ∧ x / 2147483648 % 2 < 2 := by omega
  generalize x / 4096 % 256 = v0 at *
  generalize x / 1048576 % 2 = v1 at *
  generalize x / 2097152 % 1024 = v2 at *
  generalize x / 2147483648 % 2 = v3 at *
  rw [or_add64 12 8 4096 256 rfl rfl (by omega) (by omega) (by omega) (by omega) (by omega)]
  rw [or_add64 11 1 2048 2 rfl rfl (by omega) (by omega) (by omega) (by omega) (by omega)]
  rw [or_add64 1 10 2 1024 rfl rfl (by omega) (by omega) (by omega) (by omega) (by omega)]
  rw [or_add64 20 1 1048576 2 rfl rfl (by omega) (by omega) (by omega) (by omega) (by omega)]
  omega
theorem ins4_9 (x : Int) (hx : 0 ≤ x ∧ x < 4294967296) : ins4 x 0 5 15 0 5 20 0 0 0 0 0 0 = (((x / 32768 % 32).toNat ||| (x / 1048576 % 32).toNat : Nat) : Int) := by
  unfold ins4
  simp only [pc_0_5_15 x hx, pc_0_5_20 x hx, pc_zero x hx]
  have h1 : x / 32768 % 32 * 1 = (((x / 32768 % 32).toNat : Nat) : Int) := by omega
  have h2 : x / 1048576 % 32 * 1 = (((x / 1048576 % 32).toNat : Nat) : Int) := by omega
  have h3 := Nat.or_lt_two_pow (n := 5) (show (x / 32768 % 32).toNat < 2 ^ 5 by omega) (show (x / 1048576 % 32).toNat < 2 ^ 5 by omega)
  rw [h1, h2]
  generalize (x / 32768 % 32).toNat = P at *
  generalize (x / 1048576 % 32).toNat = Q at *
  clear h1 h2
  have h0 : bits .or .i64 0 (P : Int) = P := by
    have := or64 0 P (by omega) (by
      have := Nat.left_le_or (n := P) (m := Q)
      omega)
    simpa using this
  have hP := Nat.left_le_or (n := P) (m := Q)
  have hQ := Nat.right_le_or (n := P) (m := Q)
  rw [h0, or64 P Q (by omega) (by omega), or_zero64 ((P ||| Q : Nat) : Int) (by omega), or_zero64 ((P ||| Q : Nat) : Int) (by omega)]
theorem ins_0_0 (x : Int) (hx : 0 ≤ x ∧ x < 4294967296) : insF (CM.uv 0) x 0 = CM.rdOf 0 x := by
  have h : insF (CM.uv 0) x 0 = CG.signed (0) 31 1 (ins4 x 0 5 7 0 0 0 0 0 0 0 0 0) := insF4 0 x 0
  rw [h, ins4_0 x hx]
  simp [CG.signed, CM.rdOf, CM.rs1Code, CM.rs1Of, CM.rs2Of, CM.immOf, CM.uRd, CM.uRs1, CM.uRs2]
  try omega
theorem ins_0_1 (x : Int) (hx : 0 ≤ x ∧ x < 4294967296) : insF (CM.uv 0) x 1 = CM.rs1Code 0 x := by
  have h : insF (CM.uv 0) x 1 = CG.signed (0) 31 1 (ins4 x 0 5 15 0 0 0 0 0 0 0 0 0) := insF4 0 x 1
  rw [h, ins4_1 x hx]
  simp [CG.signed, CM.rdOf, CM.rs1Code, CM.rs1Of, CM.rs2Of, CM.immOf, CM.uRd, CM.uRs1, CM.uRs2]
  try omega
theorem ins_0_2 (x : Int) (hx : 0 ≤ x ∧ x < 4294967296) : insF (CM.uv 0) x 2 = CM.rs2Of 0 x := by
  have h : insF (CM.uv 0) x 2 = CG.signed (0) 31 1 (ins4 x 0 5 20 0 0 0 0 0 0 0 0 0) := insF4 0 x 2
  rw [h, ins4_2 x hx]
  simp [CG.signed, CM.rdOf, CM.rs1Code, CM.rs1Of, CM.rs2Of, CM.immOf, CM.uRd, CM.uRs1, CM.uRs2]
  try omega
theorem ins_0_3 (x : Int) (hx : 0 ≤ x ∧ x < 4294967296) : insF (CM.uv 0) x 3 = CM.immOf 0 x := by
  have h : insF (CM.uv 0) x 3 = CG.signed (0) 0 0 (ins4 x 0 0 0 0 0 0 0 0 0 0 0 0) := insF4 0 x 3
  rw [h, ins4_3 x hx]
  simp [CG.signed, CM.rdOf, CM.rs1Code, CM.rs1Of, CM.rs2Of, CM.immOf, CM.uRd, CM.uRs1, CM.uRs2]
  try omega
theorem ins_1_0 (x : Int) (hx : 0 ≤ x ∧ x < 4294967296) : insF (CM.uv 1) x 0 = CM.rdOf 1 x := by
  have h : insF (CM.uv 1) x 0 = CG.signed (0) 31 1 (ins4 x 0 5 7 0 0 0 0 0 0 0 0 0) := insF4 1 x 0
  rw [h, ins4_0 x hx]
  simp [CG.signed, CM.rdOf, CM.rs1Code, CM.rs1Of, CM.rs2Of, CM.immOf, CM.uRd, CM.uRs1, CM.uRs2]
  try omega
theorem ins_1_1 (x : Int) (hx : 0 ≤ x ∧ x < 4294967296) : insF (CM.uv 1) x 1 = CM.rs1Code 1 x := by
  have h : insF (CM.uv 1) x 1 = CG.signed (0) 31 1 (ins4 x 0 5 15 0 0 0 0 0 0 0 0 0) := insF4 1 x 1
  rw [h, ins4_1 x hx]
  simp [CG.signed, CM.rdOf, CM.rs1Code, CM.rs1Of, CM.rs2Of, CM.immOf, CM.uRd, CM.uRs1, CM.uRs2]
  try omega
theorem ins_1_2 (x : Int) (hx : 0 ≤ x ∧ x < 4294967296) : insF (CM.uv 1) x 2 = CM.rs2Of 1 x := by
  have h : insF (CM.uv 1) x 2 = CG.signed (0) 0 0 (ins4 x 0 0 0 0 0 0 0 0 0 0 0 0) := insF4 1 x 2
  rw [h, ins4_3 x hx]
  simp [CG.signed, CM.rdOf, CM.rs1Code, CM.rs1Of, CM.rs2Of, CM.immOf, CM.uRd, CM.uRs1, CM.uRs2]
  try omega
theorem ins_1_3 (x : Int) (hx : 0 ≤ x ∧ x < 4294967296) : insF (CM.uv 1) x 3 = CM.immOf 1 x := by
  have h : insF (CM.uv 1) x 3 = CG.signed (-2048) 2047 1 (ins4 x 0 12 20 0 0 0 0 0 0 0 0 0) := insF4 1 x 3
  rw [h, ins4_4 x hx]
  simp [CG.signed, CM.rdOf, CM.rs1Code, CM.rs1Of, CM.rs2Of, CM.immOf, CM.uRd, CM.uRs1, CM.uRs2]
  try omega
theorem ins_2_0 (x : Int) (hx : 0 ≤ x ∧ x < 4294967296) : insF (CM.uv 2) x 0 = CM.rdOf 2 x := by
  have h : insF (CM.uv 2) x 0 = CG.signed (0) 31 1 (ins4 x 0 5 7 0 0 0 0 0 0 0 0 0) := insF4 2 x 0
  rw [h, ins4_0 x hx]
  simp [CG.signed, CM.rdOf, CM.rs1Code, CM.rs1Of, CM.rs2Of, CM.immOf, CM.uRd, CM.uRs1, CM.uRs2]
  try omega
theorem ins_2_1 (x : Int) (hx : 0 ≤ x ∧ x < 4294967296) : insF (CM.uv 2) x 1 = CM.rs1Code 2 x := by
  have h : insF (CM.uv 2) x 1 = CG.signed (0) 31 1 (ins4 x 0 5 15 0 0 0 0 0 0 0 0 0) := insF4 2 x 1
  rw [h, ins4_1 x hx]
  simp [CG.signed, CM.rdOf, CM.rs1Code, CM.rs1Of, CM.rs2Of, CM.immOf, CM.uRd, CM.uRs1, CM.uRs2]
  try omega
theorem ins_2_2 (x : Int) (hx : 0 ≤ x ∧ x < 4294967296) : insF (CM.uv 2) x 2 = CM.rs2Of 2 x := by
  have h : insF (CM.uv 2) x 2 = CG.signed (0) 0 0 (ins4 x 0 0 0 0 0 0 0 0 0 0 0 0) := insF4 2 x 2
  rw [h, ins4_3 x hx]
  simp [CG.signed, CM.rdOf, CM.rs1Code, CM.rs1Of, CM.rs2Of, CM.immOf, CM.uRd, CM.uRs1, CM.uRs2]
  try omega
theorem ins_2_3 (x : Int) (hx : 0 ≤ x ∧ x < 4294967296) : insF (CM.uv 2) x 3 = CM.immOf 2 x := by
  have h : insF (CM.uv 2) x 3 = CG.signed (0) 31 1 (ins4 x 0 5 20 0 0 0 0 0 0 0 0 0) := insF4 2 x 3
  rw [h, ins4_2 x hx]
  simp [CG.signed, CM.rdOf, CM.rs1Code, CM.rs1Of, CM.rs2Of, CM.immOf, CM.uRd, CM.uRs1, CM.uRs2]
  try omega
theorem ins_3_0 (x : Int) (hx : 0 ≤ x ∧ x < 4294967296) : insF (CM.uv 3) x 0 = CM.rdOf 3 x := by
  have h : insF (CM.uv 3) x 0 = CG.signed (0) 0 0 (ins4 x 0 0 0 0 0 0 0 0 0 0 0 0) := insF4 3 x 0
  rw [h, ins4_3 x hx]
  simp [CG.signed, CM.rdOf, CM.rs1Code, CM.rs1Of, CM.rs2Of, CM.immOf, CM.uRd, CM.uRs1, CM.uRs2]
  try omega
theorem ins_3_1 (x : Int) (hx : 0 ≤ x ∧ x < 4294967296) : insF (CM.uv 3) x 1 = CM.rs1Code 3 x := by
  have h : insF (CM.uv 3) x 1 = CG.signed (0) 31 1 (ins4 x 0 5 15 0 0 0 0 0 0 0 0 0) := insF4 3 x 1
  rw [h, ins4_1 x hx]
  simp [CG.signed, CM.rdOf, CM.rs1Code, CM.rs1Of, CM.rs2Of, CM.immOf, CM.uRd, CM.uRs1, CM.uRs2]
  try omega
theorem ins_3_2 (x : Int) (hx : 0 ≤ x ∧ x < 4294967296) : insF (CM.uv 3) x 2 = CM.rs2Of 3 x := by
  have h : insF (CM.uv 3) x 2 = CG.signed (0) 31 1 (ins4 x 0 5 20 0 0 0 0 0 0 0 0 0) := insF4 3 x 2
  rw [h, ins4_2 x hx]
  simp [CG.signed, CM.rdOf, CM.rs1Code, CM.rs1Of, CM.rs2Of, CM.immOf, CM.uRd, CM.uRs1, CM.uRs2]
  try omega
theorem ins_3_3 (x : Int) (hx : 0 ≤ x ∧ x < 4294967296) : insF (CM.uv 3) x 3 = CM.immOf 3 x := by
  have h : insF (CM.uv 3) x 3 = CG.signed (-2048) 2047 1 (ins4 x 0 5 7 5 7 25 0 0 0 0 0 0) := insF4 3 x 3
  rw [h, ins4_5 x hx]
  simp [CG.signed, CM.rdOf, CM.rs1Code, CM.rs1Of, CM.rs2Of, CM.immOf, CM.uRd, CM.uRs1, CM.uRs2]
  try omega
theorem ins_4_0 (x : Int) (hx : 0 ≤ x ∧ x < 4294967296) : insF (CM.uv 4) x 0 = CM.rdOf 4 x := by
  have h : insF (CM.uv 4) x 0 = CG.signed (0) 0 0 (ins4 x 0 0 0 0 0 0 0 0 0 0 0 0) := insF4 4 x 0
  rw [h, ins4_3 x hx]
  simp [CG.signed, CM.rdOf, CM.rs1Code, CM.rs1Of, CM.rs2Of, CM.immOf, CM.uRd, CM.uRs1, CM.uRs2]
  try omega
theorem ins_4_1 (x : Int) (hx : 0 ≤ x ∧ x < 4294967296) : insF (CM.uv 4) x 1 = CM.rs1Code 4 x := by
  have h : insF (CM.uv 4) x 1 = CG.signed (0) 31 1 (ins4 x 0 5 15 0 0 0 0 0 0 0 0 0) := insF4 4 x 1
  rw [h, ins4_1 x hx]
  simp [CG.signed, CM.rdOf, CM.rs1Code, CM.rs1Of, CM.rs2Of, CM.immOf, CM.uRd, CM.uRs1, CM.uRs2]
  try omega
theorem ins_4_2 (x : Int) (hx : 0 ≤ x ∧ x < 4294967296) : insF (CM.uv 4) x 2 = CM.rs2Of 4 x := by
  have h : insF (CM.uv 4) x 2 = CG.signed (0) 31 1 (ins4 x 0 5 20 0 0 0 0 0 0 0 0 0) := insF4 4 x 2
  rw [h, ins4_2 x hx]
  simp [CG.signed, CM.rdOf, CM.rs1Code, CM.rs1Of, CM.rs2Of, CM.immOf, CM.uRd, CM.uRs1, CM.uRs2]
  try omega
theorem ins_4_3 (x : Int) (hx : 0 ≤ x ∧ x < 4294967296) : insF (CM.uv 4) x 3 = CM.immOf 4 x := by
  have h : insF (CM.uv 4) x 3 = CG.signed (-4096) 4094 2 (ins4 x 11 1 7 1 4 8 5 6 25 12 1 31) := insF4 4 x 3
  rw [h, ins4_6 x hx]
  simp [CG.signed, CM.rdOf, CM.rs1Code, CM.rs1Of, CM.rs2Of, CM.immOf, CM.uRd, CM.uRs1, CM.uRs2]
  try omega
theorem ins_5_0 (x : Int) (hx : 0 ≤ x ∧ x < 4294967296) : insF (CM.uv 5) x 0 = CM.rdOf 5 x := by
  have h : insF (CM.uv 5) x 0 = CG.signed (0) 31 1 (ins4 x 0 5 7 0 0 0 0 0 0 0 0 0) := insF4 5 x 0
  rw [h, ins4_0 x hx]
  simp [CG.signed, CM.rdOf, CM.rs1Code, CM.rs1Of, CM.rs2Of, CM.immOf, CM.uRd, CM.uRs1, CM.uRs2]
  try omega
theorem ins_5_1 (x : Int) (hx : 0 ≤ x ∧ x < 4294967296) : insF (CM.uv 5) x 1 = CM.rs1Code 5 x := by
  have h : insF (CM.uv 5) x 1 = CG.signed (0) 0 0 (ins4 x 0 0 0 0 0 0 0 0 0 0 0 0) := insF4 5 x 1
  rw [h, ins4_3 x hx]
  simp [CG.signed, CM.rdOf, CM.rs1Code, CM.rs1Of, CM.rs2Of, CM.immOf, CM.uRd, CM.uRs1, CM.uRs2]
  try omega
theorem ins_5_2 (x : Int) (hx : 0 ≤ x ∧ x < 4294967296) : insF (CM.uv 5) x 2 = CM.rs2Of 5 x := by
  have h : insF (CM.uv 5) x 2 = CG.signed (0) 0 0 (ins4 x 0 0 0 0 0 0 0 0 0 0 0 0) := insF4 5 x 2
  rw [h, ins4_3 x hx]
  simp [CG.signed, CM.rdOf, CM.rs1Code, CM.rs1Of, CM.rs2Of, CM.immOf, CM.uRd, CM.uRs1, CM.uRs2]
  try omega
theorem ins_5_3 (x : Int) (hx : 0 ≤ x ∧ x < 4294967296) : insF (CM.uv 5) x 3 = CM.immOf 5 x := by
  have h : insF (CM.uv 5) x 3 = CG.signed (0) 1048575 1 (ins4 x 0 20 12 0 0 0 0 0 0 0 0 0) := insF4 5 x 3
  rw [h, ins4_7 x hx]
  simp [CG.signed, CM.rdOf, CM.rs1Code, CM.rs1Of, CM.rs2Of, CM.immOf, CM.uRd, CM.uRs1, CM.uRs2]
  try omega
theorem ins_6_0 (x : Int) (hx : 0 ≤ x ∧ x < 4294967296) : insF (CM.uv 6) x 0 = CM.rdOf 6 x := by
  have h : insF (CM.uv 6) x 0 = CG.signed (0) 31 1 (ins4 x 0 5 7 0 0 0 0 0 0 0 0 0) := insF4 6 x 0
  rw [h, ins4_0 x hx]
  simp [CG.signed, CM.rdOf, CM.rs1Code, CM.rs1Of, CM.rs2Of, CM.immOf, CM.uRd, CM.uRs1, CM.uRs2]
  try omega
theorem ins_6_1 (x : Int) (hx : 0 ≤ x ∧ x < 4294967296) : insF (CM.uv 6) x 1 = CM.rs1Code 6 x := by
  have h : insF (CM.uv 6) x 1 = CG.signed (0) 0 0 (ins4 x 0 0 0 0 0 0 0 0 0 0 0 0) := insF4 6 x 1
  rw [h, ins4_3 x hx]
  simp [CG.signed, CM.rdOf, CM.rs1Code, CM.rs1Of, CM.rs2Of, CM.immOf, CM.uRd, CM.uRs1, CM.uRs2]
  try omega
theorem ins_6_2 (x : Int) (hx : 0 ≤ x ∧ x < 4294967296) : insF (CM.uv 6) x 2 = CM.rs2Of 6 x := by
  have h : insF (CM.uv 6) x 2 = CG.signed (0) 0 0 (ins4 x 0 0 0 0 0 0 0 0 0 0 0 0) := insF4 6 x 2
  rw [h, ins4_3 x hx]
  simp [CG.signed, CM.rdOf, CM.rs1Code, CM.rs1Of, CM.rs2Of, CM.immOf, CM.uRd, CM.uRs1, CM.uRs2]
  try omega
theorem ins_6_3 (x : Int) (hx : 0 ≤ x ∧ x < 4294967296) : insF (CM.uv 6) x 3 = CM.immOf 6 x := by
  have h : insF (CM.uv 6) x 3 = CG.signed (-1048576) 1048574 2 (ins4 x 12 8 12 11 1 20 1 10 21 20 1 31) := insF4 6 x 3
  rw [h, ins4_8 x hx]
  simp [CG.signed, CM.rdOf, CM.rs1Code, CM.rs1Of, CM.rs2Of, CM.immOf, CM.uRd, CM.uRs1, CM.uRs2]
  try omega
theorem ins_7_0 (x : Int) (hx : 0 ≤ x ∧ x < 4294967296) : insF (CM.uv 7) x 0 = CM.rdOf 7 x := by
  have h : insF (CM.uv 7) x 0 = CG.signed (0) 0 0 (ins4 x 0 0 0 0 0 0 0 0 0 0 0 0) := insF4 7 x 0
  rw [h, ins4_3 x hx]
  simp [CG.signed, CM.rdOf, CM.rs1Code, CM.rs1Of, CM.rs2Of, CM.immOf, CM.uRd, CM.uRs1, CM.uRs2]
  try omega
theorem ins_7_1 (x : Int) (hx : 0 ≤ x ∧ x < 4294967296) : insF (CM.uv 7) x 1 = CM.rs1Code 7 x := by
  have h : insF (CM.uv 7) x 1 = CG.signed (0) 0 0 (ins4 x 0 0 0 0 0 0 0 0 0 0 0 0) := insF4 7 x 1
  rw [h, ins4_3 x hx]
  simp [CG.signed, CM.rdOf, CM.rs1Code, CM.rs1Of, CM.rs2Of, CM.immOf, CM.uRd, CM.uRs1, CM.uRs2]
  try omega
theorem ins_7_2 (x : Int) (hx : 0 ≤ x ∧ x < 4294967296) : insF (CM.uv 7) x 2 = CM.rs2Of 7 x := by
  have h : insF (CM.uv 7) x 2 = CG.signed (0) 0 0 (ins4 x 0 0 0 0 0 0 0 0 0 0 0 0) := insF4 7 x 2
  rw [h, ins4_3 x hx]
  simp [CG.signed, CM.rdOf, CM.rs1Code, CM.rs1Of, CM.rs2Of, CM.immOf, CM.uRd, CM.uRs1, CM.uRs2]
  try omega
theorem ins_7_3 (x : Int) (hx : 0 ≤ x ∧ x < 4294967296) : insF (CM.uv 7) x 3 = CM.immOf 7 x := by
  have h : insF (CM.uv 7) x 3 = CG.signed (0) 0 0 (ins4 x 0 0 0 0 0 0 0 0 0 0 0 0) := insF4 7 x 3
  rw [h, ins4_3 x hx]
  simp [CG.signed, CM.rdOf, CM.rs1Code, CM.rs1Of, CM.rs2Of, CM.immOf, CM.uRd, CM.uRs1, CM.uRs2]
  try omega
theorem ins_8_0 (x : Int) (hx : 0 ≤ x ∧ x < 4294967296) : insF (CM.uv 8) x 0 = CM.rdOf 8 x := by
  have h : insF (CM.uv 8) x 0 = CG.signed (0) 31 1 (ins4 x 0 5 7 0 0 0 0 0 0 0 0 0) := insF4 8 x 0
  rw [h, ins4_0 x hx]
  simp [CG.signed, CM.rdOf, CM.rs1Code, CM.rs1Of, CM.rs2Of, CM.immOf, CM.uRd, CM.uRs1, CM.uRs2]
  try omega
theorem ins_8_1 (x : Int) (hx : 0 ≤ x ∧ x < 4294967296) : insF (CM.uv 8) x 1 = CM.rs1Code 8 x := by
  have h : insF (CM.uv 8) x 1 = CG.signed (0) 31 1 (ins4 x 0 5 15 0 0 0 0 0 0 0 0 0) := insF4 8 x 1
  rw [h, ins4_1 x hx]
  simp [CG.signed, CM.rdOf, CM.rs1Code, CM.rs1Of, CM.rs2Of, CM.immOf, CM.uRd, CM.uRs1, CM.uRs2]
  try omega
theorem ins_8_2 (x : Int) (hx : 0 ≤ x ∧ x < 4294967296) : insF (CM.uv 8) x 2 = CM.rs2Of 8 x := by
  have h : insF (CM.uv 8) x 2 = CG.signed (0) 31 1 (ins4 x 0 5 20 0 0 0 0 0 0 0 0 0) := insF4 8 x 2
  rw [h, ins4_2 x hx]
  simp [CG.signed, CM.rdOf, CM.rs1Code, CM.rs1Of, CM.rs2Of, CM.immOf, CM.uRd, CM.uRs1, CM.uRs2]
  try omega
theorem ins_8_3 (x : Int) (hx : 0 ≤ x ∧ x < 4294967296) : insF (CM.uv 8) x 3 = CM.immOf 8 x := by
  have h : insF (CM.uv 8) x 3 = CG.signed (0) 0 0 (ins4 x 0 0 0 0 0 0 0 0 0 0 0 0) := insF4 8 x 3
  rw [h, ins4_3 x hx]
  simp [CG.signed, CM.rdOf, CM.rs1Code, CM.rs1Of, CM.rs2Of, CM.immOf, CM.uRd, CM.uRs1, CM.uRs2]
  try omega
theorem ins_9_0 (x : Int) (hx : 0 ≤ x ∧ x < 4294967296) : insF (CM.uv 9) x 0 = CM.rdOf 9 x := by
  have h : insF (CM.uv 9) x 0 = CG.signed (0) 31 1 (ins4 x 0 5 7 0 0 0 0 0 0 0 0 0) := insF4 9 x 0
  rw [h, ins4_0 x hx]
  simp [CG.signed, CM.rdOf, CM.rs1Code, CM.rs1Of, CM.rs2Of, CM.immOf, CM.uRd, CM.uRs1, CM.uRs2]
  try omega
theorem ins_9_1 (x : Int) (hx : 0 ≤ x ∧ x < 4294967296) : insF (CM.uv 9) x 1 = CM.rs1Code 9 x := by
  have h : insF (CM.uv 9) x 1 = CG.signed (0) 31 1 (ins4 x 0 5 15 0 5 20 0 0 0 0 0 0) := insF4 9 x 1
  rw [h, ins4_9 x hx]
  have h3 := Nat.or_lt_two_pow (n := 5) (show (x / 32768 % 32).toNat < 2 ^ 5 by omega) (show (x / 1048576 % 32).toNat < 2 ^ 5 by omega)
  simp [CG.signed, CM.rs1Code]
  omega
theorem ins_9_2 (x : Int) (hx : 0 ≤ x ∧ x < 4294967296) : insF (CM.uv 9) x 2 = CM.rs2Of 9 x := by
  have h : insF (CM.uv 9) x 2 = CG.signed (0) 0 0 (ins4 x 0 0 0 0 0 0 0 0 0 0 0 0) := insF4 9 x 2
  rw [h, ins4_3 x hx]
  simp [CG.signed, CM.rdOf, CM.rs1Code, CM.rs1Of, CM.rs2Of, CM.immOf, CM.uRd, CM.uRs1, CM.uRs2]
  try omega
theorem ins_9_3 (x : Int) (hx : 0 ≤ x ∧ x < 4294967296) : insF (CM.uv 9) x 3 = CM.immOf 9 x := by
  have h : insF (CM.uv 9) x 3 = CG.signed (0) 0 0 (ins4 x 0 0 0 0 0 0 0 0 0 0 0 0) := insF4 9 x 3
  rw [h, ins4_3 x hx]
  simp [CG.signed, CM.rdOf, CM.rs1Code, CM.rs1Of, CM.rs2Of, CM.immOf, CM.uRd, CM.uRs1, CM.uRs2]
  try omega
theorem ins_10_0 (x : Int) (hx : 0 ≤ x ∧ x < 4294967296) : insF (CM.uv 10) x 0 = CM.rdOf 10 x := by
  have h : insF (CM.uv 10) x 0 = CG.signed (0) 31 1 (ins4 x 0 5 7 0 0 0 0 0 0 0 0 0) := insF4 10 x 0
  rw [h, ins4_0 x hx]
  simp [CG.signed, CM.rdOf, CM.rs1Code, CM.rs1Of, CM.rs2Of, CM.immOf, CM.uRd, CM.uRs1, CM.uRs2]
  try omega
theorem ins_10_1 (x : Int) (hx : 0 ≤ x ∧ x < 4294967296) : insF (CM.uv 10) x 1 = CM.rs1Code 10 x := by
  have h : insF (CM.uv 10) x 1 = CG.signed (0) 31 1 (ins4 x 0 5 15 0 0 0 0 0 0 0 0 0) := insF4 10 x 1
  rw [h, ins4_1 x hx]
  simp [CG.signed, CM.rdOf, CM.rs1Code, CM.rs1Of, CM.rs2Of, CM.immOf, CM.uRd, CM.uRs1, CM.uRs2]
  try omega
theorem ins_10_2 (x : Int) (hx : 0 ≤ x ∧ x < 4294967296) : insF (CM.uv 10) x 2 = CM.rs2Of 10 x := by
  have h : insF (CM.uv 10) x 2 = CG.signed (0) 0 0 (ins4 x 0 0 0 0 0 0 0 0 0 0 0 0) := insF4 10 x 2
  rw [h, ins4_3 x hx]
  simp [CG.signed, CM.rdOf, CM.rs1Code, CM.rs1Of, CM.rs2Of, CM.immOf, CM.uRd, CM.uRs1, CM.uRs2]
  try omega
theorem ins_10_3 (x : Int) (hx : 0 ≤ x ∧ x < 4294967296) : insF (CM.uv 10) x 3 = CM.immOf 10 x := by
  have h : insF (CM.uv 10) x 3 = CG.signed (0) 0 0 (ins4 x 0 0 0 0 0 0 0 0 0 0 0 0) := insF4 10 x 3
  rw [h, ins4_3 x hx]
  simp [CG.signed, CM.rdOf, CM.rs1Code, CM.rs1Of, CM.rs2Of, CM.immOf, CM.uRd, CM.uRs1, CM.uRs2]
  try omega
theorem parts_all {k o a b op x : Int} (hf : CM.ft k o a b = true) (hx : 0 ≤ x ∧ x < 4294967296) : ia op (Vn (CM.uv k) x 4 0) = iv op (CM.rdOf k x) (CM.rs1Code k x) (CM.rs2Of k x) (CM.immOf k x) := by
  have h : ia op (Vn (CM.uv k) x 4 0) = iv op (insF (CM.uv k) x 0) (insF (CM.uv k) x 1) (insF (CM.uv k) x 2) (insF (CM.uv k) x 3) := by simp [ia, iv, Vn]
  rw [h]
  rcases CM.kinds hf with h | h | h | h | h | h | h | h | h | h | h <;> subst h
  · rw [ins_0_0 x hx, ins_0_1 x hx, ins_0_2 x hx, ins_0_3 x hx]
  · rw [ins_1_0 x hx, ins_1_1 x hx, ins_1_2 x hx, ins_1_3 x hx]
  · rw [ins_2_0 x hx, ins_2_1 x hx, ins_2_2 x hx, ins_2_3 x hx]
  · rw [ins_3_0 x hx, ins_3_1 x hx, ins_3_2 x hx, ins_3_3 x hx]
  · rw [ins_4_0 x hx, ins_4_1 x hx, ins_4_2 x hx, ins_4_3 x hx]
  · rw [ins_5_0 x hx, ins_5_1 x hx, ins_5_2 x hx, ins_5_3 x hx]
  · rw [ins_6_0 x hx, ins_6_1 x hx, ins_6_2 x hx, ins_6_3 x hx]
  · rw [ins_7_0 x hx, ins_7_1 x hx, ins_7_2 x hx, ins_7_3 x hx]
  · rw [ins_8_0 x hx, ins_8_1 x hx, ins_8_2 x hx, ins_8_3 x hx]
  · rw [ins_9_0 x hx, ins_9_1 x hx, ins_9_2 x hx, ins_9_3 x hx]
  · rw [ins_10_0 x hx, ins_10_1 x hx, ins_10_2 x hx, ins_10_3 x hx]
/-! ### what is wrong with parts -/
def faultX (b0 b1 b2 b3 o0 o1 o2 o3 : Bool) : Int := if b0 || b1 || b2 || b3 then 2 else if o3 then 1 else if o2 then 1 else if o1 then 1 else if o0 then 1 else 0
theorem faultG_X (u p : Nat → Int) : faultG u p = faultX (bad u p 0) (bad u p 1) (bad u p 2) (bad u p 3) (out u p 0) (out u p 1) (out u p 2) (out u p 3) := rfl
theorem fault_X (k rd rs1 rs2 n : Int) : CM.fault k rd rs1 rs2 n = faultX (!CM.uRd k && rd != 0) (!CM.uRs1 k && rs1 != 0) (!CM.uRs2 k && rs2 != 0) (!CM.uImm k && n != 0) (CM.uRd k && !CM.isReg rd) (CM.uRs1 k && !CM.isReg rs1) (CM.uRs2 k && !CM.isReg rs2) (CM.uImm k && !CM.fits k n) := by
  unfold CM.fault CM.bad2 CM.bad1 faultX
  generalize (!CM.uRd k && rd != 0) = b0
  generalize (!CM.uRs1 k && rs1 != 0) = b1
  generalize (!CM.uRs2 k && rs2 != 0) = b2
  generalize (!CM.uImm k && n != 0) = b3
  generalize (CM.uRd k && !CM.isReg rd) = o0
  generalize (CM.uRs1 k && !CM.isReg rs1) = o1
  generalize (CM.uRs2 k && !CM.isReg rs2) = o2
  generalize (CM.uImm k && !CM.fits k n) = o3
  cases b0 <;> cases b1 <;> cases b2 <;> cases b3 <;> cases o0 <;> cases o1 <;> cases o2 <;> cases o3 <;> rfl
theorem tmod1 (x : Int) : x.tmod 1 = 0 := Int.tmod_one x
theorem tmod2 (x : Int) : (x.tmod 2 == 0) = decide (x % 2 = 0) := by
  rw [Bool.eq_iff_iff]
  simp only [beq_iff_eq, decide_eq_true_eq]
  exact ⟨fun h => Int.emod_eq_zero_of_dvd (Int.dvd_of_tmod_eq_zero h), fun h => Int.tmod_eq_zero_of_dvd (Int.dvd_of_emod_eq_zero h)⟩
theorem holds_reg (x : Int) : CG.holds 0 31 1 x = CM.isReg x := by
  unfold CG.holds CM.isReg
  rw [tmod1]
  simp
theorem holds_imm1 (x : Int) : CG.holds (-2048) 2047 1 x = CM.fits 1 x := by
  unfold CG.holds CM.fits
  rw [tmod1]
  simp
theorem holds_imm2 (x : Int) : CG.holds (0) 31 1 x = CM.fits 2 x := by
  unfold CG.holds CM.fits
  rw [tmod1]
  simp
theorem holds_imm3 (x : Int) : CG.holds (-2048) 2047 1 x = CM.fits 3 x := by
  unfold CG.holds CM.fits
  rw [tmod1]
  simp
theorem holds_imm4 (x : Int) : CG.holds (-4096) 4094 2 x = CM.fits 4 x := by
  unfold CG.holds CM.fits
  rw [tmod2]
  simp
theorem holds_imm5 (x : Int) : CG.holds (0) 1048575 1 x = CM.fits 5 x := by
  unfold CG.holds CM.fits
  rw [tmod1]
  simp
theorem holds_imm6 (x : Int) : CG.holds (-1048576) 1048574 2 x = CM.fits 6 x := by
  unfold CG.holds CM.fits
  rw [tmod2]
  simp
theorem fault0 (rd rs1 rs2 imm : Int) : faultG (CM.uv 0) (CW.part rd rs1 rs2 imm) = CM.fault 0 rd rs1 rs2 imm := by
  rw [faultG_X, fault_X]
  rw [show bad (CM.uv 0) (CW.part rd rs1 rs2 imm) 0 = (!CM.uRd 0 && rd != 0) from rfl]
  rw [show out (CM.uv 0) (CW.part rd rs1 rs2 imm) 0 = (CM.uRd 0 && !CM.isReg rd) by rw [← holds_reg rd]; rfl]
  rw [show bad (CM.uv 0) (CW.part rd rs1 rs2 imm) 1 = (!CM.uRs1 0 && rs1 != 0) from rfl]
  rw [show out (CM.uv 0) (CW.part rd rs1 rs2 imm) 1 = (CM.uRs1 0 && !CM.isReg rs1) by rw [← holds_reg rs1]; rfl]
  rw [show bad (CM.uv 0) (CW.part rd rs1 rs2 imm) 2 = (!CM.uRs2 0 && rs2 != 0) from rfl]
  rw [show out (CM.uv 0) (CW.part rd rs1 rs2 imm) 2 = (CM.uRs2 0 && !CM.isReg rs2) by rw [← holds_reg rs2]; rfl]
  rw [show bad (CM.uv 0) (CW.part rd rs1 rs2 imm) 3 = (!CM.uImm 0 && imm != 0) from rfl]
  rw [show out (CM.uv 0) (CW.part rd rs1 rs2 imm) 3 = (CM.uImm 0 && !CM.fits 0 imm) from rfl]
theorem fault1 (rd rs1 rs2 imm : Int) : faultG (CM.uv 1) (CW.part rd rs1 rs2 imm) = CM.fault 1 rd rs1 rs2 imm := by
  rw [faultG_X, fault_X]
  rw [show bad (CM.uv 1) (CW.part rd rs1 rs2 imm) 0 = (!CM.uRd 1 && rd != 0) from rfl]
  rw [show out (CM.uv 1) (CW.part rd rs1 rs2 imm) 0 = (CM.uRd 1 && !CM.isReg rd) by rw [← holds_reg rd]; rfl]
  rw [show bad (CM.uv 1) (CW.part rd rs1 rs2 imm) 1 = (!CM.uRs1 1 && rs1 != 0) from rfl]
  rw [show out (CM.uv 1) (CW.part rd rs1 rs2 imm) 1 = (CM.uRs1 1 && !CM.isReg rs1) by rw [← holds_reg rs1]; rfl]
  rw [show bad (CM.uv 1) (CW.part rd rs1 rs2 imm) 2 = (!CM.uRs2 1 && rs2 != 0) from rfl]
  rw [show out (CM.uv 1) (CW.part rd rs1 rs2 imm) 2 = (CM.uRs2 1 && !CM.isReg rs2) from rfl]
  rw [show bad (CM.uv 1) (CW.part rd rs1 rs2 imm) 3 = (!CM.uImm 1 && imm != 0) from rfl]
  rw [show out (CM.uv 1) (CW.part rd rs1 rs2 imm) 3 = (CM.uImm 1 && !CM.fits 1 imm) by rw [← holds_imm1 imm]; rfl]
theorem fault2 (rd rs1 rs2 imm : Int) : faultG (CM.uv 2) (CW.part rd rs1 rs2 imm) = CM.fault 2 rd rs1 rs2 imm := by
  rw [faultG_X, fault_X]
  rw [show bad (CM.uv 2) (CW.part rd rs1 rs2 imm) 0 = (!CM.uRd 2 && rd != 0) from rfl]
  rw [show out (CM.uv 2) (CW.part rd rs1 rs2 imm) 0 = (CM.uRd 2 && !CM.isReg rd) by rw [← holds_reg rd]; rfl]
  rw [show bad (CM.uv 2) (CW.part rd rs1 rs2 imm) 1 = (!CM.uRs1 2 && rs1 != 0) from rfl]
  rw [show out (CM.uv 2) (CW.part rd rs1 rs2 imm) 1 = (CM.uRs1 2 && !CM.isReg rs1) by rw [← holds_reg rs1]; rfl]
  rw [show bad (CM.uv 2) (CW.part rd rs1 rs2 imm) 2 = (!CM.uRs2 2 && rs2 != 0) from rfl]
  rw [show out (CM.uv 2) (CW.part rd rs1 rs2 imm) 2 = (CM.uRs2 2 && !CM.isReg rs2) from rfl]
  rw [show bad (CM.uv 2) (CW.part rd rs1 rs2 imm) 3 = (!CM.uImm 2 && imm != 0) from rfl]
  rw [show out (CM.uv 2) (CW.part rd rs1 rs2 imm) 3 = (CM.uImm 2 && !CM.fits 2 imm) by rw [← holds_imm2 imm]; rfl]
theorem fault3 (rd rs1 rs2 imm : Int) : faultG (CM.uv 3) (CW.part rd rs1 rs2 imm) = CM.fault 3 rd rs1 rs2 imm := by
  rw [faultG_X, fault_X]
  rw [show bad (CM.uv 3) (CW.part rd rs1 rs2 imm) 0 = (!CM.uRd 3 && rd != 0) from rfl]
  rw [show out (CM.uv 3) (CW.part rd rs1 rs2 imm) 0 = (CM.uRd 3 && !CM.isReg rd) from rfl]
  rw [show bad (CM.uv 3) (CW.part rd rs1 rs2 imm) 1 = (!CM.uRs1 3 && rs1 != 0) from rfl]
  rw [show out (CM.uv 3) (CW.part rd rs1 rs2 imm) 1 = (CM.uRs1 3 && !CM.isReg rs1) by rw [← holds_reg rs1]; rfl]
  rw [show bad (CM.uv 3) (CW.part rd rs1 rs2 imm) 2 = (!CM.uRs2 3 && rs2 != 0) from rfl]
  rw [show out (CM.uv 3) (CW.part rd rs1 rs2 imm) 2 = (CM.uRs2 3 && !CM.isReg rs2) by rw [← holds_reg rs2]; rfl]
  rw [show bad (CM.uv 3) (CW.part rd rs1 rs2 imm) 3 = (!CM.uImm 3 && imm != 0) from rfl]
  rw [show out (CM.uv 3) (CW.part rd rs1 rs2 imm) 3 = (CM.uImm 3 && !CM.fits 3 imm) by rw [← holds_imm3 imm]; rfl]
theorem fault4 (rd rs1 rs2 imm : Int) : faultG (CM.uv 4) (CW.part rd rs1 rs2 imm) = CM.fault 4 rd rs1 rs2 imm := by
  rw [faultG_X, fault_X]
  rw [show bad (CM.uv 4) (CW.part rd rs1 rs2 imm) 0 = (!CM.uRd 4 && rd != 0) from rfl]
  rw [show out (CM.uv 4) (CW.part rd rs1 rs2 imm) 0 = (CM.uRd 4 && !CM.isReg rd) from rfl]
  rw [show bad (CM.uv 4) (CW.part rd rs1 rs2 imm) 1 = (!CM.uRs1 4 && rs1 != 0) from rfl]
  rw [show out (CM.uv 4) (CW.part rd rs1 rs2 imm) 1 = (CM.uRs1 4 && !CM.isReg rs1) by rw [← holds_reg rs1]; rfl]
  rw [show bad (CM.uv 4) (CW.part rd rs1 rs2 imm) 2 = (!CM.uRs2 4 && rs2 != 0) from rfl]
  rw [show out (CM.uv 4) (CW.part rd rs1 rs2 imm) 2 = (CM.uRs2 4 && !CM.isReg rs2) by rw [← holds_reg rs2]; rfl]
  rw [show bad (CM.uv 4) (CW.part rd rs1 rs2 imm) 3 = (!CM.uImm 4 && imm != 0) from rfl]
  rw [show out (CM.uv 4) (CW.part rd rs1 rs2 imm) 3 = (CM.uImm 4 && !CM.fits 4 imm) by rw [← holds_imm4 imm]; rfl]
theorem fault5 (rd rs1 rs2 imm : Int) : faultG (CM.uv 5) (CW.part rd rs1 rs2 imm) = CM.fault 5 rd rs1 rs2 imm := by
  rw [faultG_X, fault_X]
  rw [show bad (CM.uv 5) (CW.part rd rs1 rs2 imm) 0 = (!CM.uRd 5 && rd != 0) from rfl]
  rw [show out (CM.uv 5) (CW.part rd rs1 rs2 imm) 0 = (CM.uRd 5 && !CM.isReg rd) by rw [← holds_reg rd]; rfl]
  rw [show bad (CM.uv 5) (CW.part rd rs1 rs2 imm) 1 = (!CM.uRs1 5 && rs1 != 0) from rfl]
  rw [show out (CM.uv 5) (CW.part rd rs1 rs2 imm) 1 = (CM.uRs1 5 && !CM.isReg rs1) from rfl]
  rw [show bad (CM.uv 5) (CW.part rd rs1 rs2 imm) 2 = (!CM.uRs2 5 && rs2 != 0) from rfl]
  rw [show out (CM.uv 5) (CW.part rd rs1 rs2 imm) 2 = (CM.uRs2 5 && !CM.isReg rs2) from rfl]
  rw [show bad (CM.uv 5) (CW.part rd rs1 rs2 imm) 3 = (!CM.uImm 5 && imm != 0) from rfl]
  rw [show out (CM.uv 5) (CW.part rd rs1 rs2 imm) 3 = (CM.uImm 5 && !CM.fits 5 imm) by rw [← holds_imm5 imm]; rfl]
theorem fault6 (rd rs1 rs2 imm : Int) : faultG (CM.uv 6) (CW.part rd rs1 rs2 imm) = CM.fault 6 rd rs1 rs2 imm := by
  rw [faultG_X, fault_X]
  rw [show bad (CM.uv 6) (CW.part rd rs1 rs2 imm) 0 = (!CM.uRd 6 && rd != 0) from rfl]
  rw [show out (CM.uv 6) (CW.part rd rs1 rs2 imm) 0 = (CM.uRd 6 && !CM.isReg rd) by rw [← holds_reg rd]; rfl]
  rw [show bad (CM.uv 6) (CW.part rd rs1 rs2 imm) 1 = (!CM.uRs1 6 && rs1 != 0) from rfl]
  rw [show out (CM.uv 6) (CW.part rd rs1 rs2 imm) 1 = (CM.uRs1 6 && !CM.isReg rs1) from rfl]
  rw [show bad (CM.uv 6) (CW.part rd rs1 rs2 imm) 2 = (!CM.uRs2 6 && rs2 != 0) from rfl]
  rw [show out (CM.uv 6) (CW.part rd rs1 rs2 imm) 2 = (CM.uRs2 6 && !CM.isReg rs2) from rfl]
  rw [show bad (CM.uv 6) (CW.part rd rs1 rs2 imm) 3 = (!CM.uImm 6 && imm != 0) from rfl]
  rw [show out (CM.uv 6) (CW.part rd rs1 rs2 imm) 3 = (CM.uImm 6 && !CM.fits 6 imm) by rw [← holds_imm6 imm]; rfl]
theorem fault7 (rd rs1 rs2 imm : Int) : faultG (CM.uv 7) (CW.part rd rs1 rs2 imm) = CM.fault 7 rd rs1 rs2 imm := by
  rw [faultG_X, fault_X]
  rw [show bad (CM.uv 7) (CW.part rd rs1 rs2 imm) 0 = (!CM.uRd 7 && rd != 0) from rfl]
  rw [show out (CM.uv 7) (CW.part rd rs1 rs2 imm) 0 = (CM.uRd 7 && !CM.isReg rd) from rfl]
  rw [show bad (CM.uv 7) (CW.part rd rs1 rs2 imm) 1 = (!CM.uRs1 7 && rs1 != 0) from rfl]
  rw [show out (CM.uv 7) (CW.part rd rs1 rs2 imm) 1 = (CM.uRs1 7 && !CM.isReg rs1) from rfl]
  rw [show bad (CM.uv 7) (CW.part rd rs1 rs2 imm) 2 = (!CM.uRs2 7 && rs2 != 0) from rfl]
  rw [show out (CM.uv 7) (CW.part rd rs1 rs2 imm) 2 = (CM.uRs2 7 && !CM.isReg rs2) from rfl]
  rw [show bad (CM.uv 7) (CW.part rd rs1 rs2 imm) 3 = (!CM.uImm 7 && imm != 0) from rfl]
  rw [show out (CM.uv 7) (CW.part rd rs1 rs2 imm) 3 = (CM.uImm 7 && !CM.fits 7 imm) from rfl]
theorem fault8 (rd rs1 rs2 imm : Int) : faultG (CM.uv 8) (CW.part rd rs1 rs2 imm) = CM.fault 8 rd rs1 rs2 imm := by
  rw [faultG_X, fault_X]
  rw [show bad (CM.uv 8) (CW.part rd rs1 rs2 imm) 0 = (!CM.uRd 8 && rd != 0) from rfl]
  rw [show out (CM.uv 8) (CW.part rd rs1 rs2 imm) 0 = (CM.uRd 8 && !CM.isReg rd) by rw [← holds_reg rd]; rfl]
  rw [show bad (CM.uv 8) (CW.part rd rs1 rs2 imm) 1 = (!CM.uRs1 8 && rs1 != 0) from rfl]
  rw [show out (CM.uv 8) (CW.part rd rs1 rs2 imm) 1 = (CM.uRs1 8 && !CM.isReg rs1) by rw [← holds_reg rs1]; rfl]
  rw [show bad (CM.uv 8) (CW.part rd rs1 rs2 imm) 2 = (!CM.uRs2 8 && rs2 != 0) from rfl]
  rw [show out (CM.uv 8) (CW.part rd rs1 rs2 imm) 2 = (CM.uRs2 8 && !CM.isReg rs2) by rw [← holds_reg rs2]; rfl]
  rw [show bad (CM.uv 8) (CW.part rd rs1 rs2 imm) 3 = (!CM.uImm 8 && imm != 0) from rfl]
  rw [show out (CM.uv 8) (CW.part rd rs1 rs2 imm) 3 = (CM.uImm 8 && !CM.fits 8 imm) from rfl]
theorem fault9 (rd rs1 rs2 imm : Int) : faultG (CM.uv 9) (CW.part rd rs1 rs2 imm) = CM.fault 9 rd rs1 rs2 imm := by
  rw [faultG_X, fault_X]
  rw [show bad (CM.uv 9) (CW.part rd rs1 rs2 imm) 0 = (!CM.uRd 9 && rd != 0) from rfl]
  rw [show out (CM.uv 9) (CW.part rd rs1 rs2 imm) 0 = (CM.uRd 9 && !CM.isReg rd) by rw [← holds_reg rd]; rfl]
  rw [show bad (CM.uv 9) (CW.part rd rs1 rs2 imm) 1 = (!CM.uRs1 9 && rs1 != 0) from rfl]
  rw [show out (CM.uv 9) (CW.part rd rs1 rs2 imm) 1 = (CM.uRs1 9 && !CM.isReg rs1) by rw [← holds_reg rs1]; rfl]
  rw [show bad (CM.uv 9) (CW.part rd rs1 rs2 imm) 2 = (!CM.uRs2 9 && rs2 != 0) from rfl]
  rw [show out (CM.uv 9) (CW.part rd rs1 rs2 imm) 2 = (CM.uRs2 9 && !CM.isReg rs2) from rfl]
  rw [show bad (CM.uv 9) (CW.part rd rs1 rs2 imm) 3 = (!CM.uImm 9 && imm != 0) from rfl]
  rw [show out (CM.uv 9) (CW.part rd rs1 rs2 imm) 3 = (CM.uImm 9 && !CM.fits 9 imm) from rfl]
theorem fault10 (rd rs1 rs2 imm : Int) : faultG (CM.uv 10) (CW.part rd rs1 rs2 imm) = CM.fault 10 rd rs1 rs2 imm := by
  rw [faultG_X, fault_X]
  rw [show bad (CM.uv 10) (CW.part rd rs1 rs2 imm) 0 = (!CM.uRd 10 && rd != 0) from rfl]
  rw [show out (CM.uv 10) (CW.part rd rs1 rs2 imm) 0 = (CM.uRd 10 && !CM.isReg rd) by rw [← holds_reg rd]; rfl]
  rw [show bad (CM.uv 10) (CW.part rd rs1 rs2 imm) 1 = (!CM.uRs1 10 && rs1 != 0) from rfl]
  rw [show out (CM.uv 10) (CW.part rd rs1 rs2 imm) 1 = (CM.uRs1 10 && !CM.isReg rs1) by rw [← holds_reg rs1]; rfl]
  rw [show bad (CM.uv 10) (CW.part rd rs1 rs2 imm) 2 = (!CM.uRs2 10 && rs2 != 0) from rfl]
  rw [show out (CM.uv 10) (CW.part rd rs1 rs2 imm) 2 = (CM.uRs2 10 && !CM.isReg rs2) from rfl]
  rw [show bad (CM.uv 10) (CW.part rd rs1 rs2 imm) 3 = (!CM.uImm 10 && imm != 0) from rfl]
  rw [show out (CM.uv 10) (CW.part rd rs1 rs2 imm) 3 = (CM.uImm 10 && !CM.fits 10 imm) from rfl]
theorem fault_all {k : Int} (h0 : 0 ≤ k) (h1 : k ≤ 10) (rd rs1 rs2 imm : Int) : faultG (CM.uv k) (CW.part rd rs1 rs2 imm) = CM.fault k rd rs1 rs2 imm := by
  rcases (show k = 0 ∨ k = 1 ∨ k = 2 ∨ k = 3 ∨ k = 4 ∨ k = 5 ∨ k = 6 ∨ k = 7 ∨ k = 8 ∨ k = 9 ∨ k = 10 by omega) with h | h | h | h | h | h | h | h | h | h | h <;> subst h
  · exact fault0 rd rs1 rs2 imm
  · exact fault1 rd rs1 rs2 imm
  · exact fault2 rd rs1 rs2 imm
  · exact fault3 rd rs1 rs2 imm
  · exact fault4 rd rs1 rs2 imm
  · exact fault5 rd rs1 rs2 imm
  · exact fault6 rd rs1 rs2 imm
  · exact fault7 rd rs1 rs2 imm
  · exact fault8 rd rs1 rs2 imm
  · exact fault9 rd rs1 rs2 imm
  · exact fault10 rd rs1 rs2 imm
theorem len60 {k : Int} (h0 : 0 ≤ k) (h1 : k ≤ 10) : (CM.ul k.toNat).length = 60 := by
  rcases (show k = 0 ∨ k = 1 ∨ k = 2 ∨ k = 3 ∨ k = 4 ∨ k = 5 ∨ k = 6 ∨ k = 7 ∨ k = 8 ∨ k = 9 ∨ k = 10 by omega) with h | h | h | h | h | h | h | h | h | h | h <;> subst h <;> rfl
end CX
end Go.Proofs.Ytlmblfkcmhgdaaa
