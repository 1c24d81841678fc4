/-
  Digits of base 65536 under sums, products with one digit, differences, halves: plain arithmetic. No condition. It speaks of no program.
-/
namespace Go.Proofs.YtcchmnilcmnajaaGreatDoor
set_option linter.unusedVariables false
namespace RN
def dg (N j : Nat) : Nat := N / 65536 ^ j % 65536
theorem P_pos (k : Nat) : 0 < 65536 ^ k := Nat.pow_pos (by omega)
theorem mod_succ (N k : Nat) : N % 65536 ^ (k + 1) = N % 65536 ^ k + 65536 ^ k * dg N k := by
  unfold dg; rw [Nat.pow_succ, Nat.mod_mul]
theorem div_dg (N k : Nat) : N / 65536 ^ k = 65536 * (N / 65536 ^ (k + 1)) + dg N k := by
  unfold dg; rw [Nat.pow_succ, ← Nat.div_div_eq_div_mul]; omega
theorem step_div (P r x : Nat) (hP : 0 < P) (hr : r < P) : (P * x + r) / (P * 65536) = x / 65536 := by
  rw [← Nat.div_div_eq_div_mul, Nat.mul_add_div hP, Nat.div_eq_of_lt hr, Nat.add_zero]

/-! ### sums -/
def crS (A B k : Nat) : Nat := (A % 65536 ^ k + B % 65536 ^ k) / 65536 ^ k
theorem crS_zero (A B : Nat) : crS A B 0 = 0 := by unfold crS; simp [Nat.mod_one]
theorem crS_le (A B k : Nat) : crS A B k ≤ 1 := by
  unfold crS
  have h1 := Nat.mod_lt A (P_pos k)
  have h2 := Nat.mod_lt B (P_pos k)
  have := (Nat.div_lt_iff_lt_mul (P_pos k) (x := A % 65536 ^ k + B % 65536 ^ k) (y := 2)).2 (by omega)
  omega
theorem sum_dg (A B k : Nat) : (dg A k + dg B k + crS A B k) % 65536 = dg (A + B) k := by
  have h1 := Nat.div_add_mod A (65536 ^ k)
  have h2 := Nat.div_add_mod B (65536 ^ k)
  have e : (A + B) / 65536 ^ k = A / 65536 ^ k + B / 65536 ^ k + crS A B k := by
    unfold crS
    have : A + B = 65536 ^ k * (A / 65536 ^ k + B / 65536 ^ k) + (A % 65536 ^ k + B % 65536 ^ k) := by rw [Nat.mul_add]; omega
    rw [this, Nat.mul_add_div (P_pos k)]
  unfold dg
  rw [e]
  omega
theorem crS_succ (A B k : Nat) : (dg A k + dg B k + crS A B k) / 65536 = crS A B (k + 1) := by
  have h3 := Nat.div_add_mod (A % 65536 ^ k + B % 65536 ^ k) (65536 ^ k)
  have hm := Nat.mod_lt (A % 65536 ^ k + B % 65536 ^ k) (P_pos k)
  have e : A % 65536 ^ (k + 1) + B % 65536 ^ (k + 1) = 65536 ^ k * (dg A k + dg B k + crS A B k) + (A % 65536 ^ k + B % 65536 ^ k) % 65536 ^ k := by
    rw [mod_succ, mod_succ]
    unfold crS
    rw [Nat.mul_add, Nat.mul_add]
    omega
  unfold crS at e ⊢
  rw [e, Nat.pow_succ, step_div _ _ _ (P_pos k) hm]
theorem crS_end {A B k : Nat} (h1 : A < 65536 ^ k) (h2 : B < 65536 ^ k) (h : crS A B k = 0) : A + B < 65536 ^ k := by
  unfold crS at h
  rw [Nat.mod_eq_of_lt h1, Nat.mod_eq_of_lt h2] at h
  rcases Nat.lt_or_ge (A + B) (65536 ^ k) with c | c
  · exact c
  · have := Nat.div_pos c (P_pos k); omega
theorem crS_stop {A B n k : Nat} (h1 : A < 65536 ^ n) (h2 : B < 65536 ^ n) (hk : n < k) : crS A B k = 0 := by
  have h3 : 65536 ^ (n + 1) ≤ 65536 ^ k := Nat.pow_le_pow_right (by omega) hk
  rw [Nat.pow_succ] at h3
  unfold crS
  rw [Nat.mod_eq_of_lt (by omega), Nat.mod_eq_of_lt (by omega), Nat.div_eq_of_lt (by omega)]

/-! ### products with one digit -/
def crM (A K k : Nat) : Nat := A % 65536 ^ k * K / 65536 ^ k
theorem crM_zero (A K : Nat) : crM A K 0 = 0 := by unfold crM; simp [Nat.mod_one]
theorem crM_le (A K k : Nat) : crM A K k ≤ K := by
  unfold crM
  have h1 := Nat.mod_lt A (P_pos k)
  have : A % 65536 ^ k * K ≤ 65536 ^ k * K := Nat.mul_le_mul_right _ (by omega)
  exact Nat.le_trans (Nat.div_le_div_right this) (by rw [Nat.mul_div_cancel_left _ (P_pos k)]; exact Nat.le_refl _)
theorem mul_dg (A K k : Nat) : (dg A k * K + crM A K k) % 65536 = dg (A * K) k := by
  have h1 := Nat.div_add_mod A (65536 ^ k)
  have e : A * K / 65536 ^ k = A / 65536 ^ k * K + crM A K k := by
    unfold crM
    have : A * K = 65536 ^ k * (A / 65536 ^ k * K) + A % 65536 ^ k * K := by
      rw [← Nat.mul_assoc, ← Nat.add_mul, h1]
    rw [this, Nat.mul_add_div (P_pos k)]
  have d := div_dg A k
  unfold dg at d ⊢
  rw [e]
  generalize A / 65536 ^ k = a at *
  generalize A / 65536 ^ (k + 1) = t at *
  have e2 : a * K = 65536 * (t * K) + a % 65536 * K := by
    rw [← Nat.mul_assoc, ← Nat.add_mul, ← d]
  rw [e2]
  omega
theorem crM_succ (A K k : Nat) : (dg A k * K + crM A K k) / 65536 = crM A K (k + 1) := by
  have h3 := Nat.div_add_mod (A % 65536 ^ k * K) (65536 ^ k)
  have hm := Nat.mod_lt (A % 65536 ^ k * K) (P_pos k)
  have e : A % 65536 ^ (k + 1) * K = 65536 ^ k * (dg A k * K + crM A K k) + A % 65536 ^ k * K % 65536 ^ k := by
    rw [mod_succ, Nat.add_mul]
    unfold crM
    rw [Nat.mul_add, ← Nat.mul_assoc]
    omega
  unfold crM at e ⊢
  rw [e, Nat.pow_succ, step_div _ _ _ (P_pos k) hm]
theorem crM_end {A K k : Nat} (h1 : A < 65536 ^ k) (h : crM A K k = 0) : A * K < 65536 ^ k := by
  unfold crM at h
  rw [Nat.mod_eq_of_lt h1] at h
  rcases Nat.lt_or_ge (A * K) (65536 ^ k) with c | c
  · exact c
  · have := Nat.div_pos c (P_pos k); omega
theorem crM_stop {A K n k : Nat} (h1 : A < 65536 ^ n) (hK : K ≤ 65535) (hk : n < k) : crM A K k = 0 := by
  have h3 : 65536 ^ (n + 1) ≤ 65536 ^ k := Nat.pow_le_pow_right (by omega) hk
  have h4 : A * K < 65536 ^ (n + 1) := by
    rw [Nat.pow_succ]
    exact Nat.lt_of_le_of_lt (Nat.mul_le_mul_left A hK) (Nat.mul_lt_mul_of_lt_of_le h1 (by omega) (by omega))
  unfold crM
  rw [Nat.mod_eq_of_lt (by have := P_pos n; rw [Nat.pow_succ] at h3; omega), Nat.div_eq_of_lt (by omega)]

/-! ### differences -/
def brw (A B k : Nat) : Nat := if A % 65536 ^ k < B % 65536 ^ k then 1 else 0
theorem brw_zero (A B : Nat) : brw A B 0 = 0 := by unfold brw; simp [Nat.mod_one]
theorem brw_le (A B k : Nat) : brw A B k ≤ 1 := by unfold brw; split <;> omega
/-- what is left over at a place, and the digit -/
theorem sub_at (A B k : Nat) (h : B ≤ A) :
    (dg A k < dg B k + brw A B k → dg (A - B) k = dg A k + 65536 - dg B k - brw A B k ∧ brw A B (k + 1) = 1) ∧
    (dg B k + brw A B k ≤ dg A k → dg (A - B) k = dg A k - dg B k - brw A B k ∧ brw A B (k + 1) = 0) := by
  obtain ⟨C, rfl⟩ : ∃ C, A = B + C := ⟨A - B, by omega⟩
  rw [Nat.add_sub_cancel_left]
  have s1 := sum_dg B C k
  have s2 := crS_succ B C k
  have c1 := crS_le B C k
  have c2 := crS_le B C (k + 1)
  have e : ∀ j, brw (B + C) B j = crS B C j := by
    intro j
    have m1 := Nat.mod_lt B (P_pos j)
    have m2 := Nat.mod_lt C (P_pos j)
    have ea : (B + C) % 65536 ^ j = (B % 65536 ^ j + C % 65536 ^ j) % 65536 ^ j := Nat.add_mod ..
    unfold brw crS
    rw [ea]
    rcases Nat.lt_or_ge (B % 65536 ^ j + C % 65536 ^ j) (65536 ^ j) with c | c
    · rw [Nat.mod_eq_of_lt c, Nat.div_eq_of_lt c, if_neg (by omega)]
    · have hq : (B % 65536 ^ j + C % 65536 ^ j) % 65536 ^ j = B % 65536 ^ j + C % 65536 ^ j - 65536 ^ j := by
        rw [Nat.mod_eq_sub_mod c, Nat.mod_eq_of_lt (by omega)]
      have hd : (B % 65536 ^ j + C % 65536 ^ j) / 65536 ^ j = 1 := by
        have h1 := Nat.div_pos c (P_pos j)
        have h2 := (Nat.div_lt_iff_lt_mul (P_pos j) (x := B % 65536 ^ j + C % 65536 ^ j) (y := 2)).2 (by omega)
        omega
      rw [hq, hd, if_pos (by omega)]
  rw [e k, e (k + 1)]
  have lB : dg B k < 65536 := Nat.mod_lt _ (by omega)
  have lC : dg C k < 65536 := Nat.mod_lt _ (by omega)
  have lA : dg (B + C) k < 65536 := Nat.mod_lt _ (by omega)
  constructor <;> intro hc <;> constructor <;> omega

/-! ### halves -/
theorem half_dg (A k : Nat) : dg A k / 2 + dg A (k + 1) % 2 * 32768 = dg (A / 2) k := by
  have d1 := div_dg A k
  have d2 := div_dg A (k + 1)
  unfold dg at *
  rw [Nat.div_div_eq_div_mul, Nat.mul_comm 2, ← Nat.div_div_eq_div_mul]
  generalize A / 65536 ^ k = a at *
  generalize A / 65536 ^ (k + 1) = b at *
  omega
end RN
end Go.Proofs.YtcchmnilcmnajaaGreatDoor
