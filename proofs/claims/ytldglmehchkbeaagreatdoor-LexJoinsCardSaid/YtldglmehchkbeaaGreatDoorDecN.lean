/-
  Decimal numbers held digit by digit: what moving them by powers of two carries, plainly. No program, no condition.
-/
import Derived.Test.YtldglmehchkbeaaGreatDoorDecM
namespace Go.Proofs.YtldglmehchkbeaaGreatDoor
set_option linter.unusedVariables false
set_option linter.unusedSimpArgs false
namespace Dc
/-- n digits from i on -/
def dl (d : Nat → Nat) : Nat → Nat → List Nat
  | _, 0 => []
  | i, n + 1 => d i :: dl d (i + 1) n
theorem dl_len (d : Nat → Nat) : ∀ (n i : Nat), (dl d i n).length = n
  | 0, _ => rfl
  | n + 1, i => by show (dl d (i + 1) n).length + 1 = n + 1; rw [dl_len d n (i + 1)]
theorem dl_dig {d : Nat → Nat} {N : Nat} (h : ∀ i, i < N → d i ≤ 9) : ∀ (n i : Nat), i + n ≤ N → Dig (dl d i n)
  | 0, _, _ => by intro a ha; exact absurd ha (by simp [dl])
  | n + 1, i, hi => by
    intro a ha
    rcases List.mem_cons.1 ha with rfl | ha
    · exact h i (by omega)
    · exact dl_dig h n (i + 1) (by omega) a ha
/-- what is carried over to the place ahead of r -/
def cy (d : Nat → Nat) (k nd r : Nat) : Nat := V (dl d r (nd - r)) * 2 ^ k / 10 ^ (nd - r)
theorem cy_end (d : Nat → Nat) (k nd : Nat) : cy d k nd nd = 0 := by
  unfold cy; rw [Nat.sub_self]; simp [dl, V]
theorem cy_step (d : Nat → Nat) (k nd r : Nat) (h : r < nd) : cy d k nd r = (cy d k nd (r + 1) + d r * 2 ^ k) / 10 := by
  unfold cy
  obtain ⟨m, hm⟩ : ∃ m, nd - r = m + 1 := ⟨nd - r - 1, by omega⟩
  rw [hm, show nd - (r + 1) = m by omega]
  show (d r * 10 ^ (dl d (r + 1) m).length + V (dl d (r + 1) m)) * 2 ^ k / 10 ^ (m + 1) = _
  rw [dl_len, Nat.pow_succ, ← Nat.div_div_eq_div_mul]
  congr 1
  rw [Nat.add_mul, Nat.mul_right_comm, Nat.add_comm, Nat.add_mul_div_right _ _ (Nat.pow_pos (by omega))]
theorem cy_lt {d : Nat → Nat} {N : Nat} (h : ∀ i, i < N → d i ≤ 9) (k nd r : Nat) (hr : r ≤ nd) (hN : nd ≤ N) : cy d k nd r < 2 ^ k := by
  unfold cy
  have h1 := V_lt (dl_dig h (nd - r) r (by omega))
  rw [dl_len] at h1
  rw [Nat.div_lt_iff_lt_mul (Nat.pow_pos (by omega)), Nat.mul_comm (2 ^ k)]
  exact Nat.mul_lt_mul_of_pos_right h1 (Nat.pow_pos (by omega))
/-- the whole, with its first place left out -/
theorem cy_top (d : Nat → Nat) (k nd : Nat) (h : 1 ≤ nd) : cy d k nd 1 + d 0 * 2 ^ k = V (dl d 0 nd) * 2 ^ k / 10 ^ (nd - 1) := by
  obtain ⟨m, rfl⟩ : ∃ m, nd = m + 1 := ⟨nd - 1, by omega⟩
  unfold cy
  show _ = (d 0 * 10 ^ (dl d 1 m).length + V (dl d 1 m)) * 2 ^ k / 10 ^ m
  rw [dl_len, Nat.add_mul, Nat.mul_right_comm, Nat.add_comm (d 0 * 2 ^ k * 10 ^ m), Nat.add_mul_div_right _ _ (Nat.pow_pos (by omega))]
  rfl
/-- what is left to put down ahead of all, and how much of the first place there is -/
theorem left_facts {k dd : Nat} {s : List Nat} {d : Nat → Nat} {N nd : Nat} (h : Cheat k dd s) (hd : ∀ i, i < N → d i ≤ 9) (h1 : 1 ≤ nd) (hN : nd ≤ N) (h0 : 1 ≤ d 0) (hk : 1 ≤ k) :
    cy d k nd 0 < 10 ^ delta dd (dl d 0 nd) s ∧ (1 ≤ delta dd (dl d 0 nd) s → 10 ^ (delta dd (dl d 0 nd) s - 1) ≤ cy d k nd 0) ∧
    (delta dd (dl d 0 nd) s = 0 → cy d k nd 1 + d 0 * 2 ^ k < 10 ∧ 2 * d 0 ≤ cy d k nd 1 + d 0 * 2 ^ k) := by
  have hdg := dl_dig hd nd 0 (by omega)
  have hV : 10 ^ ((dl d 0 nd).length - 1) ≤ V (dl d 0 nd) := by
    rw [dl_len]
    obtain ⟨m, rfl⟩ : ∃ m, nd = m + 1 := ⟨nd - 1, by omega⟩
    refine Nat.le_trans ?_ (V_ge (d 0) (dl d 1 m))
    rw [dl_len]
    exact Nat.le_mul_of_pos_left _ h0
  have hs := shifted h hdg (by rw [dl_len]; exact h1) hV hk
  rw [dl_len] at hs
  generalize delta dd (dl d 0 nd) s = e at *
  have hc0 : cy d k nd 0 = V (dl d 0 nd) * 2 ^ k / 10 ^ nd := by unfold cy; rfl
  refine ⟨?_, fun he => ?_, fun he => ⟨?_, ?_⟩⟩
  · rw [hc0, Nat.div_lt_iff_lt_mul (Nat.pow_pos (by omega)), ← Nat.pow_add, Nat.add_comm]
    exact hs.2
  · rw [hc0, Nat.le_div_iff_mul_le (Nat.pow_pos (by omega)), ← Nat.pow_add, show e - 1 + nd = nd - 1 + e by omega]
    exact hs.1
  · subst he
    rw [cy_top d k nd h1, Nat.div_lt_iff_lt_mul (Nat.pow_pos (by omega))]
    refine Nat.lt_of_lt_of_le hs.2 ?_
    rw [Nat.add_zero, show nd = nd - 1 + 1 by omega, Nat.pow_succ, Nat.mul_comm 10]
    exact Nat.le_refl _
  · have h2 : 2 ^ 1 ≤ 2 ^ k := Nat.pow_le_pow_right (by omega) hk
    have := Nat.mul_le_mul_left (d 0) h2
    omega
/-- a power of two more divides what is carried on: so it ends -/
theorem dvd_step (k j n : Nat) (hj : j ≤ k) (h : 2 ^ j ∣ n) : 2 ^ (j + 1) ∣ (n % 2 ^ k) * 10 := by
  have h1 : 2 ^ j ∣ n % 2 ^ k := (Nat.dvd_mod_iff (Nat.pow_dvd_pow 2 hj)).2 h
  obtain ⟨c, hc⟩ := h1
  exact ⟨c * 5, by rw [hc, Nat.pow_succ, show (10 : Nat) = 2 * 5 from rfl]; simp only [Nat.mul_assoc, Nat.mul_left_comm, Nat.mul_comm]⟩
theorem dvd_end (k n : Nat) (h : 2 ^ k ∣ n) : n % 2 ^ k * 10 = 0 := by
  rw [Nat.mod_eq_zero_of_dvd h]
/-- the cheat's shape, told by a test -/
def cheatB (k d : Nat) (s : List Nat) : Bool := s.all (fun a => decide (a ≤ 9)) && (match s.getLast? with | some a => a != 0 | none => true) && V s == 5 ^ k && d + s.length == k + 1 && decide (10 ^ s.length ≤ 5 ^ k * 10) && decide (5 ^ k < 10 ^ s.length)
theorem cheat_of {k d : Nat} {s : List Nat} (h : cheatB k d s = true) : Cheat k d s := by
  unfold cheatB at h
  simp only [Bool.and_eq_true, List.all_eq_true, decide_eq_true_eq, beq_iff_eq] at h
  obtain ⟨⟨⟨⟨⟨h1, h2⟩, h3⟩, h4⟩, h5⟩, h6⟩ := h
  refine ⟨h1, fun hne => ?_, h3, h4, h5, h6⟩
  rw [List.getLast?_eq_some_getLast hne] at h2
  simpa using h2
theorem dl_get (d : Nat → Nat) : ∀ (n j i : Nat), i < n → (dl d j n)[i]? = some (d (j + i))
  | 0, _, _, h => by omega
  | n + 1, j, 0, _ => rfl
  | n + 1, j, i + 1, h => by
    show (dl d (j + 1) n)[i]? = _
    rw [dl_get d n (j + 1) i (by omega), show j + 1 + i = j + (i + 1) by omega]
theorem less_end {B S : List Nat} {i : Nat} (h : S.length ≤ i) : less (B.drop i) (S.drop i) = false := by
  rw [List.drop_of_length_le h]; cases B.drop i <;> rfl
theorem less_short {B S : List Nat} {i : Nat} (h : B.length ≤ i) (hi : i < S.length) : less (B.drop i) (S.drop i) = true := by
  rw [List.drop_of_length_le h, List.drop_eq_getElem_cons hi]; rfl
theorem less_go {B S : List Nat} {i a c : Nat} (hb : B[i]? = some a) (hs : S[i]? = some c) : less (B.drop i) (S.drop i) = if a = c then less (B.drop (i + 1)) (S.drop (i + 1)) else decide (a < c) := by
  obtain ⟨h1, rfl⟩ := List.getElem?_eq_some_iff.1 hb
  obtain ⟨h2, rfl⟩ := List.getElem?_eq_some_iff.1 hs
  rw [List.drop_eq_getElem_cons h1, List.drop_eq_getElem_cons h2]; rfl
end Dc
end Go.Proofs.YtldglmehchkbeaaGreatDoor
