/-
  How the nearest rung is found by doubling: plain arithmetic. No condition. It speaks of no program.
-/
import Derived.Test.YtcchmnilcmnajaaGreatDoorRealM
namespace Go.Proofs.YtcchmnilcmnajaaGreatDoor
set_option linter.unusedVariables false
namespace RM
open Ieee
def sx (A : Nat) (up : Int) : Nat := A * 2 ^ up.toNat
def sy (B : Nat) (up : Int) : Nat := B * 2 ^ (-up).toNat
/-- the scale is right, or one doubling too many -/
def Inv (A B : Nat) (up : Int) (t : Nat) : Prop := sx A up < sy B up * 2 ^ (52 + t) ∧ 4503599627370496 ≤ sx A up / sy B up
theorem sy_pos {B : Nat} (h : 0 < B) (up : Int) : 0 < sy B up := Nat.mul_pos h (Nat.two_pow_pos _)
theorem pred_x (A B : Nat) (up : Int) : sx A up * sy B (up - 1) = 2 * (sx A (up - 1) * sy B up) := by
  unfold sx sy
  rcases Int.lt_or_le 0 up with c | c
  · rw [show (-(up - 1)).toNat = 0 by omega, show (-up).toNat = 0 by omega, show up.toNat = (up - 1).toNat + 1 by omega, Nat.pow_succ]
    simp only [Nat.pow_zero, Nat.mul_one]
    rw [← Nat.mul_assoc, Nat.mul_comm _ 2, Nat.mul_assoc]
  · rw [show up.toNat = 0 by omega, show (up - 1).toNat = 0 by omega, show (-(up - 1)).toNat = (-up).toNat + 1 by omega, Nat.pow_succ]
    simp only [Nat.pow_zero, Nat.mul_one]
    ac_rfl
theorem le_div {x y c : Nat} (hy : 0 < y) : c ≤ x / y ↔ c * y ≤ x := Nat.le_div_iff_mul_le hy
/-- one doubling less -/
theorem Inv.pred {A B : Nat} {up : Int} (hB : 0 < B) (h : sx A up < sy B up * 2 ^ 54) (hq : 9007199254740992 ≤ sx A up / sy B up) : Inv A B (up - 1) 1 := by
  have p0 := sy_pos hB up
  have p1 := sy_pos hB (up - 1)
  have e := pred_x A B up
  rw [le_div p0] at hq
  unfold Inv
  rw [le_div p1]
  generalize sx A up = x at *
  generalize sy B up = y at *
  generalize sx A (up - 1) = x' at *
  generalize sy B (up - 1) = y' at *
  constructor
  · have h1 : x * y' < y * 2 ^ 54 * y' := (Nat.mul_lt_mul_right p1).2 h
    rw [e] at h1
    have h2 : 2 * (x' * y) < 2 * (y' * 2 ^ 53 * y) := by
      have : y * 2 ^ 54 * y' = 2 * (y' * 2 ^ 53 * y) := by rw [show (2 : Nat) ^ 54 = 2 * 2 ^ 53 by decide]; ac_rfl
      omega
    have h3 : x' * y < y' * 2 ^ 53 * y := by omega
    exact (Nat.mul_lt_mul_right p0).1 h3
  · have h1 : 9007199254740992 * y * y' ≤ x * y' := Nat.mul_le_mul_right _ hq
    rw [e] at h1
    have h2 : 9007199254740992 * y * y' = 2 * (4503599627370496 * y' * y) := by rw [show (9007199254740992 : Nat) = 2 * 4503599627370496 by decide]; ac_rfl
    have h3 : 4503599627370496 * y' * y ≤ x' * y := by omega
    exact Nat.le_of_mul_le_mul_right h3 p0
theorem mono1 {A B : Nat} {up : Int} {t : Nat} (hB : 0 < B) (h : sx A up < sy B up * 2 ^ t) : sx A (up - 1) < sy B (up - 1) * 2 ^ t := by
  have p0 := sy_pos hB up
  have p1 := sy_pos hB (up - 1)
  have e := pred_x A B up
  generalize sx A up = x at *
  generalize sy B up = y at *
  generalize sx A (up - 1) = x' at *
  generalize sy B (up - 1) = y' at *
  have h1 : x * y' < y * 2 ^ t * y' := (Nat.mul_lt_mul_right p1).2 h
  rw [e] at h1
  have h2 : x' * y < y' * 2 ^ t * y := by
    have : y * 2 ^ t * y' = y' * 2 ^ t * y := by ac_rfl
    omega
  exact (Nat.mul_lt_mul_right p0).1 h2
theorem mono {A B : Nat} {t : Nat} (hB : 0 < B) : ∀ (d : Nat) {up : Int}, sx A up < sy B up * 2 ^ t → sx A (up - d) < sy B (up - d) * 2 ^ t
  | 0, up, h => by simpa using h
  | d + 1, up, h => by
    have := mono1 hB (mono hB d h)
    rw [show up - ((d + 1 : Nat) : Int) = up - (d : Int) - 1 by omega]
    exact this
theorem mono' {A B : Nat} {t : Nat} {up up' : Int} (hB : 0 < B) (h : sx A up < sy B up * 2 ^ t) (hle : up' ≤ up) : sx A up' < sy B up' * 2 ^ t := by
  have := mono hB (up - up').toNat h
  rw [show up - ((up - up').toNat : Int) = up' by omega] at this
  exact this
/-- the first guess -/
theorem Inv.first {A B sa sb : Nat} (ha : 1 ≤ sa) (ha1 : 2 ^ (sa - 1) ≤ A) (ha2 : A < 2 ^ sa) (hb : 1 ≤ sb) (hb1 : 2 ^ (sb - 1) ≤ B) (hb2 : B < 2 ^ sb) : Inv A B (53 - (sa : Int) + sb) 2 := by
  have hB : 0 < B := Nat.lt_of_lt_of_le (Nat.two_pow_pos _) hb1
  have p0 := sy_pos hB (53 - (sa : Int) + sb)
  unfold Inv
  rw [le_div p0]
  unfold sx sy
  generalize hu : (53 - (sa : Int) + sb).toNat = u
  generalize hv : (-(53 - (sa : Int) + sb)).toNat = v
  constructor
  · have h1 : A * 2 ^ u < 2 ^ (sa + u) := by rw [Nat.pow_add]; exact (Nat.mul_lt_mul_right (Nat.two_pow_pos u)).2 ha2
    have h2 : 2 ^ (sb - 1 + v + 54) ≤ B * 2 ^ v * 2 ^ (52 + 2) := by
      rw [Nat.pow_add, Nat.pow_add]
      exact Nat.mul_le_mul_right _ (Nat.mul_le_mul_right _ hb1)
    have h3 : sa + u = sb - 1 + v + 54 := by omega
    rw [h3] at h1
    omega
  · have h1 : 2 ^ (sa - 1 + u) ≤ A * 2 ^ u := by rw [Nat.pow_add]; exact Nat.mul_le_mul_right _ ha1
    have h2 : 4503599627370496 * (B * 2 ^ v) ≤ 2 ^ (52 + (sb + v)) := by
      rw [Nat.pow_add, Nat.pow_add]
      exact Nat.mul_le_mul (by decide) (Nat.mul_le_mul_right _ (by omega))
    have h3 : 52 + (sb + v) = sa - 1 + u := by omega
    rw [h3] at h2
    omega
/-- what the last lines make of the rounded quotient -/
def asm (last : Int) (q : Nat) : Nat :=
  if q = 9007199254740992 then (if 2047 ≤ last + 1 + 1075 then 9218868437227405312 else (last + 1 + 1075).toNat * 4503599627370496 + 4503599627370496 - 4503599627370496)
  else if q < 4503599627370496 then q
  else if 2047 ≤ last + 1075 then 9218868437227405312 else (last + 1075).toNat * 4503599627370496 + q - 4503599627370496
theorem near_asm {A B : Nat} {e up : Int} (hB : 0 < B) (h1 : -1074 ≤ e - up) (h2 : sx A up / sy B up < 9007199254740992) (h3 : 4503599627370496 ≤ sx A up / sy B up ∨ e - up = -1074) :
    Near A B e (asm (e - up) (rnd (sx A up) (sy B up))) := by
  refine ⟨up.toNat, (-up).toNat, by omega, h2, ?_, ?_⟩
  · rcases h3 with c | c
    · exact .inl c
    · exact .inr (by omega)
  rw [show e - (up.toNat : Int) + ((-up).toNat : Int) = e - up by omega]
  have hr : rnd (sx A up) (sy B up) ≤ sx A up / sy B up + 1 := by unfold rnd; have := up1_le (sx A up) (sy B up); omega
  have hr2 : sx A up / sy B up ≤ rnd (sx A up) (sy B up) := by unfold rnd; omega
  show asm (e - up) (rnd (sx A up) (sy B up)) = min ((e - up + 1074).toNat * 4503599627370496 + rnd (sx A up) (sy B up)) infR
  generalize rnd (sx A up) (sy B up) = r at *
  generalize sx A up / sy B up = q at *
  generalize e - up = l at *
  obtain ⟨m, rfl⟩ : ∃ m : Nat, l = (m : Int) - 1074 := ⟨(l + 1074).toNat, by omega⟩
  rw [show ((m : Int) - 1074 + 1074).toNat = m by omega]
  unfold asm infR
  by_cases c1 : r = 9007199254740992
  · rw [if_pos c1, c1]
    by_cases c2 : 2047 ≤ (m : Int) - 1074 + 1 + 1075
    · rw [if_pos c2]; omega
    · rw [if_neg c2, show ((m : Int) - 1074 + 1 + 1075).toNat = m + 2 by omega]; omega
  · rw [if_neg c1]
    by_cases c2 : r < 4503599627370496
    · rw [if_pos c2]
      have : m = 0 := by omega
      subst this
      omega
    · rw [if_neg c2]
      by_cases c3 : 2047 ≤ (m : Int) - 1074 + 1075
      · rw [if_pos c3]; omega
      · rw [if_neg c3, show ((m : Int) - 1074 + 1075).toNat = m + 1 by omega]; omega
end RM
end Go.Proofs.YtcchmnilcmnajaaGreatDoor
