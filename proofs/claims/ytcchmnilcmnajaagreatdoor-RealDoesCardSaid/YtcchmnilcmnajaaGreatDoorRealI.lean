/-
  Sums, products and quotients of reals by their classes: plain facts. No condition beyond those told.
-/
import Derived.Test.YtcchmnilcmnajaaGreatDoorRealM
namespace Go.Proofs.YtcchmnilcmnajaaGreatDoor
set_option linter.unusedVariables false
set_option linter.unusedSimpArgs false
namespace RI
open RM Ieee
theorem fin_num {x : Nat} (h : rg x < 9218868437227405312) : isNan x = false := (isNan_no x).2 (by omega)
theorem inf_word {x : Nat} (hx : W x) (h : rg x = 9218868437227405312) : double.word (sgn x) 9218868437227405312 = x := by
  have := word_of hx; rwa [h] at this
theorem add_opp {x y : Nat} (h1 : rg x = 9218868437227405312) (h2 : rg y = 9218868437227405312) (hs : sgn x ≠ sgn y) : fadd x y = NaN := by
  unfold fadd Format.add
  rw [read_inf h1, read_inf h2]
  simp only [Datum.sum]
  rw [if_neg hs]; rfl
theorem add_inf_l {x y : Nat} (hx : W x) (h1 : rg x = 9218868437227405312) (hy : isNan y = false) (hs : rg y = 9218868437227405312 → sgn x = sgn y) : fadd x y = x := by
  unfold fadd Format.add
  rw [read_inf h1]
  rcases kind y with ⟨a, n, r⟩ | ⟨a, n, r⟩ | ⟨a, n, u, r⟩
  · rw [r]; simp only [Datum.sum]; rw [map_some, write_inf, inf_word hx h1]
  · rw [r]; simp only [Datum.sum]; rw [if_pos (hs a), map_some, write_inf, inf_word hx h1]
  · rw [n] at hy; cases hy
theorem add_inf_r {x y : Nat} (hy : W y) (h1 : rg y = 9218868437227405312) (h2 : rg x < 9218868437227405312) : fadd x y = y := by
  unfold fadd Format.add
  rw [read_inf h1, read_fin h2]
  simp only [Datum.sum]
  rw [map_some, write_inf, inf_word hy h1]
theorem zero_mg {x : Nat} (h : rg x = 0) : mg x = 0 := mg_zero.2 h
theorem add_fin {x y : Nat} (h1 : rg x < 9218868437227405312) (h2 : rg y < 9218868437227405312) :
    fadd x y = double.word (if signed (sgn x) (mg x) (pl x - min (pl x) (pl y)).toNat + signed (sgn y) (mg y) (pl y - min (pl x) (pl y)).toNat = 0 then sgn x && sgn y else signed (sgn x) (mg x) (pl x - min (pl x) (pl y)).toNat + signed (sgn y) (mg y) (pl y - min (pl x) (pl y)).toNat < 0)
      (rungOf (signed (sgn x) (mg x) (pl x - min (pl x) (pl y)).toNat + signed (sgn y) (mg y) (pl y - min (pl x) (pl y)).toNat).natAbs (min (pl x) (pl y))) := by
  unfold fadd Format.add
  rw [read_fin h1, read_fin h2]
  simp only [Datum.sum]
  rw [map_some, write_number]
theorem add_zeros {x y : Nat} (h1 : rg x = 0) (h2 : rg y = 0) : fadd x y = double.word (sgn x && sgn y) 0 := by
  rw [add_fin (by omega) (by omega), zero_mg h1, zero_mg h2, signed_zero, signed_zero, if_pos (by rfl)]
  rfl
theorem add_zeros_ne {x y : Nat} (h1 : rg x = 0) (h2 : rg y = 0) (hs : sgn x ≠ sgn y) : fadd x y = 0 := by
  rw [add_zeros h1 h2]
  cases hx : sgn x <;> cases hy : sgn y <;> first | rfl | (rw [hx, hy] at hs; exact absurd rfl hs)
theorem add_zeros_eq {x y : Nat} (hx : W x) (h1 : rg x = 0) (h2 : rg y = 0) (hs : sgn x = sgn y) : fadd x y = x := by
  rw [add_zeros h1 h2, ← hs, Bool.and_self]
  have := word_of hx; rwa [h1] at this
def big (x y : Nat) : Nat := mg x * 2 ^ (pl x - min (pl x) (pl y)).toNat
def big' (x y : Nat) : Nat := mg y * 2 ^ (pl y - min (pl x) (pl y)).toNat
theorem signed_val (s : Bool) (m u : Nat) : signed s m u = if s then -((m * 2 ^ u : Nat) : Int) else ((m * 2 ^ u : Nat) : Int) := by
  unfold signed; rw [Nat.shiftLeft_eq]
theorem add_same {x y : Nat} (h1 : rg x < 9218868437227405312) (h2 : rg y < 9218868437227405312) (hs : sgn x = sgn y) (h0 : ¬ (rg x = 0 ∧ rg y = 0)) :
    fadd x y = double.word (sgn x) (rungOf (big x y + big' x y) (min (pl x) (pl y))) := by
  have hne : big x y + big' x y ≠ 0 := by
    intro e
    have e1 : big x y = 0 := by omega
    have e2 : big' x y = 0 := by omega
    exact h0 ⟨mg_zero.1 ((mul_pow_zero _ _).1 e1), mg_zero.1 ((mul_pow_zero _ _).1 e2)⟩
  rw [add_fin h1 h2, signed_val, signed_val, ← hs]
  show double.word (if (if sgn x = true then -(big x y : Int) else (big x y : Int)) + (if sgn x = true then -(big' x y : Int) else (big' x y : Int)) = 0 then _ else decide ((if sgn x = true then -(big x y : Int) else (big x y : Int)) + (if sgn x = true then -(big' x y : Int) else (big' x y : Int)) < 0)) (rungOf ((if sgn x = true then -(big x y : Int) else (big x y : Int)) + (if sgn x = true then -(big' x y : Int) else (big' x y : Int))).natAbs _) = _
  generalize big x y = X at *
  generalize big' x y = Y at *
  cases sgn x
  · simp only [Bool.false_eq_true, if_false]
    rw [if_neg (by omega), decide_eq_false (by omega), show ((X : Int) + (Y : Int)).natAbs = X + Y by omega]
  · simp only [if_true]
    rw [if_neg (by omega), decide_eq_true (by omega), show (-(X : Int) + -(Y : Int)).natAbs = X + Y by omega]
theorem add_diff {x y : Nat} (h1 : rg x < 9218868437227405312) (h2 : rg y < 9218868437227405312) (hs : sgn x ≠ sgn y) :
    fadd x y = if big x y = big' x y then 0 else if big' x y < big x y then double.word (sgn x) (rungOf (big x y - big' x y) (min (pl x) (pl y))) else double.word (sgn y) (rungOf (big' x y - big x y) (min (pl x) (pl y))) := by
  rw [add_fin h1 h2, signed_val, signed_val]
  show double.word (if (if sgn x = true then -(big x y : Int) else (big x y : Int)) + (if sgn y = true then -(big' x y : Int) else (big' x y : Int)) = 0 then _ else decide ((if sgn x = true then -(big x y : Int) else (big x y : Int)) + (if sgn y = true then -(big' x y : Int) else (big' x y : Int)) < 0)) (rungOf ((if sgn x = true then -(big x y : Int) else (big x y : Int)) + (if sgn y = true then -(big' x y : Int) else (big' x y : Int))).natAbs _) = _
  generalize big x y = X at *
  generalize big' x y = Y at *
  cases hx : sgn x <;> cases hy : sgn y
  · rw [hx, hy] at hs; exact absurd rfl hs
  · simp only [Bool.false_eq_true, if_false, if_true]
    by_cases e : X = Y
    · subst e
      rw [if_pos rfl, if_pos (by omega), show ((X : Int) + -(X : Int)).natAbs = 0 by omega]; rfl
    · rw [if_neg e, if_neg (by omega)]
      by_cases l : Y < X
      · rw [if_pos l, decide_eq_false (by omega), show ((X : Int) + -(Y : Int)).natAbs = X - Y by omega]
      · rw [if_neg l, decide_eq_true (by omega), show ((X : Int) + -(Y : Int)).natAbs = Y - X by omega]
  · simp only [Bool.false_eq_true, if_false, if_true]
    by_cases e : X = Y
    · subst e
      rw [if_pos rfl, if_pos (by omega), show (-(X : Int) + (X : Int)).natAbs = 0 by omega]; rfl
    · rw [if_neg e, if_neg (by omega)]
      by_cases l : Y < X
      · rw [if_pos l, decide_eq_true (by omega), show (-(X : Int) + (Y : Int)).natAbs = X - Y by omega]
      · rw [if_neg l, decide_eq_false (by omega), show (-(X : Int) + (Y : Int)).natAbs = Y - X by omega]
  · rw [hx, hy] at hs; exact absurd rfl hs
theorem mul_none_l {x y : Nat} (h1 : rg x = 9218868437227405312) (h2 : rg y = 0) : fmul x y = NaN := by
  unfold fmul Format.mul
  rw [read_inf h1, read_fin (by omega)]
  simp only [Datum.product]
  rw [if_pos (zero_mg h2)]; rfl
theorem mul_none_r {x y : Nat} (h1 : rg x = 0) (h2 : rg y = 9218868437227405312) : fmul x y = NaN := by
  unfold fmul Format.mul
  rw [read_inf h2, read_fin (by omega)]
  simp only [Datum.product]
  rw [if_pos (zero_mg h1)]; rfl
theorem mul_inf_l {x y : Nat} (h1 : rg x = 9218868437227405312) (h2 : rg y ≠ 0) (hy : isNan y = false) : fmul x y = double.word (sgn x ^^ sgn y) 9218868437227405312 := by
  unfold fmul Format.mul
  rw [read_inf h1]
  rcases kind y with ⟨a, n, r⟩ | ⟨a, n, r⟩ | ⟨a, n, u, r⟩
  · rw [r]; simp only [Datum.product]; rw [if_neg (fun e => h2 (mg_zero.1 e)), map_some, write_inf]
  · rw [r]; simp only [Datum.product]; rw [map_some, write_inf]
  · rw [n] at hy; cases hy
theorem mul_inf_r {x y : Nat} (h1 : rg x < 9218868437227405312) (h0 : rg x ≠ 0) (h2 : rg y = 9218868437227405312) : fmul x y = double.word (sgn x ^^ sgn y) 9218868437227405312 := by
  unfold fmul Format.mul
  rw [read_inf h2, read_fin h1]
  simp only [Datum.product]
  rw [if_neg (fun e => h0 (mg_zero.1 e)), map_some, write_inf, Bool.xor_comm]
theorem mul_fin {x y : Nat} (h1 : rg x < 9218868437227405312) (h2 : rg y < 9218868437227405312) : fmul x y = double.word (sgn x ^^ sgn y) (rungOf (mg x * mg y) (pl x + pl y)) := by
  unfold fmul Format.mul
  rw [read_fin h1, read_fin h2]
  simp only [Datum.product]
  rw [map_some, write_number]
theorem div_none_inf {x y : Nat} (h1 : rg x = 9218868437227405312) (h2 : rg y = 9218868437227405312) : fdiv x y = NaN := by
  unfold fdiv Format.div
  rw [read_inf h1, read_inf h2]; rfl
theorem div_none_zero {x y : Nat} (h1 : rg x = 0) (h2 : rg y = 0) : fdiv x y = NaN := by
  unfold fdiv Format.div
  rw [read_fin (by omega), read_fin (by omega)]
  simp only [Datum.quotient]
  rw [if_pos (zero_mg h2), if_pos (zero_mg h1)]; rfl
theorem div_inf {x y : Nat} (h1 : rg x = 9218868437227405312) (h2 : rg y < 9218868437227405312) : fdiv x y = double.word (sgn x ^^ sgn y) 9218868437227405312 := by
  unfold fdiv Format.div
  rw [read_inf h1, read_fin h2]
  simp only [Datum.quotient]
  rw [map_some, write_inf]
theorem div_zero {x y : Nat} (h1 : rg x < 9218868437227405312) (h0 : rg x ≠ 0) (h2 : rg y = 0) : fdiv x y = double.word (sgn x ^^ sgn y) 9218868437227405312 := by
  unfold fdiv Format.div
  rw [read_fin h1, read_fin (by omega)]
  simp only [Datum.quotient]
  rw [if_pos (zero_mg h2), if_neg (fun e => h0 (mg_zero.1 e)), map_some, write_inf]
theorem div_by_inf {x y : Nat} (h1 : rg x < 9218868437227405312) (h2 : rg y = 9218868437227405312) : fdiv x y = double.word (sgn x ^^ sgn y) 0 := by
  unfold fdiv Format.div
  rw [read_fin h1, read_inf h2]
  simp only [Datum.quotient]
  rw [map_some, write_number, rungOf_zero]
theorem frac52 : double.fractionBits = 52 := rfl
/-- a quotient of numbers is the nearest to the fraction -/
theorem div_fin {x y : Nat} (h1 : rg x < 9218868437227405312) (h2 : rg y < 9218868437227405312) (h0 : rg y ≠ 0) :
    ∃ r : Nat, fdiv x y = double.word (sgn x ^^ sgn y) r ∧ (mg x = 0 → r = 0) ∧ (mg x ≠ 0 → Near (mg x) (mg y) (pl x - pl y) r) := by
  have hy : mg y ≠ 0 := fun e => h0 (mg_zero.1 e)
  unfold fdiv Format.div
  rw [read_fin h1, read_fin h2, frac52]
  simp only [Datum.quotient]
  rw [if_neg hy, map_some, write_number]
  refine ⟨_, rfl, fun hm => ?_, fun hm => ?_⟩
  · rw [hm, Nat.zero_shiftLeft, Nat.zero_div, Nat.zero_mod]
    exact rungOf_zero _
  · simp only [Nat.shiftLeft_eq]
    have hq := quot_big hm hy
    exact near_sticky (Nat.pos_of_ne_zero hy) hq (near_rung _ _ (by omega))
end RI
end Go.Proofs.YtcchmnilcmnajaaGreatDoor
