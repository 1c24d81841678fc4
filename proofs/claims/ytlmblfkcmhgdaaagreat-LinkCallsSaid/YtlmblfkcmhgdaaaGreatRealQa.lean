/-
  The plain arithmetic of numbers of 64 bits with a point: rounding a fraction to the nearest rung; the operations, the order, the edges and whole numbers by sign and rung. No condition. It speaks of no program.
  What package real's functions answer, each a contract: Canon, Do, Compare, Neg, OfInt, ToInt and what they call. Conditions: bits lie from 0 to below 2^64, words below 2^32.
  What package real's functions answer, each a contract, the second part: Neg, OfInt, ToInt and what they call. Conditions: bits lie from 0 to below 2^64, words below 2^32.
-/
import Ieee.Arith
import Derived.Test.YtlmblfkcmhgdaaaGreatRows
import Derived.ProofKit
import Derived.OpenShut
import Derived.WalkKit
import Derived.WalkLawsBesides
import Derived.WalkSpells
import Derived.Laws.FloatArith
import Derived.Laws.Externs
import Derived.Laws.NewFold
import Derived.Deep.Draws
import Derived.Outline
import Derived.Lib.Hide
import Derived.Laws.BitsAllLaws
import Derived.IntWalk
namespace Go.Proofs.YtlmblfkcmhgdaaaGreat
set_option linter.unusedVariables false
open Ieee
namespace RM

/-! ### Rounding a fraction half to even -/
def up1 (x y : Nat) : Bool := decide (y < 2 * (x % y)) || (decide (y = 2 * (x % y)) && decide (x / y % 2 = 1))
def rnd (x y : Nat) : Nat := x / y + (up1 x y).toNat

theorem log2_lt (n : Nat) : n < 2 ^ (n.log2 + 1) := Nat.lt_log2_self
theorem cut_even (neg : Bool) (n drop : Nat) : Toward.even.cut neg n drop = rnd n (2 ^ drop) := by
  unfold Toward.cut
  dsimp only
  by_cases h : drop ≤ n.log2 + 2
  · rw [Nat.min_eq_left h, Nat.shiftLeft_eq, Nat.one_mul]
    unfold rnd up1
    congr 2
  · have h' : n.log2 + 2 ≤ drop := by omega
    rw [Nat.min_eq_right h', Nat.shiftLeft_eq, Nat.one_mul]
    have hn := log2_lt n
    have e : 2 ^ (n.log2 + 2) = 2 * 2 ^ (n.log2 + 1) := by rw [Nat.pow_succ, Nat.mul_comm]
    have hp : 2 ^ (n.log2 + 2) ≤ 2 ^ drop := Nat.pow_le_pow_right (by omega) h'
    unfold rnd up1
    rw [Nat.div_eq_of_lt (show n < 2 ^ (n.log2 + 2) by omega), Nat.mod_eq_of_lt (show n < 2 ^ (n.log2 + 2) by omega), Nat.div_eq_of_lt (show n < 2 ^ drop by omega), Nat.mod_eq_of_lt (show n < 2 ^ drop by omega)]
    have d1 : decide (2 ^ (n.log2 + 2) < 2 * n) = false := decide_eq_false (by omega)
    have d2 : decide (2 ^ drop < 2 * n) = false := decide_eq_false (by omega)
    rw [d1, d2]
    simp

/-! ### The rung nearest to (a / b) * 2 ^ e -/
def infR : Nat := 9218868437227405312
/-- 'r' is the rung nearest to the fraction a / b times 2 to the e: told by some scale (k doublings of a, N of b) at which the whole part has 53 bits, or the last bit stands at the least place. -/
def Near (a b : Nat) (e : Int) (r : Nat) : Prop :=
  ∃ k N : Nat, -1074 ≤ e - k + N ∧ a * 2 ^ k / (b * 2 ^ N) < 9007199254740992 ∧ (4503599627370496 ≤ a * 2 ^ k / (b * 2 ^ N) ∨ e - k + N = -1074) ∧
    r = min ((e - k + N + 1074).toNat * 4503599627370496 + rnd (a * 2 ^ k) (b * 2 ^ N)) infR

theorem Near.scale {a b : Nat} {e : Int} {r : Nat} {c : Nat} (h : Near (a * 2 ^ c) b e r) : Near a b (e + c) r := by
  obtain ⟨k, N, l, q, g, rfl⟩ := h
  rw [Nat.mul_assoc, ← Nat.pow_add] at q g ⊢
  refine ⟨c + k, N, ?_, q, ?_, ?_⟩
  · omega
  · omega
  · rw [show e + c - (c + k : Nat) + N = e - k + N by omega]

/-- The rung that Ieee's nearest writes. -/
def rungOf (mag : Nat) (place : Int) : Nat :=
  if mag = 0 then 0 else
  let last := max (place + mag.log2 - 52) (-1074)
  min ((last + 1074).toNat * 4503599627370496 + rnd (mag * 2 ^ (place - last).toNat) (2 ^ (last - place).toNat)) infR

theorem nearest_eq (neg : Bool) (mag : Nat) (place : Int) : double.nearest neg mag place = double.word neg (rungOf mag place) := by
  unfold Format.nearest rungOf
  by_cases h : mag = 0
  · rw [if_pos h, if_pos h]
  · rw [if_neg h, if_neg h]
    have h1 : double.leastPlace = -1074 := by decide
    have h2 : ((double.fractionBits : Nat) : Int) = 52 := rfl
    have h3 : double.binade = 4503599627370496 := by decide
    have h4 : double.infRung = infR := by decide
    simp only [h1, h2, h3, h4, cut_even, Nat.shiftLeft_eq]
    rw [show ∀ x : Int, x - -1074 = x + 1074 from fun x => by omega]

theorem div_pow_lt {m k l : Nat} (h : m < 2 ^ (l + k)) : m / 2 ^ k < 2 ^ l := by
  rw [Nat.pow_add] at h; exact Nat.div_lt_of_lt_mul (by rw [Nat.mul_comm]; exact h)
theorem pow_mono {a b : Nat} (h : a ≤ b) : 2 ^ a ≤ 2 ^ b := Nat.pow_le_pow_right (by omega) h

/-! ### A quotient with one bit for what is left over -/
def two52 : Nat := 4503599627370496
def two63 : Nat := 9223372036854775808
def NaN : Nat := 9221120237041090560
def sgn (w : Nat) : Bool := w / 9223372036854775808 % 2 == 1
def rg (w : Nat) : Nat := w % 9223372036854775808
def isNan (w : Nat) : Bool := decide (9218868437227405312 < rg w)
def isInf (w : Nat) : Bool := decide (rg w = 9218868437227405312)
def mg (w : Nat) : Nat := if rg w < 4503599627370496 then rg w else 4503599627370496 + rg w % 4503599627370496
def pl (w : Nat) : Int := if rg w < 4503599627370496 then -1074 else -1074 + (rg w / 4503599627370496 - 1 : Nat)
def canon (w : Nat) : Nat := if isNan w then NaN else w
def W (w : Nat) : Prop := w < 18446744073709551616

theorem word_false (r : Nat) : double.word false r = r := rfl
theorem word_true (r : Nat) : double.word true r = 9223372036854775808 + r := rfl
theorem rg_lt (w : Nat) : rg w < 9223372036854775808 := Nat.mod_lt _ (by omega)
theorem rg_word (s : Bool) {r : Nat} (h : r < 9223372036854775808) : rg (double.word s r) = r := by
  cases s
  · rw [word_false]; unfold rg; omega
  · rw [word_true]; unfold rg; omega
theorem W_word (s : Bool) {r : Nat} (h : r < 9223372036854775808) : W (double.word s r) := by
  unfold W
  cases s
  · rw [word_false]; omega
  · rw [word_true]; omega

theorem read_eq (w : Nat) : double.read w =
    if rg w < 4503599627370496 then .number (sgn w) (rg w) (-1074)
    else if rg w < 9218868437227405312 then .number (sgn w) (4503599627370496 + rg w % 4503599627370496) (-1074 + (rg w / 4503599627370496 - 1 : Nat))
    else if rg w = 9218868437227405312 then .infinity (sgn w) else .nan (sgn w) (rg w - 9218868437227405312) := by
  have h0 : double.signWeight = 9223372036854775808 := by decide
  have h1 : double.leastPlace = -1074 := by decide
  have h3 : double.binade = 4503599627370496 := by decide
  have h4 : double.infRung = 9218868437227405312 := by decide
  unfold Format.read
  simp only [h0, h1, h3, h4]
  rfl
theorem read_fin {w : Nat} (h : rg w < 9218868437227405312) : double.read w = .number (sgn w) (mg w) (pl w) := by
  rw [read_eq]
  unfold mg pl
  by_cases c : rg w < 4503599627370496
  · rw [if_pos c, if_pos c, if_pos c]
  · rw [if_neg c, if_neg c, if_neg c, if_pos h]
theorem read_inf {w : Nat} (h : rg w = 9218868437227405312) : double.read w = .infinity (sgn w) := by
  rw [read_eq, if_neg (by omega), if_neg (by omega), if_pos h]
theorem read_nan {w : Nat} (h : 9218868437227405312 < rg w) : ∃ t, double.read w = .nan (sgn w) t := by
  rw [read_eq, if_neg (by omega), if_neg (by omega), if_neg (by omega)]
  exact ⟨_, rfl⟩
theorem isNan_iff (w : Nat) : isNan w = true ↔ 9218868437227405312 < rg w := by simp [isNan]
theorem isNan_no (w : Nat) : isNan w = false ↔ rg w ≤ 9218868437227405312 := by simp [isNan]

/-- A finite word's parts. -/
theorem mg_lt (w : Nat) : mg w < 9007199254740992 := by
  unfold mg; split
  · omega
  · have := Nat.mod_lt (rg w) (show 0 < 4503599627370496 by omega); omega
theorem pl_ge (w : Nat) : -1074 ≤ pl w := by unfold pl; split <;> omega
theorem mg_zero {w : Nat} : mg w = 0 ↔ rg w = 0 := by
  unfold mg; split <;> constructor <;> intro h <;> omega

theorem rungOf_le (m : Nat) (e : Int) : rungOf m e ≤ 9218868437227405312 := by
  unfold rungOf
  split
  · omega
  · exact Nat.min_le_right _ _
theorem rungOf_lt (m : Nat) (e : Int) : rungOf m e < 9223372036854775808 := by have := rungOf_le m e; omega

theorem write_number (s : Bool) (m : Nat) (e : Int) : double.write (.number s m e) = double.word s (rungOf m e) := nearest_eq s m e
theorem write_inf (s : Bool) : double.write (.infinity s) = double.word s 9218868437227405312 := by
  have h4 : double.infRung = 9218868437227405312 := by decide
  show double.word s double.infRung = _
  rw [h4]

/-! ### The operations -/
def fadd (x y : Nat) : Nat := (double.add x y).getD NaN
def fsub (x y : Nat) : Nat := (double.sub x y).getD NaN
def fmul (x y : Nat) : Nat := (double.mul x y).getD NaN
def fdiv (x y : Nat) : Nat := (double.div x y).getD NaN
/-- the other sign -/
def fneg (w : Nat) : Nat := if isNan w then NaN else double.word (!sgn w) (rg w)

/-- a rung with its sign, as a whole number -/
def tot (s : Bool) (m : Nat) (e b : Int) : Int := Ieee.signed s m (e - b).toNat

inductive Kind (w : Nat) : Prop
  | fin (h : rg w < 9218868437227405312) (hn : isNan w = false) (hr : double.read w = .number (sgn w) (mg w) (pl w)) : Kind w
  | inf (h : rg w = 9218868437227405312) (hn : isNan w = false) (hr : double.read w = .infinity (sgn w)) : Kind w
  | nan (h : 9218868437227405312 < rg w) (hn : isNan w = true) (t : Nat) (hr : double.read w = .nan (sgn w) t) : Kind w
theorem kind (w : Nat) : Kind w := by
  rcases Nat.lt_trichotomy (rg w) 9218868437227405312 with h | h | h
  · exact .fin h ((isNan_no w).2 (by omega)) (read_fin h)
  · exact .inf h ((isNan_no w).2 (by omega)) (read_inf h)
  · obtain ⟨t, ht⟩ := read_nan h
    exact .nan h ((isNan_iff w).2 h) t ht

theorem add_comm' (x y : Nat) : double.add x y = double.add y x := by
  unfold Format.add
  congr 1
  rcases kind x with ⟨_, _, hx⟩ | ⟨_, _, hx⟩ | ⟨_, _, t, hx⟩ <;> rcases kind y with ⟨_, _, hy⟩ | ⟨_, _, hy⟩ | ⟨_, _, u, hy⟩ <;> rw [hx, hy] <;> simp only [Datum.sum]
  · rw [Int.min_comm, Int.add_comm, Bool.and_comm]
  · by_cases h : sgn x = sgn y
    · rw [if_pos h, if_pos h.symm, h]
    · rw [if_neg h, if_neg (fun e => h e.symm)]
theorem mul_comm' (x y : Nat) : double.mul x y = double.mul y x := by
  unfold Format.mul
  congr 1
  rcases kind x with ⟨_, _, hx⟩ | ⟨_, _, hx⟩ | ⟨_, _, t, hx⟩ <;> rcases kind y with ⟨_, _, hy⟩ | ⟨_, _, hy⟩ | ⟨_, _, u, hy⟩ <;> rw [hx, hy] <;> simp only [Datum.product]
  · rw [Bool.xor_comm, Nat.mul_comm, Int.add_comm]
  · rw [Bool.xor_comm]

theorem sum_nan_r (d : Datum) (s : Bool) (t : Nat) : d.sum (.nan s t) = none := by cases d <;> rfl
theorem sum_nan_l (d : Datum) (s : Bool) (t : Nat) : (Datum.nan s t).sum d = none := by cases d <;> rfl
theorem prod_nan_r (d : Datum) (s : Bool) (t : Nat) : d.product (.nan s t) = none := by cases d <;> rfl
theorem prod_nan_l (d : Datum) (s : Bool) (t : Nat) : (Datum.nan s t).product d = none := by cases d <;> rfl
theorem quo_nan_r (k : Nat) (d : Datum) (s : Bool) (t : Nat) : Datum.quotient k d (.nan s t) = none := by cases d <;> rfl
theorem quo_nan_l (k : Nat) (d : Datum) (s : Bool) (t : Nat) : Datum.quotient k (.nan s t) d = none := by cases d <;> rfl

theorem nan_r {x y : Nat} (h : isNan y = true) : double.add x y = none ∧ double.sub x y = none ∧ double.mul x y = none ∧ double.div x y = none ∧ double.order x y = none := by
  obtain ⟨u, hu⟩ := read_nan ((isNan_iff y).1 h)
  unfold Format.add Format.sub Format.mul Format.div Format.order
  rw [hu]
  simp only [Datum.opposite, sum_nan_r, prod_nan_r, quo_nan_r, Option.map_none, true_and]
  cases double.read x <;> rfl
theorem nan_l {x y : Nat} (h : isNan x = true) : double.add x y = none ∧ double.sub x y = none ∧ double.mul x y = none ∧ double.div x y = none ∧ double.order x y = none := by
  obtain ⟨u, hu⟩ := read_nan ((isNan_iff x).1 h)
  unfold Format.add Format.sub Format.mul Format.div Format.order
  rw [hu]
  simp only [sum_nan_l, prod_nan_l, quo_nan_l, Option.map_none, true_and]
  cases double.read y <;> rfl

/-- What an operation answers is no other NaN. -/
def Clean (o : Option Nat) : Prop := ∀ r, o = some r → W r ∧ isNan r = false
theorem clean_write {o : Option Datum} (h : ∀ d, o = some d → d.isNaN = false) : Clean (o.map double.write) := by
  intro r hr
  cases o with
  | none => cases hr
  | some d =>
    injection hr with hr
    subst hr
    have hd := h d rfl
    cases d with
    | number s m e =>
      rw [write_number]
      refine ⟨W_word s (rungOf_lt m e), (isNan_no _).2 ?_⟩
      rw [rg_word s (rungOf_lt m e)]
      exact rungOf_le m e
    | infinity s =>
      rw [write_inf]
      exact ⟨W_word s (by omega), (isNan_no _).2 (by rw [rg_word s (by omega)]; omega)⟩
    | nan s t => cases hd
theorem clean_add (x y : Nat) : Clean (double.add x y) := clean_write fun d h => by
  cases hx : double.read x <;> cases hy : double.read y <;> rw [hx, hy] at h <;> simp only [Datum.sum] at h <;> first | (cases h; done) | (split at h <;> first | (cases h; done) | (injection h with h; subst h; rfl)) | (injection h with h; subst h; rfl)
theorem clean_sub (x y : Nat) : Clean (double.sub x y) := clean_write fun d h => by
  cases hx : double.read x <;> cases hy : double.read y <;> rw [hx, hy] at h <;> simp only [Datum.sum, Datum.opposite] at h <;> first | (cases h; done) | (split at h <;> first | (cases h; done) | (injection h with h; subst h; rfl)) | (injection h with h; subst h; rfl)
theorem clean_mul (x y : Nat) : Clean (double.mul x y) := clean_write fun d h => by
  cases hx : double.read x <;> cases hy : double.read y <;> rw [hx, hy] at h <;> simp only [Datum.product] at h <;> first | (cases h; done) | (split at h <;> first | (cases h; done) | (injection h with h; subst h; rfl)) | (injection h with h; subst h; rfl)
theorem clean_div (x y : Nat) : Clean (double.div x y) := clean_write fun d h => by
  cases hx : double.read x <;> cases hy : double.read y <;> rw [hx, hy] at h <;> simp only [Datum.quotient] at h <;> first | (cases h; done) | (injection h with h; subst h; rfl) | (split at h <;> first | (cases h; done) | (injection h with h; subst h; rfl) | (split at h <;> first | (cases h; done) | (injection h with h; subst h; rfl)))

/-! ### The order -/
/-- sign and rung as one whole number -/
def key (w : Nat) : Int := if sgn w then -(rg w : Int) else rg w
/-- the size of a rung in units of the least place -/
def sz (w : Nat) : Nat := mg w * 2 ^ (pl w + 1074).toNat

theorem tot_pos (m : Nat) (e b : Int) : Ieee.signed false m (e - b).toNat = ((m * 2 ^ (e - b).toNat : Nat) : Int) := by
  unfold Ieee.signed; simp [Nat.shiftLeft_eq]
theorem tot_neg (m : Nat) (e b : Int) : Ieee.signed true m (e - b).toNat = -((m * 2 ^ (e - b).toNat : Nat) : Int) := by
  unfold Ieee.signed; simp [Nat.shiftLeft_eq]

theorem pow_split {e b : Int} (h1 : b ≤ e) (h2 : -1074 ≤ b) : 2 ^ (e + 1074).toNat = 2 ^ (e - b).toNat * 2 ^ (b + 1074).toNat := by
  rw [← Nat.pow_add]; congr 1; omega

/-- sizes grow with rungs -/
theorem sz_lt {x y : Nat} (h : rg x < rg y) : sz x < sz y := by
  unfold sz mg pl
  by_cases c1 : rg y < 4503599627370496
  · rw [if_pos c1, if_pos c1, if_pos (show rg x < 4503599627370496 by omega), if_pos (show rg x < 4503599627370496 by omega)]
    simpa using h
  · rw [if_neg c1, if_neg c1]
    have hy := Nat.div_add_mod (rg y) 4503599627370496
    have hy2 : 1 ≤ rg y / 4503599627370496 := by omega
    by_cases c2 : rg x < 4503599627370496
    · rw [if_pos c2, if_pos c2]
      have hp := Nat.two_pow_pos (-1074 + ((rg y / 4503599627370496 - 1 : Nat) : Int) + 1074).toNat
      generalize 2 ^ (-1074 + ((rg y / 4503599627370496 - 1 : Nat) : Int) + 1074).toNat = p at *
      have : 4503599627370496 + rg y % 4503599627370496 ≤ (4503599627370496 + rg y % 4503599627370496) * p := Nat.le_mul_of_pos_right _ hp
      simp
      omega
    · rw [if_neg c2, if_neg c2]
      have hx := Nat.div_add_mod (rg x) 4503599627370496
      have hx2 : 1 ≤ rg x / 4503599627370496 := by omega
      have mx := Nat.mod_lt (rg x) (show 0 < 4503599627370496 by omega)
      have my := Nat.mod_lt (rg y) (show 0 < 4503599627370496 by omega)
      rw [show (-1074 + ((rg x / 4503599627370496 - 1 : Nat) : Int) + 1074).toNat = rg x / 4503599627370496 - 1 by omega,
        show (-1074 + ((rg y / 4503599627370496 - 1 : Nat) : Int) + 1074).toNat = rg y / 4503599627370496 - 1 by omega]
      rcases Nat.lt_trichotomy (rg x / 4503599627370496) (rg y / 4503599627370496) with q | q | q
      · obtain ⟨d, hd⟩ : ∃ d, rg y / 4503599627370496 - 1 = (rg x / 4503599627370496 - 1) + (d + 1) := ⟨rg y / 4503599627370496 - rg x / 4503599627370496 - 1, by omega⟩
        rw [hd, Nat.pow_add, Nat.pow_succ]
        have hp := Nat.two_pow_pos d
        have hp2 := Nat.two_pow_pos (rg x / 4503599627370496 - 1)
        generalize 2 ^ (rg x / 4503599627370496 - 1) = u at *
        generalize 2 ^ d = v at *
        have h3 : (4503599627370496 + rg x % 4503599627370496) * u < 9007199254740992 * u := (Nat.mul_lt_mul_right hp2).mpr (by omega)
        have h4 : 9007199254740992 * u ≤ (4503599627370496 + rg y % 4503599627370496) * (u * (v * 2)) := by
          have e1 : 9007199254740992 * u = 4503599627370496 * (u * (1 * 2)) := by omega
          rw [e1]
          exact Nat.mul_le_mul (by omega) (Nat.mul_le_mul_left _ (Nat.mul_le_mul_right _ hp))
        omega
      · rw [q]
        exact (Nat.mul_lt_mul_right (Nat.two_pow_pos _)).mpr (by omega)
      · omega
theorem sz_iff {x y : Nat} : sz x < sz y ↔ rg x < rg y := by
  constructor
  · intro h
    rcases Nat.lt_trichotomy (rg x) (rg y) with c | c | c
    · exact c
    · exfalso
      have : sz x = sz y := by unfold sz mg pl; rw [c]
      omega
    · have := sz_lt c; omega
  · exact sz_lt
theorem sz_eq {x y : Nat} : sz x = sz y ↔ rg x = rg y := by
  constructor
  · intro h
    rcases Nat.lt_trichotomy (rg x) (rg y) with c | c | c
    · have := sz_lt c; omega
    · exact c
    · have := sz_lt c; omega
  · intro h; unfold sz mg pl; rw [h]

theorem cmp_int {a b c d : Int} (h1 : a < b ↔ c < d) (h2 : a = b ↔ c = d) : compare a b = compare c d := by
  simp only [compare, compareOfLessAndEq, h1, h2]

theorem mul_lt_iff {a b p : Nat} (hp : 0 < p) : a * p < b * p ↔ a < b := Nat.mul_lt_mul_right hp
theorem mul_eq_iff {a b p : Nat} (hp : 0 < p) : a * p = b * p ↔ a = b := ⟨fun h => Nat.eq_of_mul_eq_mul_right hp h, fun h => by rw [h]⟩

theorem mul_pow_zero (a k : Nat) : a * 2 ^ k = 0 ↔ a = 0 := by
  rw [Nat.mul_eq_zero]
  exact ⟨fun h => h.resolve_right (Nat.ne_of_gt (Nat.two_pow_pos k)), .inl⟩
theorem order_fin {x y : Nat} (hx : rg x < 9218868437227405312) (hy : rg y < 9218868437227405312) : double.order x y = some (compare (key x) (key y)) := by
  unfold Format.order
  rw [read_fin hx, read_fin hy]
  simp only [Datum.order]
  congr 1
  have hb1 : min (pl x) (pl y) ≤ pl x := Int.min_le_left _ _
  have hb2 : min (pl x) (pl y) ≤ pl y := Int.min_le_right _ _
  have hb3 : -1074 ≤ min (pl x) (pl y) := by have := pl_ge x; have := pl_ge y; omega
  generalize min (pl x) (pl y) = b at *
  have ex : sz x = mg x * 2 ^ (pl x - b).toNat * 2 ^ (b + 1074).toNat := by unfold sz; rw [pow_split hb1 hb3, Nat.mul_assoc]
  have ey : sz y = mg y * 2 ^ (pl y - b).toNat * 2 ^ (b + 1074).toNat := by unfold sz; rw [pow_split hb2 hb3, Nat.mul_assoc]
  have l1 := sz_iff (x := x) (y := y)
  have l2 := sz_iff (x := y) (y := x)
  have l3 := sz_eq (x := x) (y := y)
  have z1 : sz x = 0 ↔ rg x = 0 := by rw [← mg_zero]; unfold sz; exact mul_pow_zero _ _
  have z2 : sz y = 0 ↔ rg y = 0 := by rw [← mg_zero]; unfold sz; exact mul_pow_zero _ _
  rw [ex, ey] at l1 l2 l3
  rw [ex] at z1
  rw [ey] at z2
  rw [mul_lt_iff (Nat.two_pow_pos _)] at l1 l2
  rw [mul_eq_iff (Nat.two_pow_pos _)] at l3
  have p0 : ∀ a : Nat, a * 2 ^ (b + 1074).toNat = 0 ↔ a = 0 := fun a => mul_pow_zero a _
  rw [p0] at z1 z2
  unfold key
  cases sgn x <;> cases sgn y <;> simp only [tot_pos, tot_neg, Bool.false_eq_true, if_true, if_false] <;>
    (generalize mg x * 2 ^ (pl x - b).toNat = u at *; generalize mg y * 2 ^ (pl y - b).toNat = v at *; apply cmp_int <;> omega)

theorem order_eq {x y : Nat} (hx : isNan x = false) (hy : isNan y = false) : double.order x y = some (compare (key x) (key y)) := by
  have open_ : ∀ {d e : Datum} {o : Ordering}, double.read x = d → double.read y = e → d.order e = some o → compare (key x) (key y) = o → double.order x y = some (compare (key x) (key y)) := by
    intro d e o h1 h2 h3 h4
    unfold Format.order
    rw [h1, h2, h3, h4]
  rcases kind x with ⟨a, _, rx⟩ | ⟨a, _, rx⟩ | ⟨_, n, _⟩
  · rcases kind y with ⟨b, _, ry⟩ | ⟨b, _, ry⟩ | ⟨_, n, _⟩
    · exact order_fin a b
    · refine open_ rx ry rfl ?_
      unfold key
      rw [b]
      cases sgn x <;> cases sgn y <;> simp only [Bool.false_eq_true, if_true, if_false] <;> first | (apply Int.compare_eq_gt.2; omega) | (apply Int.compare_eq_lt.2; omega)
    · rw [n] at hy; cases hy
  · rcases kind y with ⟨b, _, ry⟩ | ⟨b, _, ry⟩ | ⟨_, n, _⟩
    · refine open_ rx ry rfl ?_
      unfold key
      rw [a]
      cases sgn x <;> cases sgn y <;> simp only [Bool.false_eq_true, if_true, if_false] <;> first | (apply Int.compare_eq_gt.2; omega) | (apply Int.compare_eq_lt.2; omega)
    · refine open_ rx ry rfl ?_
      unfold key
      rw [a, b]
      cases sgn x <;> cases sgn y <;> rfl
    · rw [n] at hy; cases hy
  · rw [n] at hx; cases hx

def feq (x y : Nat) : Bool := double.order x y == some .eq
def flt (x y : Nat) : Bool := double.order x y == some .lt
def fle (x y : Nat) : Bool := double.order x y == some .lt || double.order x y == some .eq

theorem cmp_lt (a b : Int) : (some (compare a b) == some Ordering.lt) = decide (a < b) := by
  rcases Int.lt_trichotomy a b with h | h | h
  · rw [Int.compare_eq_lt.2 h, decide_eq_true h]; rfl
  · subst h; rw [Int.compare_eq_eq.2 rfl, decide_eq_false (by omega)]; rfl
  · rw [Int.compare_eq_gt.2 h, decide_eq_false (by omega)]; rfl
theorem cmp_eq (a b : Int) : (some (compare a b) == some Ordering.eq) = decide (a = b) := by
  rcases Int.lt_trichotomy a b with h | h | h
  · rw [Int.compare_eq_lt.2 h, decide_eq_false (by omega)]; rfl
  · subst h; rw [Int.compare_eq_eq.2 rfl, decide_eq_true rfl]; rfl
  · rw [Int.compare_eq_gt.2 h, decide_eq_false (by omega)]; rfl
theorem cmp_gt (a b : Int) : (some (compare a b) == some Ordering.gt) = decide (b < a) := by
  rcases Int.lt_trichotomy a b with h | h | h
  · rw [Int.compare_eq_lt.2 h, decide_eq_false (by omega)]; rfl
  · subst h; rw [Int.compare_eq_eq.2 rfl, decide_eq_false (by omega)]; rfl
  · rw [Int.compare_eq_gt.2 h, decide_eq_true h]; rfl

theorem flt_eq {x y : Nat} (hx : isNan x = false) (hy : isNan y = false) : flt x y = decide (key x < key y) := by
  unfold flt; rw [order_eq hx hy, cmp_lt]
theorem feq_eq {x y : Nat} (hx : isNan x = false) (hy : isNan y = false) : feq x y = decide (key x = key y) := by
  unfold feq; rw [order_eq hx hy, cmp_eq]
theorem fle_eq {x y : Nat} (hx : isNan x = false) (hy : isNan y = false) : fle x y = decide (key x ≤ key y) := by
  unfold fle; rw [order_eq hx hy, cmp_lt, cmp_eq, ← Bool.decide_or, decide_eq_decide]; omega
theorem fcmp_nan_l {x y : Nat} (h : isNan x = true) : flt x y = false ∧ feq x y = false ∧ fle x y = false := by
  unfold flt feq fle; rw [(nan_l h).2.2.2.2]; exact ⟨rfl, rfl, rfl⟩
theorem fcmp_nan_r {x y : Nat} (h : isNan y = true) : flt x y = false ∧ feq x y = false ∧ fle x y = false := by
  unfold flt feq fle; rw [(nan_r h).2.2.2.2]; exact ⟨rfl, rfl, rfl⟩
/-- 'x != x' -/
theorem ne_self (x : Nat) : (double.order x x != some .eq) = isNan x := by
  show (!feq x x) = _
  cases h : isNan x
  · rw [feq_eq h h]; simp
  · rw [(fcmp_nan_l h).2.1]; rfl
/-! ### the edges -/
theorem W_NaN : W NaN := by unfold W NaN; omega
theorem W_canon {x : Nat} (h : W x) : W (canon x) := by
  unfold canon; split
  · exact W_NaN
  · exact h
theorem map_some (d : Datum) : (Option.map double.write (some d)).getD NaN = double.write d := rfl
def minusZero : Nat := 9223372036854775808
def one_ : Nat := 4607182418800017408
/-! ### the order, turned signs -/
theorem W_fneg (x : Nat) : W (fneg x) := by
  unfold fneg; split
  · exact W_NaN
  · exact W_word _ (rg_lt x)
theorem three (a b : Nat) : (flt a b).toNat + (flt b a).toNat + (feq a b).toNat = if isNan a || isNan b then 0 else 1 := by
  cases ha : isNan a
  · cases hb : isNan b
    · rw [flt_eq ha hb, flt_eq hb ha, feq_eq ha hb]
      rcases Int.lt_trichotomy (key a) (key b) with h | h | h
      · rw [decide_eq_true h, decide_eq_false (by omega), decide_eq_false (by omega)]; rfl
      · rw [decide_eq_false (by omega), decide_eq_false (by omega), decide_eq_true h]; rfl
      · rw [decide_eq_false (by omega), decide_eq_true h, decide_eq_false (by omega)]; rfl
    · rw [(fcmp_nan_r hb).1, (fcmp_nan_l hb).1, (fcmp_nan_r hb).2.1]; rfl
  · rw [(fcmp_nan_l ha).1, (fcmp_nan_r ha).1, (fcmp_nan_l ha).2.1]; rfl

/-! ### products and turned signs -/
/-- the size of 1 in units of the least place -/
def pw (k : Nat) : Nat := 2 ^ k
def unit_ : Nat := pw 1074
/-- 'float64(n)' -/
def ofInt (n : Int) : Nat := double.word (decide (n < 0)) (rungOf n.natAbs 0)
/-- a finite real cut towards 0, without its sign -/
def whole (w : Nat) : Nat := mg w * 2 ^ (pl w).toNat / 2 ^ (-pl w).toNat
/-! ### sums of whole numbers from 0 on -/
def greatest_ : Nat := 4746794007244308480
def least_ : Nat := 13970166044103278592
def fge (x y : Nat) : Bool := double.order x y == some .gt || double.order x y == some .eq
theorem fge_eq {x y : Nat} (hx : isNan x = false) (hy : isNan y = false) : fge x y = decide (key y ≤ key x) := by
  unfold fge; rw [order_eq hx hy, cmp_gt, cmp_eq, ← Bool.decide_or, decide_eq_decide]; omega
def signedWhole (w : Nat) : Int := if sgn w then -(whole w : Int) else whole w
/-- the word of a real, as ToInt answers it -/
def toWord (a : Nat) : Int :=
  if isNan a then 2147483647 else if fge a greatest_ then 2147483647 else if fle a least_ then 2147483648 else signedWhole a % 4294967296

theorem key_greatest : key greatest_ = 4746794007244308480 := by decide
theorem key_least : key least_ = -4746794007248502784 := by decide
theorem nn_greatest : isNan greatest_ = false := by decide
theorem nn_least : isNan least_ = false := by decide

theorem whole_lt {w : Nat} (h : rg w < 4746794007248502784) : whole w < 2147483648 := by
  have hm := mg_lt w
  have hp : pl w ≤ -22 := by unfold pl; split <;> omega
  unfold whole
  rw [show (pl w).toNat = 0 by omega, Nat.pow_zero, Nat.mul_one]
  have h2 : 2 ^ (31 + (-pl w).toNat) ≥ 2 ^ 53 := pow_mono (by omega)
  exact div_pow_lt (l := 31) (by omega)
/-- within the ends -/
theorem within {a : Nat} (hn : isNan a = false) (h1 : fge a greatest_ = false) (h2 : fle a least_ = false) :
    rg a < 9218868437227405312 ∧ -2147483648 < signedWhole a ∧ signedWhole a < 2147483648 := by
  rw [fge_eq hn nn_greatest, key_greatest, decide_eq_false_iff_not] at h1
  rw [fle_eq hn nn_least, key_least, decide_eq_false_iff_not] at h2
  have hr : rg a < 4746794007248502784 := by
    unfold key at h1 h2
    cases hs : sgn a <;> rw [hs] at h1 h2 <;> simp only [Bool.false_eq_true, if_false, if_true] at h1 h2 <;> omega
  have hw := whole_lt hr
  refine ⟨by omega, ?_, ?_⟩ <;> unfold signedWhole <;> split <;> omega

end RM
end Go.Proofs.YtlmblfkcmhgdaaaGreat
namespace Go.Proofs.YtlmblfkcmhgdaaaGreat
open Go.RowKit
set_option linter.unusedVariables false
namespace RC
open RM
theorem ret_int {k : IntKind} {a b : Int} (h : a = b) : Ending.returned (.int k a) = .returned (.int k b) := by rw [h]
theorem ret_pair {k : IntKind} {a b : Int} {v : Value} (h : a = b) : Ending.returned (.tuple #[.int k a, v]) = .returned (.tuple #[.int k b, v]) := by rw [h]

/-! ### bits and floats, the entries -/
theorem run_from (a : Int) (w : World) : (callFunc 170 #[.int .u64 a]).run Tryz.prog w = .ok (.value (.float .f64 a.toNat)) w := by
  rw [run_callFunc_extern Tryz.func170 (by kernel_rfl) (by kernel_rfl) (by kernel_rfl) (e := Extern.MathFloatBits.float64frombits) (by kernel_rfl)]
  rfl
theorem run_bits (a : Nat) (w : World) : (callFunc 169 #[.float .f64 a]).run Tryz.prog w = .ok (.value (.int .u64 a)) w := by
  rw [run_callFunc_extern Tryz.func169 (by kernel_rfl) (by kernel_rfl) (by kernel_rfl) (e := Extern.MathFloatBits.float64bits) (by kernel_rfl)]
  rfl
attribute [local go_sem] run_from run_bits

/-! ### operations that have no answer ask for a NaN's bits -/
def fop (op : BinOp) (x y : Nat) : Nat := (floatBits op .f64 x y).getD NaN
def isArith (op : BinOp) : Bool := match op with | .add | .sub | .mul | .quo => true | _ => false
theorem number (a : Nat) (w : World) : Calls Tryz.prog 151 #[.int .u64 (a : Int)] w fun e w' => e = .returned (.float .f64 a) ∧ w' = w := by
  go_enter Tryz.func151, Tryz.ntmps151
  go_wp2
  go_ret
  exact ⟨rfl, rfl⟩
theorem isNaN (b : Nat) (w : World) : Calls Tryz.prog 154 #[.float .f64 b] w fun e w' => e = .returned (.bool (isNan b)) ∧ w' = w := by
  go_enter Tryz.func154, Tryz.ntmps154
  go_wp2
  go_ret
  exact ⟨congrArg (fun z => Ending.returned (.bool z)) (ne_self b), rfl⟩
/-! ### Do -/
def isOp (op : Int) : Bool := decide (45 ≤ op ∧ op ≤ 48)
theorem do_no (op : Int) (x y : Nat) (w : World) (h : isOp op = false) : Calls Tryz.prog 136 #[.int .i64 op, .int .u64 (x : Int), .int .u64 (y : Int)] w fun e w' => e = .returned (.tuple #[.int .u64 0, .int .i64 1]) ∧ w' = w := by
  have h' : ¬ (45 ≤ op ∧ op ≤ 48) := by simpa [isOp] using h
  have h1 : (op == 45) = false := by rw [beq_eq_false_iff_ne]; omega
  have h2 : (op == 46) = false := by rw [beq_eq_false_iff_ne]; omega
  have h3 : (op == 47) = false := by rw [beq_eq_false_iff_ne]; omega
  have h4 : (op == 48) = false := by rw [beq_eq_false_iff_ne]; omega
  clear h h'
  go_enter Tryz.func136, Tryz.ntmps136
  go_wp2_with (go_at_call 151; refine (number _ _).mono ?_; rintro e w' ⟨rfl, rfl⟩)
  go_ret2
  exact ⟨rfl, rfl⟩

/-! ### Compare -/
theorem oneIf (b : Bool) (w : World) : Calls Tryz.prog 155 #[.bool b] w fun e w' => e = .returned (.int .u32 (b.toNat : Int)) ∧ w' = w := by
  cases b
  all_goals
    go_enter Tryz.func155, Tryz.ntmps155
    go_wp2
    go_ret
    exact ⟨rfl, rfl⟩
theorem cmp_eq (x y : Nat) (w : World) : Calls Tryz.prog 135 #[.int .i64 51, .int .u64 (x : Int), .int .u64 (y : Int)] w fun e w' => e = .returned (.tuple #[.int .u32 ((feq x y).toNat : Int), .int .i64 0]) ∧ w' = w := by
  go_enter Tryz.func135, Tryz.ntmps135
  go_wp2_with (first
    | (go_at_call 151; refine (number _ _).mono ?_; rintro e w' ⟨rfl, rfl⟩)
    | (go_at_call 155; refine (oneIf _ _).mono ?_; rintro e w' ⟨rfl, rfl⟩))
  go_ret2
  exact ⟨rfl, rfl⟩
theorem cmp_lt (x y : Nat) (w : World) : Calls Tryz.prog 135 #[.int .i64 52, .int .u64 (x : Int), .int .u64 (y : Int)] w fun e w' => e = .returned (.tuple #[.int .u32 ((flt x y).toNat : Int), .int .i64 0]) ∧ w' = w := by
  go_enter Tryz.func135, Tryz.ntmps135
  go_wp2_with (first
    | (go_at_call 151; refine (number _ _).mono ?_; rintro e w' ⟨rfl, rfl⟩)
    | (go_at_call 155; refine (oneIf _ _).mono ?_; rintro e w' ⟨rfl, rfl⟩))
  go_ret2
  exact ⟨rfl, rfl⟩
def isCmp (op : Int) : Bool := decide (51 ≤ op ∧ op ≤ 53)
end RC
end Go.Proofs.YtlmblfkcmhgdaaaGreat
namespace Go.Proofs.YtlmblfkcmhgdaaaGreat
open Go.RowKit
set_option linter.unusedVariables false
namespace RC
open RM
attribute [local go_sem] run_from run_bits

/-! ### words -/
theorem of_ (v : Int) (w : World) : Calls Tryz.prog 78 #[.int .i64 v] w fun e w' => e = .returned (.int .u32 (v % 4294967296)) ∧ w' = w := by
  go_enter Tryz.func78, Tryz.ntmps78
  go_wp2
  go_ret
  exact ⟨rfl, rfl⟩
theorem signed_ (a : Int) (w : World) : Calls Tryz.prog 130 #[.int .u32 a] w fun e w' => e = .returned (.int .i64 (wrap32 a)) ∧ w' = w := by
  have h := IntWalk.wrap64_in (wrap32 a) (by simp only [wrap32]; omega)
  go_enter Tryz.func130, Tryz.ntmps130
  go_wp2
  go_ret
  exact ⟨ret_int (by first | rfl | exact h), rfl⟩
end RC
end Go.Proofs.YtlmblfkcmhgdaaaGreat
