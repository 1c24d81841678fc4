/-
  The plain arithmetic of numbers of 64 bits with a point: rounding a fraction to the nearest rung; the operations, the order, the edges and whole numbers by sign and rung. No condition. It speaks of no program.
-/
import Ieee.Arith
namespace Go.Proofs.Ytieehjkmfmkfjab
set_option linter.unusedVariables false
open Ieee
namespace RM

/-! ### Rounding a fraction half to even -/
def up1 (x y : Nat) : Bool := decide (y < 2 * (x % y)) || (decide (y = 2 * (x % y)) && decide (x / y % 2 = 1))
def rnd (x y : Nat) : Nat := x / y + (up1 x y).toNat

theorem rnd_scale (x y c : Nat) (hc : 0 < c) : rnd (x * c) (y * c) = rnd x y := by
  unfold rnd up1
  rw [Nat.mul_div_mul_right _ _ hc, Nat.mul_mod_mul_right]
  have h1 : decide (y * c < 2 * (x % y * c)) = decide (y < 2 * (x % y)) := by
    rw [decide_eq_decide, ← Nat.mul_assoc]
    exact Nat.mul_lt_mul_right hc
  have h2 : decide (y * c = 2 * (x % y * c)) = decide (y = 2 * (x % y)) := by
    rw [decide_eq_decide, ← Nat.mul_assoc]
    exact ⟨fun h => Nat.eq_of_mul_eq_mul_right hc h, fun h => congrArg (· * c) h⟩
  rw [h1, h2]

theorem rnd_one (x : Nat) : rnd x 1 = x := by
  unfold rnd up1
  simp [Nat.mod_one]

theorem up1_le (x y : Nat) : (up1 x y).toNat ≤ 1 := by cases up1 x y <;> simp

theorem log2_lt (n : Nat) : n < 2 ^ (n.log2 + 1) := Nat.lt_log2_self
theorem log2_ge (n : Nat) (h : n ≠ 0) : 2 ^ n.log2 ≤ n := Nat.log2_self_le h

theorem cut_even (neg : Bool) (n drop : Nat) : Toward.even.cut neg n drop = rnd n (2 ^ drop) := by
  unfold Toward.cut
  dsimp only
  by_cases h : drop ≤ n.log2 + 2
  · rw [Nat.min_eq_left h, Nat.shiftLeft_eq, Nat.one_mul]
    unfold rnd up1
    congr 2
  · have h' : n.log2 + 2 ≤ drop := by omega
    rw [Nat.min_eq_right h', Nat.shiftLeft_eq, Nat.one_mul]
    have hn := log2_lt n
    have e : 2 ^ (n.log2 + 2) = 2 * 2 ^ (n.log2 + 1) := by rw [Nat.pow_succ, Nat.mul_comm]
    have hp : 2 ^ (n.log2 + 2) ≤ 2 ^ drop := Nat.pow_le_pow_right (by omega) h'
    unfold rnd up1
    rw [Nat.div_eq_of_lt (show n < 2 ^ (n.log2 + 2) by omega), Nat.mod_eq_of_lt (show n < 2 ^ (n.log2 + 2) by omega), Nat.div_eq_of_lt (show n < 2 ^ drop by omega), Nat.mod_eq_of_lt (show n < 2 ^ drop by omega)]
    have d1 : decide (2 ^ (n.log2 + 2) < 2 * n) = false := decide_eq_false (by omega)
    have d2 : decide (2 ^ drop < 2 * n) = false := decide_eq_false (by omega)
    rw [d1, d2]
    simp

/-! ### The rung nearest to (a / b) * 2 ^ e -/
def infR : Nat := 9218868437227405312
/-- 'r' is the rung nearest to the fraction a / b times 2 to the e: told by some scale (k doublings of a, N of b) at which the whole part has 53 bits, or the last bit stands at the least place. -/
def Near (a b : Nat) (e : Int) (r : Nat) : Prop :=
  ∃ k N : Nat, -1074 ≤ e - k + N ∧ a * 2 ^ k / (b * 2 ^ N) < 9007199254740992 ∧ (4503599627370496 ≤ a * 2 ^ k / (b * 2 ^ N) ∨ e - k + N = -1074) ∧
    r = min ((e - k + N + 1074).toNat * 4503599627370496 + rnd (a * 2 ^ k) (b * 2 ^ N)) infR

theorem scale_div (a b k N c : Nat) : a * 2 ^ (k + c) / (b * 2 ^ (N + c)) = a * 2 ^ k / (b * 2 ^ N) := by
  rw [Nat.pow_add, Nat.pow_add, ← Nat.mul_assoc, ← Nat.mul_assoc, Nat.mul_div_mul_right _ _ (Nat.two_pow_pos c)]
theorem scale_rnd (a b k N c : Nat) : rnd (a * 2 ^ (k + c)) (b * 2 ^ (N + c)) = rnd (a * 2 ^ k) (b * 2 ^ N) := by
  rw [Nat.pow_add, Nat.pow_add, ← Nat.mul_assoc, ← Nat.mul_assoc, rnd_scale _ _ _ (Nat.two_pow_pos c)]

theorem div_double (x y : Nat) : 2 * (x / y) ≤ 2 * x / y := by
  rcases Nat.eq_zero_or_pos y with rfl | hy
  · simp
  · rw [Nat.le_div_iff_mul_le hy, Nat.mul_assoc]
    exact Nat.mul_le_mul_left 2 (Nat.div_mul_le_self x y)

theorem same_up (a b : Nat) (e : Int) (k k' N : Nat) (h1 : k < k') (l : -1074 ≤ e - k' + N) (q : 4503599627370496 ≤ a * 2 ^ k / (b * 2 ^ N) ∨ e - k + N = -1074) (q' : a * 2 ^ k' / (b * 2 ^ N) < 9007199254740992) : False := by
  have q1 : 4503599627370496 ≤ a * 2 ^ k / (b * 2 ^ N) := by omega
  have h2 := div_double (a * 2 ^ k) (b * 2 ^ N)
  have h3 : 2 * (a * 2 ^ k) = a * 2 ^ (k + 1) := by rw [Nat.pow_succ]; ac_rfl
  have h4 : a * 2 ^ (k + 1) ≤ a * 2 ^ k' := Nat.mul_le_mul_left a (Nat.pow_le_pow_right (by omega) h1)
  have h5 : a * 2 ^ (k + 1) / (b * 2 ^ N) ≤ a * 2 ^ k' / (b * 2 ^ N) := Nat.div_le_div_right h4
  rw [h3] at h2
  omega

theorem Near.uniq {a b : Nat} {e : Int} {r r' : Nat} (h : Near a b e r) (h' : Near a b e r') : r = r' := by
  obtain ⟨k, N, l, q, g, rfl⟩ := h
  obtain ⟨k', N', l', q', g', rfl⟩ := h'
  have key : (k + N' : Nat) = k' + N := by
    rw [← scale_div a b k N N'] at q g
    rw [← scale_div a b k' N' N] at q' g'
    rw [Nat.add_comm N' N] at q' g'
    rcases Nat.lt_trichotomy (k + N') (k' + N) with h | h | h
    · exact (same_up a b (e) (k + N') (k' + N) (N + N') h (by omega) (by omega) q').elim
    · exact h
    · exact (same_up a b (e) (k' + N) (k + N') (N + N') h (by omega) (by omega) q).elim
  rw [← scale_rnd a b k N N', ← scale_rnd a b k' N' N, key, Nat.add_comm N' N, show e - k + N = e - k' + N' by omega]

theorem Near.scale {a b : Nat} {e : Int} {r : Nat} {c : Nat} (h : Near (a * 2 ^ c) b e r) : Near a b (e + c) r := by
  obtain ⟨k, N, l, q, g, rfl⟩ := h
  rw [Nat.mul_assoc, ← Nat.pow_add] at q g ⊢
  refine ⟨c + k, N, ?_, q, ?_, ?_⟩
  · omega
  · omega
  · rw [show e + c - (c + k : Nat) + N = e - k + N by omega]

theorem Near.den {a b : Nat} {e : Int} {r : Nat} {c : Nat} (hc : 0 < c) (h : Near (a * c) (b * c) e r) : Near a b e r := by
  obtain ⟨k, N, l, q, g, rfl⟩ := h
  have e1 : a * c * 2 ^ k = a * 2 ^ k * c := by ac_rfl
  have e2 : b * c * 2 ^ N = b * 2 ^ N * c := by ac_rfl
  rw [e1, e2, Nat.mul_div_mul_right _ _ hc] at q g
  rw [e1, e2, rnd_scale _ _ _ hc]
  exact ⟨k, N, l, q, g, rfl⟩

/-- The rung that Ieee's nearest writes. -/
def rungOf (mag : Nat) (place : Int) : Nat :=
  if mag = 0 then 0 else
  let last := max (place + mag.log2 - 52) (-1074)
  min ((last + 1074).toNat * 4503599627370496 + rnd (mag * 2 ^ (place - last).toNat) (2 ^ (last - place).toNat)) infR

theorem nearest_eq (neg : Bool) (mag : Nat) (place : Int) : double.nearest neg mag place = double.word neg (rungOf mag place) := by
  unfold Format.nearest rungOf
  by_cases h : mag = 0
  · rw [if_pos h, if_pos h]
  · rw [if_neg h, if_neg h]
    have h1 : double.leastPlace = -1074 := by decide
    have h2 : ((double.fractionBits : Nat) : Int) = 52 := rfl
    have h3 : double.binade = 4503599627370496 := by decide
    have h4 : double.infRung = infR := by decide
    simp only [h1, h2, h3, h4, cut_even, Nat.shiftLeft_eq]
    rw [show ∀ x : Int, x - -1074 = x + 1074 from fun x => by omega]

theorem pow_mul_lt {m k l : Nat} (h : m < 2 ^ l) : m * 2 ^ k < 2 ^ (l + k) := by
  rw [Nat.pow_add]; exact (Nat.mul_lt_mul_right (Nat.two_pow_pos k)).mpr h
theorem pow_mul_ge {m k l : Nat} (h : 2 ^ l ≤ m) : 2 ^ (l + k) ≤ m * 2 ^ k := by
  rw [Nat.pow_add]; exact Nat.mul_le_mul_right _ h
theorem div_pow_lt {m k l : Nat} (h : m < 2 ^ (l + k)) : m / 2 ^ k < 2 ^ l := by
  rw [Nat.pow_add] at h; exact Nat.div_lt_of_lt_mul (by rw [Nat.mul_comm]; exact h)
theorem div_pow_ge {m k l : Nat} (h : 2 ^ (l + k) ≤ m) : 2 ^ l ≤ m / 2 ^ k := by
  rw [Nat.le_div_iff_mul_le (Nat.two_pow_pos k), ← Nat.pow_add]; exact h
theorem pow_mono {a b : Nat} (h : a ≤ b) : 2 ^ a ≤ 2 ^ b := Nat.pow_le_pow_right (by omega) h

theorem near_rung (mag : Nat) (place : Int) (h : mag ≠ 0) : Near mag 1 place (rungOf mag place) := by
  have hl := log2_lt mag
  have hg := log2_ge mag h
  unfold rungOf
  rw [if_neg h]
  dsimp only
  generalize hL : mag.log2 = L at *
  by_cases c : place + (L : Int) - 52 ≤ -1074
  · rw [show max (place + (L : Int) - 52) (-1074) = -1074 by omega]
    by_cases c2 : -1074 ≤ place
    · refine ⟨(place - -1074).toNat, 0, by omega, ?_, by omega, ?_⟩
      · rw [Nat.pow_zero, Nat.mul_one, Nat.div_one]
        have := pow_mul_lt (k := (place - -1074).toNat) hl
        have h2 : 2 ^ (L + 1 + (place - -1074).toNat) ≤ 2 ^ 53 := pow_mono (by omega)
        omega
      · rw [show (-1074 - place).toNat = 0 by omega, show place - ((place - -1074).toNat : Nat) + (0 : Nat) = -1074 by omega]
        try simp
    · refine ⟨0, (-1074 - place).toNat, by omega, ?_, by omega, ?_⟩
      · rw [Nat.pow_zero, Nat.mul_one, Nat.one_mul]
        have h2 : mag < 2 ^ (53 + (-1074 - place).toNat) := Nat.lt_of_lt_of_le hl (pow_mono (by omega))
        have := div_pow_lt h2
        omega
      · rw [show (place - -1074).toNat = 0 by omega, show place - (0 : Nat) + ((-1074 - place).toNat : Nat) = -1074 by omega]
        try simp
  · rw [show max (place + (L : Int) - 52) (-1074) = place + (L : Int) - 52 by omega]
    by_cases c2 : L ≤ 52
    · refine ⟨(place - (place + (L : Int) - 52)).toNat, 0, by omega, ?_, .inl ?_, ?_⟩
      · rw [Nat.pow_zero, Nat.mul_one, Nat.div_one]
        have := pow_mul_lt (k := (place - (place + (L : Int) - 52)).toNat) hl
        have h2 : 2 ^ (L + 1 + (place - (place + (L : Int) - 52)).toNat) = 2 ^ 53 := by congr 1; omega
        omega
      · rw [Nat.pow_zero, Nat.mul_one, Nat.div_one]
        have := pow_mul_ge (k := (place - (place + (L : Int) - 52)).toNat) hg
        have h2 : 2 ^ (L + (place - (place + (L : Int) - 52)).toNat) = 2 ^ 52 := by congr 1; omega
        omega
      · rw [show (place + (L : Int) - 52 - place).toNat = 0 by omega, show place - ((place - (place + (L : Int) - 52)).toNat : Nat) + (0 : Nat) = place + (L : Int) - 52 by omega]
        try simp
    · refine ⟨0, (place + (L : Int) - 52 - place).toNat, by omega, ?_, .inl ?_, ?_⟩
      · rw [Nat.pow_zero, Nat.mul_one, Nat.one_mul]
        have h2 : mag < 2 ^ (53 + (place + (L : Int) - 52 - place).toNat) := Nat.lt_of_lt_of_le hl (pow_mono (by omega))
        have := div_pow_lt h2
        omega
      · rw [Nat.pow_zero, Nat.mul_one, Nat.one_mul]
        have h2 : 2 ^ (52 + (place + (L : Int) - 52 - place).toNat) ≤ mag := Nat.le_trans (pow_mono (by omega)) hg
        have := div_pow_ge h2
        omega
      · rw [show (place - (place + (L : Int) - 52)).toNat = 0 by omega, show place - (0 : Nat) + ((place + (L : Int) - 52 - place).toNat : Nat) = place + (L : Int) - 52 by omega]
        try simp

/-- What lies at the least scale is its own rung. -/
theorem near_self {m : Nat} {place : Int} (h1 : -1074 ≤ place) (h2 : m < 9007199254740992) (h3 : 4503599627370496 ≤ m ∨ place = -1074) :
    Near m 1 place (min ((place + 1074).toNat * 4503599627370496 + m) infR) := by
  refine ⟨0, 0, by omega, by simpa using h2, ?_, ?_⟩
  · simpa using h3
  · simp [rnd_one]

/-! ### A quotient with one bit for what is left over -/
theorem sticky_div (D n h : Nat) (hn : 0 < n) (s : Nat) (hs : s ≤ 1) : (2 * (D / n) + s) / (2 * h) = D / (n * h) := by
  rw [← Nat.div_div_eq_div_mul, ← Nat.div_div_eq_div_mul]
  congr 1
  omega
theorem sticky_rnd (D n N : Nat) (hn : 0 < n) (hN : 0 < N) :
    rnd (2 * (D / n) + (D % n != 0).toNat) (2 * 2 ^ N) = rnd D (n * 2 ^ N) := by
  have hh : 2 ^ N = 2 * 2 ^ (N - 1) := by rw [← Nat.pow_succ']; congr 1; omega
  have hg := Nat.two_pow_pos (N - 1)
  generalize 2 ^ (N - 1) = g at *
  rw [hh]
  have hs : (D % n != 0).toNat ≤ 1 := by cases (D % n != 0) <;> simp
  have hs0 : (D % n != 0).toNat = 0 ↔ D % n = 0 := by
    by_cases h0 : D % n = 0 <;> simp [h0]
  have hr : D % n < n := Nat.mod_lt _ hn
  generalize (D % n != 0).toNat = s at *
  unfold rnd up1
  rw [sticky_div D n (2 * g) hn s hs]
  have hm1 : (2 * (D / n) + s) % (2 * (2 * g)) = 2 * (D / n % (2 * g)) + s := by
    have ht := Nat.div_add_mod (D / n) (2 * g)
    have hlt : D / n % (2 * g) < 2 * g := Nat.mod_lt _ (by omega)
    generalize D / n % (2 * g) = f at *
    generalize D / n / (2 * g) = c at *
    rw [← ht]
    rw [show 2 * (2 * g * c + f) + s = (2 * f + s) + 2 * (2 * g) * c by rw [Nat.mul_add, Nat.mul_assoc 2 (2 * g) c]; omega, Nat.add_mul_mod_self_left]
    exact Nat.mod_eq_of_lt (by omega)
  have hm2 : D % (n * (2 * g)) = n * (D / n % (2 * g)) + D % n := by
    rw [Nat.mod_mul, Nat.add_comm]
  rw [hm1, hm2]
  have hlt : D / n % (2 * g) < 2 * g := Nat.mod_lt _ (by omega)
  generalize D / n % (2 * g) = f at *
  generalize D % n = t at *
  generalize D / (n * (2 * g)) % 2 = z
  congr 2
  rw [Bool.eq_iff_iff]
  simp only [Bool.or_eq_true, decide_eq_true_eq, Bool.and_eq_true]
  rcases Nat.lt_trichotomy f g with c | c | c
  · have h1 : n * f + n ≤ n * g := by rw [← Nat.mul_succ]; exact Nat.mul_le_mul_left n c
    have h2 : n * (2 * g) = 2 * (n * g) := by ac_rfl
    rw [h2]
    generalize n * f = u at *
    generalize n * g = v at *
    constructor <;> intro hc <;> omega
  · subst c
    have h2 : n * (2 * f) = 2 * (n * f) := by ac_rfl
    rw [h2]
    generalize n * f = u at *
    constructor <;> intro hc <;> omega
  · have h1 : n * g + n ≤ n * f := by rw [← Nat.mul_succ]; exact Nat.mul_le_mul_left n c
    have h2 : n * (2 * g) = 2 * (n * g) := by ac_rfl
    rw [h2]
    generalize n * f = u at *
    generalize n * g = v at *
    constructor <;> intro hc <;> omega

theorem near_sticky {m n more : Nat} {e : Int} {r : Nat} (hn : 0 < n) (hq : 2 ^ 53 ≤ m * 2 ^ more / n)
    (h : Near (2 * (m * 2 ^ more / n) + (m * 2 ^ more % n != 0).toNat) 1 (e - more - 1) r) : Near m n e r := by
  obtain ⟨k, N, l, q, g, rfl⟩ := h
  have hs : ∀ D : Nat, (D % n != 0).toNat ≤ 1 := fun D => by cases (D % n != 0) <;> simp
  have hbig : 2 ^ 54 ≤ 2 * (m * 2 ^ more / n) + (m * 2 ^ more % n != 0).toNat := by omega
  -- the scale: N doublings more of the lower part than of the upper one
  have hN : k + 2 ≤ N := by
    rcases Nat.lt_or_ge N (k + 2) with c | c
    · exfalso
      generalize 2 * (m * 2 ^ more / n) + (m * 2 ^ more % n != 0).toNat = M at *
      have h1 : 2 ^ 54 * 2 ^ k ≤ M * 2 ^ k := Nat.mul_le_mul_right _ hbig
      have h2 : 2 ^ 53 * 2 ^ N ≤ 2 ^ 54 * 2 ^ k := by
        rw [← Nat.pow_add, ← Nat.pow_add]; exact pow_mono (by omega)
      have h3 : 2 ^ 53 ≤ M * 2 ^ k / (1 * 2 ^ N) := by
        rw [Nat.one_mul, Nat.le_div_iff_mul_le (Nat.two_pow_pos N)]; omega
      omega
    · exact c
  obtain ⟨d, rfl⟩ : ∃ d, N = k + (d + 2) := ⟨N - k - 2, by omega⟩
  have e1 : ∀ M : Nat, M * 2 ^ k / (1 * 2 ^ (k + (d + 2))) = M / (2 * 2 ^ (d + 1)) := fun M => by
    rw [Nat.one_mul, Nat.pow_add, Nat.mul_comm (2 ^ k), Nat.mul_div_mul_right _ _ (Nat.two_pow_pos k), Nat.pow_succ', Nat.pow_succ' (n := d)]
  have e2 : ∀ M : Nat, rnd (M * 2 ^ k) (1 * 2 ^ (k + (d + 2))) = rnd M (2 * 2 ^ (d + 1)) := fun M => by
    rw [Nat.one_mul, Nat.pow_add, Nat.mul_comm (2 ^ k), rnd_scale _ _ _ (Nat.two_pow_pos k), Nat.pow_succ', Nat.pow_succ' (n := d)]
  rw [e1, sticky_div _ _ _ hn _ (hs _)] at q g
  rw [e2, sticky_rnd _ _ _ hn (by omega)]
  refine ⟨more, d + 1, by omega, q, by omega, ?_⟩
  rw [show e - more - 1 - (k : Nat) + (k + (d + 2) : Nat) = e - more + (d + 1 : Nat) by omega]

theorem quot_big {m n : Nat} (hm : m ≠ 0) (hn : n ≠ 0) : 2 ^ 53 ≤ m * 2 ^ (54 + n.log2 - m.log2) / n := by
  have h1 := log2_ge m hm
  have h2 := log2_lt n
  rw [Nat.le_div_iff_mul_le (by omega)]
  have h3 : 2 ^ (m.log2 + (54 + n.log2 - m.log2)) ≤ m * 2 ^ (54 + n.log2 - m.log2) := pow_mul_ge h1
  have h4 : 2 ^ (54 + n.log2) ≤ 2 ^ (m.log2 + (54 + n.log2 - m.log2)) := pow_mono (by omega)
  have h5 : 2 ^ 53 * n ≤ 2 ^ 53 * 2 ^ (n.log2 + 1) := Nat.mul_le_mul_left _ (by omega)
  have h6 : 2 ^ 53 * 2 ^ (n.log2 + 1) = 2 ^ (54 + n.log2) := by rw [← Nat.pow_add]; congr 1; omega
  omega

def two52 : Nat := 4503599627370496
def two63 : Nat := 9223372036854775808
def NaN : Nat := 9221120237041090560
def sgn (w : Nat) : Bool := w / 9223372036854775808 % 2 == 1
def rg (w : Nat) : Nat := w % 9223372036854775808
def isNan (w : Nat) : Bool := decide (9218868437227405312 < rg w)
def isInf (w : Nat) : Bool := decide (rg w = 9218868437227405312)
def mg (w : Nat) : Nat := if rg w < 4503599627370496 then rg w else 4503599627370496 + rg w % 4503599627370496
def pl (w : Nat) : Int := if rg w < 4503599627370496 then -1074 else -1074 + (rg w / 4503599627370496 - 1 : Nat)
def canon (w : Nat) : Nat := if isNan w then NaN else w
def W (w : Nat) : Prop := w < 18446744073709551616

theorem word_false (r : Nat) : double.word false r = r := rfl
theorem word_true (r : Nat) : double.word true r = 9223372036854775808 + r := rfl
theorem word_of {w : Nat} (h : W w) : double.word (sgn w) (rg w) = w := by
  unfold W at h
  have e : w = 9223372036854775808 * (w / 9223372036854775808) + w % 9223372036854775808 := (Nat.div_add_mod _ _).symm
  have hl : w / 9223372036854775808 < 2 := by omega
  cases hs : sgn w
  · have : w / 9223372036854775808 % 2 ≠ 1 := by simpa [sgn] using hs
    rw [word_false]; unfold rg; omega
  · have : w / 9223372036854775808 % 2 = 1 := by simpa [sgn] using hs
    rw [word_true]; unfold rg; omega
theorem rg_lt (w : Nat) : rg w < 9223372036854775808 := Nat.mod_lt _ (by omega)
theorem sgn_word (s : Bool) {r : Nat} (h : r < 9223372036854775808) : sgn (double.word s r) = s := by
  cases s
  · rw [word_false]; unfold sgn; rw [Nat.div_eq_of_lt h]; rfl
  · rw [word_true]; unfold sgn; rw [show (9223372036854775808 + r) / 9223372036854775808 = 1 by omega]; rfl
theorem rg_word (s : Bool) {r : Nat} (h : r < 9223372036854775808) : rg (double.word s r) = r := by
  cases s
  · rw [word_false]; unfold rg; omega
  · rw [word_true]; unfold rg; omega
theorem W_word (s : Bool) {r : Nat} (h : r < 9223372036854775808) : W (double.word s r) := by
  unfold W
  cases s
  · rw [word_false]; omega
  · rw [word_true]; omega

theorem read_eq (w : Nat) : double.read w =
    if rg w < 4503599627370496 then .number (sgn w) (rg w) (-1074)
    else if rg w < 9218868437227405312 then .number (sgn w) (4503599627370496 + rg w % 4503599627370496) (-1074 + (rg w / 4503599627370496 - 1 : Nat))
    else if rg w = 9218868437227405312 then .infinity (sgn w) else .nan (sgn w) (rg w - 9218868437227405312) := by
  have h0 : double.signWeight = 9223372036854775808 := by decide
  have h1 : double.leastPlace = -1074 := by decide
  have h3 : double.binade = 4503599627370496 := by decide
  have h4 : double.infRung = 9218868437227405312 := by decide
  unfold Format.read
  simp only [h0, h1, h3, h4]
  rfl
theorem read_fin {w : Nat} (h : rg w < 9218868437227405312) : double.read w = .number (sgn w) (mg w) (pl w) := by
  rw [read_eq]
  unfold mg pl
  by_cases c : rg w < 4503599627370496
  · rw [if_pos c, if_pos c, if_pos c]
  · rw [if_neg c, if_neg c, if_neg c, if_pos h]
theorem read_inf {w : Nat} (h : rg w = 9218868437227405312) : double.read w = .infinity (sgn w) := by
  rw [read_eq, if_neg (by omega), if_neg (by omega), if_pos h]
theorem read_nan {w : Nat} (h : 9218868437227405312 < rg w) : ∃ t, double.read w = .nan (sgn w) t := by
  rw [read_eq, if_neg (by omega), if_neg (by omega), if_neg (by omega)]
  exact ⟨_, rfl⟩
theorem isNan_iff (w : Nat) : isNan w = true ↔ 9218868437227405312 < rg w := by simp [isNan]
theorem isNan_no (w : Nat) : isNan w = false ↔ rg w ≤ 9218868437227405312 := by simp [isNan]

/-- A finite word's parts. -/
theorem mg_lt (w : Nat) : mg w < 9007199254740992 := by
  unfold mg; split
  · omega
  · have := Nat.mod_lt (rg w) (show 0 < 4503599627370496 by omega); omega
theorem pl_ge (w : Nat) : -1074 ≤ pl w := by unfold pl; split <;> omega
theorem mg_pl (w : Nat) : 4503599627370496 ≤ mg w ∨ pl w = -1074 := by
  unfold mg pl; split
  · exact .inr rfl
  · exact .inl (by omega)
theorem rg_of (w : Nat) : (pl w + 1074).toNat * 4503599627370496 + mg w = rg w := by
  unfold mg pl; split
  · simp
  · have h := Nat.div_add_mod (rg w) 4503599627370496
    have h2 : 1 ≤ rg w / 4503599627370496 := by omega
    generalize rg w / 4503599627370496 = q at *
    generalize rg w % 4503599627370496 = t at *
    rw [show (-1074 + ((q - 1 : Nat) : Int) + 1074).toNat = q - 1 by omega]
    rw [← h]
    rw [Nat.sub_mul]
    omega
theorem mg_zero {w : Nat} : mg w = 0 ↔ rg w = 0 := by
  unfold mg; split <;> constructor <;> intro h <;> omega

/-- The rung of a finite word is nearest to what it stands for. -/
theorem near_word {w : Nat} (h : rg w < 9218868437227405312) : Near (mg w) 1 (pl w) (rg w) := by
  have := near_self (pl_ge w) (mg_lt w) (mg_pl w)
  rw [rg_of, show min (rg w) infR = rg w by unfold infR; omega] at this
  exact this
theorem rungOf_word {w : Nat} (h : rg w < 9218868437227405312) : rungOf (mg w) (pl w) = rg w := by
  by_cases h0 : mg w = 0
  · rw [h0, (mg_zero.mp h0)]; rfl
  · exact (near_rung _ _ h0).uniq (near_word h)
/-- Scaling changes nothing. -/
theorem rungOf_scale (m c : Nat) (e : Int) : rungOf (m * 2 ^ c) e = rungOf m (e + c) := by
  by_cases h0 : m = 0
  · subst h0; simp [rungOf]
  · have h1 : m * 2 ^ c ≠ 0 := Nat.mul_ne_zero h0 (Nat.ne_of_gt (Nat.two_pow_pos c))
    exact ((near_rung _ _ h1).scale).uniq (near_rung _ _ h0)
theorem rungOf_le (m : Nat) (e : Int) : rungOf m e ≤ 9218868437227405312 := by
  unfold rungOf
  split
  · omega
  · exact Nat.min_le_right _ _
theorem rungOf_lt (m : Nat) (e : Int) : rungOf m e < 9223372036854775808 := by have := rungOf_le m e; omega

theorem write_number (s : Bool) (m : Nat) (e : Int) : double.write (.number s m e) = double.word s (rungOf m e) := nearest_eq s m e
theorem write_inf (s : Bool) : double.write (.infinity s) = double.word s 9218868437227405312 := by
  have h4 : double.infRung = 9218868437227405312 := by decide
  show double.word s double.infRung = _
  rw [h4]

/-! ### The operations -/
def fadd (x y : Nat) : Nat := (double.add x y).getD NaN
def fsub (x y : Nat) : Nat := (double.sub x y).getD NaN
def fmul (x y : Nat) : Nat := (double.mul x y).getD NaN
def fdiv (x y : Nat) : Nat := (double.div x y).getD NaN
/-- the other sign -/
def fneg (w : Nat) : Nat := if isNan w then NaN else double.word (!sgn w) (rg w)

/-- a rung with its sign, as a whole number -/
def tot (s : Bool) (m : Nat) (e b : Int) : Int := Ieee.signed s m (e - b).toNat

inductive Kind (w : Nat) : Prop
  | fin (h : rg w < 9218868437227405312) (hn : isNan w = false) (hr : double.read w = .number (sgn w) (mg w) (pl w)) : Kind w
  | inf (h : rg w = 9218868437227405312) (hn : isNan w = false) (hr : double.read w = .infinity (sgn w)) : Kind w
  | nan (h : 9218868437227405312 < rg w) (hn : isNan w = true) (t : Nat) (hr : double.read w = .nan (sgn w) t) : Kind w
theorem kind (w : Nat) : Kind w := by
  rcases Nat.lt_trichotomy (rg w) 9218868437227405312 with h | h | h
  · exact .fin h ((isNan_no w).2 (by omega)) (read_fin h)
  · exact .inf h ((isNan_no w).2 (by omega)) (read_inf h)
  · obtain ⟨t, ht⟩ := read_nan h
    exact .nan h ((isNan_iff w).2 h) t ht

theorem add_comm' (x y : Nat) : double.add x y = double.add y x := by
  unfold Format.add
  congr 1
  rcases kind x with ⟨_, _, hx⟩ | ⟨_, _, hx⟩ | ⟨_, _, t, hx⟩ <;> rcases kind y with ⟨_, _, hy⟩ | ⟨_, _, hy⟩ | ⟨_, _, u, hy⟩ <;> rw [hx, hy] <;> simp only [Datum.sum]
  · rw [Int.min_comm, Int.add_comm, Bool.and_comm]
  · by_cases h : sgn x = sgn y
    · rw [if_pos h, if_pos h.symm, h]
    · rw [if_neg h, if_neg (fun e => h e.symm)]
theorem mul_comm' (x y : Nat) : double.mul x y = double.mul y x := by
  unfold Format.mul
  congr 1
  rcases kind x with ⟨_, _, hx⟩ | ⟨_, _, hx⟩ | ⟨_, _, t, hx⟩ <;> rcases kind y with ⟨_, _, hy⟩ | ⟨_, _, hy⟩ | ⟨_, _, u, hy⟩ <;> rw [hx, hy] <;> simp only [Datum.product]
  · rw [Bool.xor_comm, Nat.mul_comm, Int.add_comm]
  · rw [Bool.xor_comm]

theorem read_fneg {w : Nat} (h : W w) (hn : isNan w = false) : double.read (fneg w) = (double.read w).opposite := by
  unfold fneg
  rw [if_neg (by rw [hn]; simp)]
  have e1 : rg (double.word (!sgn w) (rg w)) = rg w := rg_word _ (rg_lt w)
  have e2 : sgn (double.word (!sgn w) (rg w)) = !sgn w := sgn_word _ (rg_lt w)
  rw [read_eq, read_eq, e1, e2]
  split
  · rfl
  · split
    · rfl
    · split <;> rfl
theorem isNan_NaN : isNan NaN = true := by decide
theorem rg_NaN : rg NaN = NaN := by decide
theorem read_NaN : ∃ s t, double.read NaN = .nan s t := ⟨_, _, by rw [read_eq, if_neg (by decide), if_neg (by decide), if_neg (by decide)]⟩
theorem sum_nan_r (d : Datum) (s : Bool) (t : Nat) : d.sum (.nan s t) = none := by cases d <;> rfl
theorem sum_nan_l (d : Datum) (s : Bool) (t : Nat) : (Datum.nan s t).sum d = none := by cases d <;> rfl
theorem sub_eq (x y : Nat) (hy : W y) : double.sub x y = double.add x (fneg y) := by
  unfold Format.sub Format.add
  cases hn : isNan y
  · rw [read_fneg hy hn]
  · obtain ⟨s, t, e⟩ := read_NaN
    obtain ⟨u, hu⟩ := read_nan ((isNan_iff y).1 hn)
    have : fneg y = NaN := by unfold fneg; rw [hn]; rfl
    rw [this, e, hu]
    simp only [Datum.opposite, sum_nan_r]
theorem prod_nan_r (d : Datum) (s : Bool) (t : Nat) : d.product (.nan s t) = none := by cases d <;> rfl
theorem prod_nan_l (d : Datum) (s : Bool) (t : Nat) : (Datum.nan s t).product d = none := by cases d <;> rfl
theorem quo_nan_r (k : Nat) (d : Datum) (s : Bool) (t : Nat) : Datum.quotient k d (.nan s t) = none := by cases d <;> rfl
theorem quo_nan_l (k : Nat) (d : Datum) (s : Bool) (t : Nat) : Datum.quotient k (.nan s t) d = none := by cases d <;> rfl

theorem nan_r {x y : Nat} (h : isNan y = true) : double.add x y = none ∧ double.sub x y = none ∧ double.mul x y = none ∧ double.div x y = none ∧ double.order x y = none := by
  obtain ⟨u, hu⟩ := read_nan ((isNan_iff y).1 h)
  unfold Format.add Format.sub Format.mul Format.div Format.order
  rw [hu]
  simp only [Datum.opposite, sum_nan_r, prod_nan_r, quo_nan_r, Option.map_none, true_and]
  cases double.read x <;> rfl
theorem nan_l {x y : Nat} (h : isNan x = true) : double.add x y = none ∧ double.sub x y = none ∧ double.mul x y = none ∧ double.div x y = none ∧ double.order x y = none := by
  obtain ⟨u, hu⟩ := read_nan ((isNan_iff x).1 h)
  unfold Format.add Format.sub Format.mul Format.div Format.order
  rw [hu]
  simp only [sum_nan_l, prod_nan_l, quo_nan_l, Option.map_none, true_and]
  cases double.read y <;> rfl

/-- What an operation answers is no other NaN. -/
def Clean (o : Option Nat) : Prop := ∀ r, o = some r → W r ∧ isNan r = false
theorem clean_write {o : Option Datum} (h : ∀ d, o = some d → d.isNaN = false) : Clean (o.map double.write) := by
  intro r hr
  cases o with
  | none => cases hr
  | some d =>
    injection hr with hr
    subst hr
    have hd := h d rfl
    cases d with
    | number s m e =>
      rw [write_number]
      refine ⟨W_word s (rungOf_lt m e), (isNan_no _).2 ?_⟩
      rw [rg_word s (rungOf_lt m e)]
      exact rungOf_le m e
    | infinity s =>
      rw [write_inf]
      exact ⟨W_word s (by omega), (isNan_no _).2 (by rw [rg_word s (by omega)]; omega)⟩
    | nan s t => cases hd
theorem clean_add (x y : Nat) : Clean (double.add x y) := clean_write fun d h => by
  cases hx : double.read x <;> cases hy : double.read y <;> rw [hx, hy] at h <;> simp only [Datum.sum] at h <;> first | (cases h; done) | (split at h <;> first | (cases h; done) | (injection h with h; subst h; rfl)) | (injection h with h; subst h; rfl)
theorem clean_sub (x y : Nat) : Clean (double.sub x y) := clean_write fun d h => by
  cases hx : double.read x <;> cases hy : double.read y <;> rw [hx, hy] at h <;> simp only [Datum.sum, Datum.opposite] at h <;> first | (cases h; done) | (split at h <;> first | (cases h; done) | (injection h with h; subst h; rfl)) | (injection h with h; subst h; rfl)
theorem clean_mul (x y : Nat) : Clean (double.mul x y) := clean_write fun d h => by
  cases hx : double.read x <;> cases hy : double.read y <;> rw [hx, hy] at h <;> simp only [Datum.product] at h <;> first | (cases h; done) | (split at h <;> first | (cases h; done) | (injection h with h; subst h; rfl)) | (injection h with h; subst h; rfl)
theorem clean_div (x y : Nat) : Clean (double.div x y) := clean_write fun d h => by
  cases hx : double.read x <;> cases hy : double.read y <;> rw [hx, hy] at h <;> simp only [Datum.quotient] at h <;> first | (cases h; done) | (injection h with h; subst h; rfl) | (split at h <;> first | (cases h; done) | (injection h with h; subst h; rfl) | (split at h <;> first | (cases h; done) | (injection h with h; subst h; rfl)))

/-! ### The order -/
/-- sign and rung as one whole number -/
def key (w : Nat) : Int := if sgn w then -(rg w : Int) else rg w
/-- the size of a rung in units of the least place -/
def sz (w : Nat) : Nat := mg w * 2 ^ (pl w + 1074).toNat

theorem tot_pos (m : Nat) (e b : Int) : Ieee.signed false m (e - b).toNat = ((m * 2 ^ (e - b).toNat : Nat) : Int) := by
  unfold Ieee.signed; simp [Nat.shiftLeft_eq]
theorem tot_neg (m : Nat) (e b : Int) : Ieee.signed true m (e - b).toNat = -((m * 2 ^ (e - b).toNat : Nat) : Int) := by
  unfold Ieee.signed; simp [Nat.shiftLeft_eq]

theorem pow_split {e b : Int} (h1 : b ≤ e) (h2 : -1074 ≤ b) : 2 ^ (e + 1074).toNat = 2 ^ (e - b).toNat * 2 ^ (b + 1074).toNat := by
  rw [← Nat.pow_add]; congr 1; omega

/-- sizes grow with rungs -/
theorem sz_lt {x y : Nat} (h : rg x < rg y) : sz x < sz y := by
  unfold sz mg pl
  by_cases c1 : rg y < 4503599627370496
  · rw [if_pos c1, if_pos c1, if_pos (show rg x < 4503599627370496 by omega), if_pos (show rg x < 4503599627370496 by omega)]
    simpa using h
  · rw [if_neg c1, if_neg c1]
    have hy := Nat.div_add_mod (rg y) 4503599627370496
    have hy2 : 1 ≤ rg y / 4503599627370496 := by omega
    by_cases c2 : rg x < 4503599627370496
    · rw [if_pos c2, if_pos c2]
      have hp := Nat.two_pow_pos (-1074 + ((rg y / 4503599627370496 - 1 : Nat) : Int) + 1074).toNat
      generalize 2 ^ (-1074 + ((rg y / 4503599627370496 - 1 : Nat) : Int) + 1074).toNat = p at *
      have : 4503599627370496 + rg y % 4503599627370496 ≤ (4503599627370496 + rg y % 4503599627370496) * p := Nat.le_mul_of_pos_right _ hp
      simp
      omega
    · rw [if_neg c2, if_neg c2]
      have hx := Nat.div_add_mod (rg x) 4503599627370496
      have hx2 : 1 ≤ rg x / 4503599627370496 := by omega
      have mx := Nat.mod_lt (rg x) (show 0 < 4503599627370496 by omega)
      have my := Nat.mod_lt (rg y) (show 0 < 4503599627370496 by omega)
      rw [show (-1074 + ((rg x / 4503599627370496 - 1 : Nat) : Int) + 1074).toNat = rg x / 4503599627370496 - 1 by omega,
        show (-1074 + ((rg y / 4503599627370496 - 1 : Nat) : Int) + 1074).toNat = rg y / 4503599627370496 - 1 by omega]
      rcases Nat.lt_trichotomy (rg x / 4503599627370496) (rg y / 4503599627370496) with q | q | q
      · obtain ⟨d, hd⟩ : ∃ d, rg y / 4503599627370496 - 1 = (rg x / 4503599627370496 - 1) + (d + 1) := ⟨rg y / 4503599627370496 - rg x / 4503599627370496 - 1, by omega⟩
        rw [hd, Nat.pow_add, Nat.pow_succ]
        have hp := Nat.two_pow_pos d
        have hp2 := Nat.two_pow_pos (rg x / 4503599627370496 - 1)
        generalize 2 ^ (rg x / 4503599627370496 - 1) = u at *
        generalize 2 ^ d = v at *
        have h3 : (4503599627370496 + rg x % 4503599627370496) * u < 9007199254740992 * u := (Nat.mul_lt_mul_right hp2).mpr (by omega)
        have h4 : 9007199254740992 * u ≤ (4503599627370496 + rg y % 4503599627370496) * (u * (v * 2)) := by
          have e1 : 9007199254740992 * u = 4503599627370496 * (u * (1 * 2)) := by omega
          rw [e1]
          exact Nat.mul_le_mul (by omega) (Nat.mul_le_mul_left _ (Nat.mul_le_mul_right _ hp))
        omega
      · rw [q]
        exact (Nat.mul_lt_mul_right (Nat.two_pow_pos _)).mpr (by omega)
      · omega
theorem sz_iff {x y : Nat} : sz x < sz y ↔ rg x < rg y := by
  constructor
  · intro h
    rcases Nat.lt_trichotomy (rg x) (rg y) with c | c | c
    · exact c
    · exfalso
      have : sz x = sz y := by unfold sz mg pl; rw [c]
      omega
    · have := sz_lt c; omega
  · exact sz_lt
theorem sz_eq {x y : Nat} : sz x = sz y ↔ rg x = rg y := by
  constructor
  · intro h
    rcases Nat.lt_trichotomy (rg x) (rg y) with c | c | c
    · have := sz_lt c; omega
    · exact c
    · have := sz_lt c; omega
  · intro h; unfold sz mg pl; rw [h]

theorem cmp_int {a b c d : Int} (h1 : a < b ↔ c < d) (h2 : a = b ↔ c = d) : compare a b = compare c d := by
  simp only [compare, compareOfLessAndEq, h1, h2]

theorem mul_lt_iff {a b p : Nat} (hp : 0 < p) : a * p < b * p ↔ a < b := Nat.mul_lt_mul_right hp
theorem mul_eq_iff {a b p : Nat} (hp : 0 < p) : a * p = b * p ↔ a = b := ⟨fun h => Nat.eq_of_mul_eq_mul_right hp h, fun h => by rw [h]⟩

theorem mul_pow_zero (a k : Nat) : a * 2 ^ k = 0 ↔ a = 0 := by
  rw [Nat.mul_eq_zero]
  exact ⟨fun h => h.resolve_right (Nat.ne_of_gt (Nat.two_pow_pos k)), .inl⟩
theorem order_fin {x y : Nat} (hx : rg x < 9218868437227405312) (hy : rg y < 9218868437227405312) : double.order x y = some (compare (key x) (key y)) := by
  unfold Format.order
  rw [read_fin hx, read_fin hy]
  simp only [Datum.order]
  congr 1
  have hb1 : min (pl x) (pl y) ≤ pl x := Int.min_le_left _ _
  have hb2 : min (pl x) (pl y) ≤ pl y := Int.min_le_right _ _
  have hb3 : -1074 ≤ min (pl x) (pl y) := by have := pl_ge x; have := pl_ge y; omega
  generalize min (pl x) (pl y) = b at *
  have ex : sz x = mg x * 2 ^ (pl x - b).toNat * 2 ^ (b + 1074).toNat := by unfold sz; rw [pow_split hb1 hb3, Nat.mul_assoc]
  have ey : sz y = mg y * 2 ^ (pl y - b).toNat * 2 ^ (b + 1074).toNat := by unfold sz; rw [pow_split hb2 hb3, Nat.mul_assoc]
  have l1 := sz_iff (x := x) (y := y)
  have l2 := sz_iff (x := y) (y := x)
  have l3 := sz_eq (x := x) (y := y)
  have z1 : sz x = 0 ↔ rg x = 0 := by rw [← mg_zero]; unfold sz; exact mul_pow_zero _ _
  have z2 : sz y = 0 ↔ rg y = 0 := by rw [← mg_zero]; unfold sz; exact mul_pow_zero _ _
  rw [ex, ey] at l1 l2 l3
  rw [ex] at z1
  rw [ey] at z2
  rw [mul_lt_iff (Nat.two_pow_pos _)] at l1 l2
  rw [mul_eq_iff (Nat.two_pow_pos _)] at l3
  have p0 : ∀ a : Nat, a * 2 ^ (b + 1074).toNat = 0 ↔ a = 0 := fun a => mul_pow_zero a _
  rw [p0] at z1 z2
  unfold key
  cases sgn x <;> cases sgn y <;> simp only [tot_pos, tot_neg, Bool.false_eq_true, if_true, if_false] <;>
    (generalize mg x * 2 ^ (pl x - b).toNat = u at *; generalize mg y * 2 ^ (pl y - b).toNat = v at *; apply cmp_int <;> omega)

theorem order_eq {x y : Nat} (hx : isNan x = false) (hy : isNan y = false) : double.order x y = some (compare (key x) (key y)) := by
  have open_ : ∀ {d e : Datum} {o : Ordering}, double.read x = d → double.read y = e → d.order e = some o → compare (key x) (key y) = o → double.order x y = some (compare (key x) (key y)) := by
    intro d e o h1 h2 h3 h4
    unfold Format.order
    rw [h1, h2, h3, h4]
  rcases kind x with ⟨a, _, rx⟩ | ⟨a, _, rx⟩ | ⟨_, n, _⟩
  · rcases kind y with ⟨b, _, ry⟩ | ⟨b, _, ry⟩ | ⟨_, n, _⟩
    · exact order_fin a b
    · refine open_ rx ry rfl ?_
      unfold key
      rw [b]
      cases sgn x <;> cases sgn y <;> simp only [Bool.false_eq_true, if_true, if_false] <;> first | (apply Int.compare_eq_gt.2; omega) | (apply Int.compare_eq_lt.2; omega)
    · rw [n] at hy; cases hy
  · rcases kind y with ⟨b, _, ry⟩ | ⟨b, _, ry⟩ | ⟨_, n, _⟩
    · refine open_ rx ry rfl ?_
      unfold key
      rw [a]
      cases sgn x <;> cases sgn y <;> simp only [Bool.false_eq_true, if_true, if_false] <;> first | (apply Int.compare_eq_gt.2; omega) | (apply Int.compare_eq_lt.2; omega)
    · refine open_ rx ry rfl ?_
      unfold key
      rw [a, b]
      cases sgn x <;> cases sgn y <;> rfl
    · rw [n] at hy; cases hy
  · rw [n] at hx; cases hx

def feq (x y : Nat) : Bool := double.order x y == some .eq
def flt (x y : Nat) : Bool := double.order x y == some .lt
def fle (x y : Nat) : Bool := double.order x y == some .lt || double.order x y == some .eq

theorem cmp_lt (a b : Int) : (some (compare a b) == some Ordering.lt) = decide (a < b) := by
  rcases Int.lt_trichotomy a b with h | h | h
  · rw [Int.compare_eq_lt.2 h, decide_eq_true h]; rfl
  · subst h; rw [Int.compare_eq_eq.2 rfl, decide_eq_false (by omega)]; rfl
  · rw [Int.compare_eq_gt.2 h, decide_eq_false (by omega)]; rfl
theorem cmp_eq (a b : Int) : (some (compare a b) == some Ordering.eq) = decide (a = b) := by
  rcases Int.lt_trichotomy a b with h | h | h
  · rw [Int.compare_eq_lt.2 h, decide_eq_false (by omega)]; rfl
  · subst h; rw [Int.compare_eq_eq.2 rfl, decide_eq_true rfl]; rfl
  · rw [Int.compare_eq_gt.2 h, decide_eq_false (by omega)]; rfl
theorem cmp_gt (a b : Int) : (some (compare a b) == some Ordering.gt) = decide (b < a) := by
  rcases Int.lt_trichotomy a b with h | h | h
  · rw [Int.compare_eq_lt.2 h, decide_eq_false (by omega)]; rfl
  · subst h; rw [Int.compare_eq_eq.2 rfl, decide_eq_false (by omega)]; rfl
  · rw [Int.compare_eq_gt.2 h, decide_eq_true h]; rfl

theorem flt_eq {x y : Nat} (hx : isNan x = false) (hy : isNan y = false) : flt x y = decide (key x < key y) := by
  unfold flt; rw [order_eq hx hy, cmp_lt]
theorem feq_eq {x y : Nat} (hx : isNan x = false) (hy : isNan y = false) : feq x y = decide (key x = key y) := by
  unfold feq; rw [order_eq hx hy, cmp_eq]
theorem fle_eq {x y : Nat} (hx : isNan x = false) (hy : isNan y = false) : fle x y = decide (key x ≤ key y) := by
  unfold fle; rw [order_eq hx hy, cmp_lt, cmp_eq, ← Bool.decide_or, decide_eq_decide]; omega
theorem fcmp_nan_l {x y : Nat} (h : isNan x = true) : flt x y = false ∧ feq x y = false ∧ fle x y = false := by
  unfold flt feq fle; rw [(nan_l h).2.2.2.2]; exact ⟨rfl, rfl, rfl⟩
theorem fcmp_nan_r {x y : Nat} (h : isNan y = true) : flt x y = false ∧ feq x y = false ∧ fle x y = false := by
  unfold flt feq fle; rw [(nan_r h).2.2.2.2]; exact ⟨rfl, rfl, rfl⟩
/-- 'x != x' -/
theorem ne_self (x : Nat) : (double.order x x != some .eq) = isNan x := by
  show (!feq x x) = _
  cases h : isNan x
  · rw [feq_eq h h]; simp
  · rw [(fcmp_nan_l h).2.1]; rfl
theorem eq_self (x : Nat) : feq x x = !isNan x := by
  have := ne_self x
  rw [← this]; show feq x x = !!feq x x; rw [Bool.not_not]
theorem lt_self (x : Nat) : flt x x = false := by
  cases h : isNan x
  · rw [flt_eq h h]; simp
  · exact (fcmp_nan_l h).1

/-! ### the edges -/
theorem canon_nan {x : Nat} (h : isNan x = true) : canon x = NaN := by unfold canon; rw [h]; rfl
theorem canon_num {x : Nat} (h : isNan x = false) : canon x = x := by unfold canon; rw [h]; rfl
theorem isNan_canon (x : Nat) : isNan (canon x) = isNan x := by
  cases h : isNan x
  · rw [canon_num h, h]
  · rw [canon_nan h]; rfl
theorem canon_canon (x : Nat) : canon (canon x) = canon x := by
  cases h : isNan x
  · rw [canon_num h, canon_num h]
  · rw [canon_nan h]; rfl
theorem W_NaN : W NaN := by unfold W NaN; omega
theorem W_canon {x : Nat} (h : W x) : W (canon x) := by
  unfold canon; split
  · exact W_NaN
  · exact h
theorem canon_eq_nan {x : Nat} : canon x = NaN ↔ isNan x = true := by
  constructor
  · intro h
    rw [← isNan_canon, h]; rfl
  · exact canon_nan

theorem fadd_nan_r (x : Nat) : fadd x NaN = NaN := by unfold fadd; rw [(nan_r isNan_NaN).1]; rfl
theorem fadd_nan_l (x : Nat) : fadd NaN x = NaN := by unfold fadd; rw [(nan_l isNan_NaN).1]; rfl
theorem fsub_nan_r (x : Nat) : fsub x NaN = NaN := by unfold fsub; rw [(nan_r isNan_NaN).2.1]; rfl
theorem fsub_nan_l (x : Nat) : fsub NaN x = NaN := by unfold fsub; rw [(nan_l isNan_NaN).2.1]; rfl
theorem fmul_nan_r (x : Nat) : fmul x NaN = NaN := by unfold fmul; rw [(nan_r isNan_NaN).2.2.1]; rfl
theorem fmul_nan_l (x : Nat) : fmul NaN x = NaN := by unfold fmul; rw [(nan_l isNan_NaN).2.2.1]; rfl
theorem fdiv_nan_r (x : Nat) : fdiv x NaN = NaN := by unfold fdiv; rw [(nan_r isNan_NaN).2.2.2.1]; rfl
theorem fdiv_nan_l (x : Nat) : fdiv NaN x = NaN := by unfold fdiv; rw [(nan_l isNan_NaN).2.2.2.1]; rfl

theorem map_some (d : Datum) : (Option.map double.write (some d)).getD NaN = double.write d := rfl
theorem signed_zero (s : Bool) (u : Nat) : Ieee.signed s 0 u = 0 := by cases s <;> simp [Ieee.signed]
theorem signed_nat (s : Bool) (m u : Nat) : (Ieee.signed s m u).natAbs = m * 2 ^ u := by
  cases s <;> simp [Ieee.signed, Nat.shiftLeft_eq, Int.natAbs_mul, Int.natAbs_pow]
theorem signed_eq0 (s : Bool) (m u : Nat) : Ieee.signed s m u = 0 ↔ m = 0 := by
  rw [← Int.natAbs_eq_zero, signed_nat]; exact mul_pow_zero m u
theorem signed_lt0 (s : Bool) (m u : Nat) (h : m ≠ 0) : decide (Ieee.signed s m u < 0) = s := by
  have h1 : m * 2 ^ u ≠ 0 := fun e => h ((mul_pow_zero m u).1 e)
  cases s
  · rw [decide_eq_false_iff_not]; unfold Ieee.signed; rw [if_neg (by simp), Nat.shiftLeft_eq]; omega
  · rw [decide_eq_true_eq]; unfold Ieee.signed; rw [if_pos rfl, Nat.shiftLeft_eq]; omega

theorem mg_word (s : Bool) {r : Nat} (h : r < 9223372036854775808) : mg (double.word s r) = mg r := by
  unfold mg
  rw [rg_word s h, show rg r = r from Nat.mod_eq_of_lt h]
theorem pl_word (s : Bool) {r : Nat} (h : r < 9223372036854775808) : pl (double.word s r) = pl r := by
  unfold pl
  rw [rg_word s h, show rg r = r from Nat.mod_eq_of_lt h]

def minusZero : Nat := 9223372036854775808
theorem read_zero (s : Bool) : double.read (double.word s 0) = .number s 0 (-1074) := by cases s <;> rfl
theorem read_minus : double.read minusZero = .number true 0 (-1074) := read_zero true
theorem read_plus : double.read 0 = .number false 0 (-1074) := read_zero false

/-- a sum with a zero -/
theorem fadd_zero {x : Nat} (hx : W x) (t : Bool) : fadd x (double.word t 0) = if rg x = 0 then double.word (sgn x && t) 0 else canon x := by
  unfold fadd Format.add
  rw [read_zero]
  rcases kind x with ⟨a, n, r⟩ | ⟨a, n, r⟩ | ⟨a, n, u, r⟩ <;> rw [r]
  · simp only [Datum.sum]
    have hb : min (pl x) (-1074) = -1074 := by have := pl_ge x; omega
    rw [hb, signed_zero, Int.add_zero]
    rw [map_some, write_number, signed_nat]
    by_cases h0 : rg x = 0
    · rw [if_pos h0, if_pos ((signed_eq0 _ _ _).2 (mg_zero.2 h0)), mg_zero.2 h0, Nat.zero_mul]
      rfl
    · have hm : mg x ≠ 0 := fun e => h0 (mg_zero.1 e)
      rw [if_neg h0, if_neg (fun e => hm ((signed_eq0 _ _ _).1 e)), signed_lt0 _ _ _ hm, rungOf_scale, show (-1074 : Int) + ((pl x - -1074).toNat : Nat) = pl x by have := pl_ge x; omega, rungOf_word a, word_of hx, canon_num n]
  · simp only [Datum.sum]
    rw [if_neg (by omega), canon_num n, map_some, write_inf, ← a, word_of hx]
  · rw [if_neg (by omega), canon_nan n]; rfl

theorem fadd_minus {x : Nat} (hx : W x) : fadd x minusZero = canon x := by
  have h := fadd_zero hx true
  rw [show double.word true 0 = minusZero from rfl] at h
  rw [h]
  by_cases h0 : rg x = 0
  · rw [if_pos h0, Bool.and_true, canon_num ((isNan_no x).2 (by omega))]
    rw [← h0, word_of hx]
  · rw [if_neg h0]
theorem fadd_plus {x : Nat} (hx : W x) : decide (fadd x 0 = canon x) = decide (canon x ≠ minusZero) := by
  have h := fadd_zero hx false
  rw [show double.word false 0 = 0 from rfl] at h
  rw [h]
  by_cases h0 : rg x = 0
  · rw [if_pos h0, Bool.and_false, canon_num ((isNan_no x).2 (by omega))]
    have := word_of hx
    rw [h0] at this
    rw [decide_eq_decide]
    cases hs : sgn x <;> rw [hs] at this
    · rw [word_false] at this; subst this; decide
    · rw [word_true] at this; subst this; decide
  · rw [if_neg h0, decide_eq_decide]
    refine ⟨fun _ e => h0 ?_, fun _ => rfl⟩
    cases n : isNan x
    · rw [canon_num n] at e; rw [e]; rfl
    · rw [canon_nan n] at e; exact absurd e (by decide)

def one_ : Nat := 4607182418800017408
theorem read_one : double.read one_ = .number false 4503599627370496 (-52) := by rw [read_eq]; rfl
theorem fmul_one {x : Nat} (hx : W x) : fmul x one_ = canon x := by
  unfold fmul Format.mul
  rw [read_one]
  rcases kind x with ⟨a, n, r⟩ | ⟨a, n, r⟩ | ⟨a, n, u, r⟩ <;> rw [r]
  · simp only [Datum.product]
    rw [map_some, write_number, Bool.xor_false, show (4503599627370496 : Nat) = 2 ^ 52 by decide, rungOf_scale, show pl x + -52 + ((52 : Nat) : Int) = pl x by omega, rungOf_word a, word_of hx, canon_num n]
  · simp only [Datum.product]
    rw [if_neg (by omega), canon_num n, map_some, write_inf, Bool.xor_false, ← a, word_of hx]
  · rw [prod_nan_l, canon_nan n]; rfl

theorem fsub_self {x : Nat} (hx : W x) : decide (fsub x x = 0) = decide (rg x < 9218868437227405312) := by
  rw [decide_eq_decide]
  unfold fsub Format.sub
  rcases kind x with ⟨a, n, r⟩ | ⟨a, n, r⟩ | ⟨a, n, u, r⟩ <;> rw [r]
  · refine ⟨fun _ => a, fun _ => ?_⟩
    simp only [Datum.opposite, Datum.sum]
    have e : Ieee.signed (sgn x) (mg x) (pl x - min (pl x) (pl x)).toNat + Ieee.signed (!sgn x) (mg x) (pl x - min (pl x) (pl x)).toNat = 0 := by
      cases sgn x <;> simp [Ieee.signed] <;> omega
    rw [e, map_some, write_number]
    simp [rungOf, word_false]
  · refine ⟨fun h => ?_, fun h => by omega⟩
    simp only [Datum.opposite, Datum.sum] at h
    rw [if_neg (by cases sgn x <;> simp)] at h
    exact absurd h (by decide)
  · refine ⟨fun h => ?_, fun h => by omega⟩
    simp only [sum_nan_l] at h
    exact absurd h (by decide)

/-! ### the order, turned signs -/
theorem isNan_fneg {x : Nat} : isNan (fneg x) = isNan x := by
  unfold fneg
  cases h : isNan x
  · rw [if_neg (by simp)]
    rw [isNan_no, rg_word _ (rg_lt x)]
    exact (isNan_no x).1 h
  · rw [if_pos rfl]; rfl
theorem key_fneg {x : Nat} (h : isNan x = false) : key (fneg x) = -key x := by
  have e : fneg x = double.word (!sgn x) (rg x) := by unfold fneg; rw [h]; rfl
  rw [e]
  unfold key
  rw [rg_word _ (rg_lt x), sgn_word _ (rg_lt x)]
  cases sgn x <;> simp
theorem W_fneg (x : Nat) : W (fneg x) := by
  unfold fneg; split
  · exact W_NaN
  · exact W_word _ (rg_lt x)
theorem fneg_fneg {x : Nat} (hx : W x) : fneg (fneg x) = canon x := by
  cases h : isNan x
  · rw [canon_num h]
    have e : fneg x = double.word (!sgn x) (rg x) := by unfold fneg; rw [h]; rfl
    have h2 : isNan (fneg x) = false := by rw [isNan_fneg, h]
    unfold fneg at h2 ⊢
    rw [h] at h2 ⊢
    simp only [Bool.false_eq_true, if_false] at h2 ⊢
    rw [h2]
    simp only [Bool.false_eq_true, if_false]
    rw [rg_word _ (rg_lt x), sgn_word _ (rg_lt x), Bool.not_not, word_of hx]
  · have e : fneg x = NaN := by unfold fneg; rw [h]; rfl
    rw [canon_nan h, e]; rfl
theorem flt_neg (a b : Nat) : flt a b = flt (fneg b) (fneg a) := by
  cases ha : isNan a
  · cases hb : isNan b
    · rw [flt_eq ha hb, flt_eq (isNan_fneg.trans hb) (isNan_fneg.trans ha), key_fneg ha, key_fneg hb, decide_eq_decide]; omega
    · rw [(fcmp_nan_r hb).1, (fcmp_nan_l (isNan_fneg.trans hb)).1]
  · rw [(fcmp_nan_l ha).1, (fcmp_nan_r (isNan_fneg.trans ha)).1]
theorem fle_or (a b : Nat) : fle a b = (flt a b || feq a b) := rfl
theorem fle_trans {a b c : Nat} (h1 : fle a b = true) (h2 : fle b c = true) : fle a c = true := by
  cases ha : isNan a
  · cases hb : isNan b
    · cases hc : isNan c
      · rw [fle_eq ha hb] at h1
        rw [fle_eq hb hc] at h2
        rw [fle_eq ha hc]
        simp only [decide_eq_true_eq] at *
        omega
      · rw [(fcmp_nan_r hc).2.2] at h2; cases h2
    · rw [(fcmp_nan_r hb).2.2] at h1; cases h1
  · rw [(fcmp_nan_l ha).2.2] at h1; cases h1
theorem three (a b : Nat) : (flt a b).toNat + (flt b a).toNat + (feq a b).toNat = if isNan a || isNan b then 0 else 1 := by
  cases ha : isNan a
  · cases hb : isNan b
    · rw [flt_eq ha hb, flt_eq hb ha, feq_eq ha hb]
      rcases Int.lt_trichotomy (key a) (key b) with h | h | h
      · rw [decide_eq_true h, decide_eq_false (by omega), decide_eq_false (by omega)]; rfl
      · rw [decide_eq_false (by omega), decide_eq_false (by omega), decide_eq_true h]; rfl
      · rw [decide_eq_false (by omega), decide_eq_true h, decide_eq_false (by omega)]; rfl
    · rw [(fcmp_nan_r hb).1, (fcmp_nan_l hb).1, (fcmp_nan_r hb).2.1]; rfl
  · rw [(fcmp_nan_l ha).1, (fcmp_nan_r ha).1, (fcmp_nan_l ha).2.1]; rfl

/-! ### products and turned signs -/
theorem word_not {s : Bool} {r : Nat} (h : r ≤ 9218868437227405312) : fneg (double.word s r) = double.word (!s) r := by
  have hr : r < 9223372036854775808 := by omega
  unfold fneg
  rw [(isNan_no _).2 (by rw [rg_word s hr]; exact h)]
  simp only [Bool.false_eq_true, if_false]
  rw [rg_word s hr, sgn_word s hr]
theorem write_opp {d : Datum} (h : d.isNaN = false) : double.write d.opposite = fneg (double.write d) := by
  cases d with
  | number s m e => rw [write_number, word_not (rungOf_le m e)]; exact write_number _ _ _
  | infinity s => rw [write_inf, word_not (by omega)]; exact write_inf _
  | nan s t => cases h
theorem fmul_neg {a b : Nat} (ha : W a) : fmul (fneg a) b = fneg (fmul a b) := by
  unfold fmul
  cases n : isNan a
  · unfold Format.mul
    rw [read_fneg ha n]
    have hn : (double.read a).isNaN = false := by
      rcases kind a with ⟨_, _, r⟩ | ⟨_, _, r⟩ | ⟨_, m, _⟩
      · rw [r]; rfl
      · rw [r]; rfl
      · rw [n] at m; cases m
    have e : (double.read a).opposite.product (double.read b) = ((double.read a).product (double.read b)).map Datum.opposite := by
      cases hA : double.read a with
      | nan s t => rw [hA] at hn; cases hn
      | number s m i => cases double.read b <;> simp only [Datum.opposite, Datum.product, Bool.not_xor] <;> first | rfl | (split <;> simp [Datum.opposite])
      | infinity s => cases double.read b <;> simp only [Datum.opposite, Datum.product, Bool.not_xor] <;> first | rfl | (split <;> simp [Datum.opposite])
    rw [e]
    cases h : (double.read a).product (double.read b) with
    | none => rfl
    | some d =>
      refine write_opp ?_
      cases hA : double.read a <;> cases hB : double.read b <;> rw [hA, hB] at h <;> simp only [Datum.product] at h <;> first | (cases h; done) | (injection h with h; subst h; rfl) | (split at h <;> first | (cases h; done) | (injection h with h; subst h; rfl))
  · rw [(nan_l n).2.2.1, (nan_l (isNan_fneg.trans n)).2.2.1]; rfl

theorem rungOf_unfold {m : Nat} {e : Int} (h : m ≠ 0) : rungOf m e = min ((max (e + m.log2 - 52) (-1074) + 1074).toNat * 4503599627370496 + rnd (m * 2 ^ (e - max (e + m.log2 - 52) (-1074)).toNat) (2 ^ (max (e + m.log2 - 52) (-1074) - e).toNat)) infR := by
  unfold rungOf; rw [if_neg h]

/-- the size of 1 in units of the least place -/
def pw (k : Nat) : Nat := 2 ^ k
theorem pw_eq (k : Nat) : 2 ^ k = pw k := rfl
def unit_ : Nat := pw 1074
theorem pw_pos (k : Nat) : 0 < pw k := Nat.two_pow_pos k
theorem unit_pos : 0 < unit_ := pw_pos 1074
theorem parts_of {j t : Nat} (hj : j ≤ 2044) (ht : t < 4503599627370496) :
    mg (j * 4503599627370496 + (4503599627370496 + t)) = 4503599627370496 + t ∧ pl (j * 4503599627370496 + (4503599627370496 + t)) = -1074 + (j : Int) := by
  have hr : rg (j * 4503599627370496 + (4503599627370496 + t)) = j * 4503599627370496 + (4503599627370496 + t) := Nat.mod_eq_of_lt (by omega)
  unfold mg pl
  rw [hr, if_neg (by omega), if_neg (by omega)]
  constructor <;> omega

/-- A number from 1 to below 2^53 is exact. -/
theorem int_parts {n : Nat} (h0 : n ≠ 0) (h : n < 9007199254740992) :
    ∃ k : Nat, k ≤ 52 ∧ rungOf n 0 < 9218868437227405312 ∧ mg (rungOf n 0) = n * 2 ^ k ∧ pl (rungOf n 0) = -(k : Int) ∧ 4503599627370496 ≤ n * 2 ^ k ∧ n * 2 ^ k < 9007199254740992 := by
  have hl := log2_lt n
  have hg := log2_ge n h0
  have hL : n.log2 ≤ 52 := by
    rcases Nat.lt_or_ge 52 n.log2 with c | c
    · have : 2 ^ 53 ≤ 2 ^ n.log2 := pow_mono c
      omega
    · exact c
  obtain ⟨k, hk⟩ : ∃ k, n.log2 + k = 52 := ⟨52 - n.log2, by omega⟩
  have b1 := pow_mul_lt (k := k) hl
  have b2 := pow_mul_ge (k := k) hg
  rw [hk] at b2
  rw [show n.log2 + 1 + k = 53 by omega] at b1
  have hr : rungOf n 0 = (1074 - k) * 4503599627370496 + n * 2 ^ k := by
    have near : Near n 1 0 ((1074 - k) * 4503599627370496 + n * 2 ^ k) := by
      refine ⟨k, 0, by omega, ?_, .inl ?_, ?_⟩
      · rw [Nat.pow_zero, Nat.mul_one, Nat.div_one]; omega
      · rw [Nat.pow_zero, Nat.mul_one, Nat.div_one]; omega
      · rw [Nat.pow_zero, Nat.mul_one, rnd_one, show ((0 : Int) - (k : Nat) + (0 : Nat) + 1074).toNat = 1074 - k by omega]
        have : (1074 - k) * 4503599627370496 ≤ 1074 * 4503599627370496 := Nat.mul_le_mul_right _ (by omega)
        unfold infR
        omega
    exact (near_rung n 0 h0).uniq near
  obtain ⟨t, ht⟩ : ∃ t, n * 2 ^ k = 4503599627370496 + t := ⟨n * 2 ^ k - 4503599627370496, by omega⟩
  have hbound : (1074 - k) * 4503599627370496 ≤ 1074 * 4503599627370496 := Nat.mul_le_mul_right _ (by omega)
  have hk2 : k ≤ 52 := by omega
  have hp := parts_of (j := 1074 - k) (t := t) (by omega) (by omega)
  refine ⟨k, by omega, ?_, ?_, ?_, by omega, by omega⟩
  · rw [hr, ht]; omega
  · rw [hr, ht]; exact hp.1
  · rw [hr, ht, hp.2]; omega

theorem rungOf_zero (e : Int) : rungOf 0 e = 0 := rfl
theorem rung_int {n : Nat} (h : n < 9007199254740992) : rungOf n 0 < 9218868437227405312 := by
  by_cases h0 : n = 0
  · subst h0; rw [rungOf_zero]; omega
  · obtain ⟨k, _, h1, _⟩ := int_parts h0 h; exact h1
/-- the size of a whole number -/
theorem sz_int {n : Nat} (h : n < 9007199254740992) : sz (rungOf n 0) = n * unit_ := by
  by_cases h0 : n = 0
  · subst h0; unfold sz; rw [rungOf_zero, show mg 0 = 0 by decide, Nat.zero_mul, Nat.zero_mul]
  · obtain ⟨k, hk, h1, h2, h3, _⟩ := int_parts h0 h
    unfold sz
    rw [h2, h3, Nat.mul_assoc, ← Nat.pow_add, pw_eq, show k + (-(k : Int) + 1074).toNat = 1074 by omega]
    unfold unit_
    exact Eq.refl _

/-- 'float64(n)' -/
def ofInt (n : Int) : Nat := double.word (decide (n < 0)) (rungOf n.natAbs 0)
theorem ofInt_write (n : Int) : double.write (.number (n < 0) n.natAbs 0) = ofInt n := write_number _ _ _

theorem cut_zero (neg : Bool) (n drop : Nat) : Toward.zero.cut neg n drop = n / 2 ^ drop := by
  unfold Toward.cut
  dsimp only
  rw [Bool.toNat_false, Nat.add_zero]
  by_cases h : drop ≤ n.log2 + 2
  · rw [Nat.min_eq_left h, Nat.shiftLeft_eq, Nat.one_mul]
  · have h' : n.log2 + 2 ≤ drop := by omega
    rw [Nat.min_eq_right h', Nat.shiftLeft_eq, Nat.one_mul]
    have hn := log2_lt n
    have e : 2 ^ (n.log2 + 2) = 2 * 2 ^ (n.log2 + 1) := by rw [Nat.pow_succ, Nat.mul_comm]
    have hp : 2 ^ (n.log2 + 2) ≤ 2 ^ drop := Nat.pow_le_pow_right (by omega) h'
    rw [Nat.div_eq_of_lt (by omega), Nat.div_eq_of_lt (by omega)]

/-- a finite real cut towards 0, without its sign -/
def whole (w : Nat) : Nat := mg w * 2 ^ (pl w).toNat / 2 ^ (-pl w).toNat
theorem toInt_eq {w : Nat} (h : rg w < 9218868437227405312) : (double.read w).toInt .zero = some (if sgn w then -(whole w : Int) else whole w) := by
  rw [read_fin h]
  unfold Datum.toInt Datum.integral
  simp only [cut_zero, Nat.shiftLeft_eq]
  unfold Ieee.signed whole
  rw [Nat.shiftLeft_eq, Nat.pow_zero, Nat.mul_one]

theorem whole_int {n : Nat} (h : n < 9007199254740992) : whole (rungOf n 0) = n := by
  by_cases h0 : n = 0
  · subst h0; unfold whole; rw [rungOf_zero, show mg 0 = 0 by decide, Nat.zero_mul, Nat.zero_div]
  · obtain ⟨k, hk, h1, h2, h3, _⟩ := int_parts h0 h
    unfold whole
    rw [h2, h3, show (-(k : Int)).toNat = 0 by omega, show (- -(k : Int)).toNat = k by omega, Nat.pow_zero, Nat.mul_one]
    exact Nat.mul_div_cancel _ (Nat.two_pow_pos k)

theorem whole_word (s : Bool) {r : Nat} (h : r < 9223372036854775808) : whole (double.word s r) = whole r := by
  unfold whole; rw [mg_word s h, pl_word s h]

theorem toInt_ofInt {n : Int} (h : n.natAbs < 9007199254740992) : (double.read (ofInt n)).toInt .zero = some n := by
  have hr := rung_int h
  unfold ofInt
  rw [toInt_eq (by rw [rg_word _ (by omega)]; exact hr), sgn_word _ (by omega), whole_word _ (by omega), whole_int h]
  congr 1
  by_cases c : n < 0
  · rw [decide_eq_true c, if_pos rfl]; omega
  · rw [decide_eq_false c, if_neg (by simp)]; omega

/-! ### sums of whole numbers from 0 on -/
theorem rungOf_base (m : Nat) (b : Int) (hb : -1074 ≤ b) : rungOf m b = rungOf (m * 2 ^ (b + 1074).toNat) (-1074) := by
  rw [rungOf_scale]; congr 1; omega

theorem rungOf_unit' (m k : Nat) (h : k = 1074) : rungOf (m * pw k) (-1074) = rungOf m 0 := by
  unfold pw; rw [rungOf_scale]; congr 1; omega
theorem rungOf_unit (m : Nat) : rungOf (m * unit_) (-1074) = rungOf m 0 := rungOf_unit' m 1074 rfl
theorem fadd_int {v u : Nat} (hv : v < 4503599627370496) (hu : u < 4503599627370496) : fadd (ofInt v) (ofInt u) = ofInt ((v + u : Nat) : Int) := by
  have e1 : ∀ n : Nat, ofInt (n : Int) = rungOf n 0 := fun n => by
    unfold ofInt; rw [decide_eq_false (by omega), word_false]; congr 1
  rw [e1, e1, e1]
  have hv' := rung_int (n := v) (by omega)
  have hu' := rung_int (n := u) (by omega)
  have zv := sz_int (n := v) (by omega)
  have zu := sz_int (n := u) (by omega)
  have sg : ∀ r, r < 9218868437227405312 → sgn r = false ∧ rg r = r := fun r h => by
    refine ⟨?_, ?_⟩
    · unfold sgn; rw [Nat.div_eq_of_lt (by omega)]; rfl
    · unfold rg; exact Nat.mod_eq_of_lt (by omega)
  unfold fadd Format.add
  rw [read_fin (by rw [(sg _ hv').2]; exact hv'), read_fin (by rw [(sg _ hu').2]; exact hu'), (sg _ hv').1, (sg _ hu').1]
  simp only [Datum.sum]
  rw [map_some, write_number]
  have hb1 : min (pl (rungOf v 0)) (pl (rungOf u 0)) ≤ pl (rungOf v 0) := Int.min_le_left _ _
  have hb2 : min (pl (rungOf v 0)) (pl (rungOf u 0)) ≤ pl (rungOf u 0) := Int.min_le_right _ _
  have hb3 : -1074 ≤ min (pl (rungOf v 0)) (pl (rungOf u 0)) := by have := pl_ge (rungOf v 0); have := pl_ge (rungOf u 0); omega
  generalize min (pl (rungOf v 0)) (pl (rungOf u 0)) = b at *
  rw [tot_pos, tot_pos]
  have ex : sz (rungOf v 0) = mg (rungOf v 0) * 2 ^ (pl (rungOf v 0) - b).toNat * 2 ^ (b + 1074).toNat := by
    unfold sz; rw [pow_split hb1 hb3, Nat.mul_assoc]
  have ey : sz (rungOf u 0) = mg (rungOf u 0) * 2 ^ (pl (rungOf u 0) - b).toNat * 2 ^ (b + 1074).toNat := by
    unfold sz; rw [pow_split hb2 hb3, Nat.mul_assoc]
  rw [zv] at ex
  rw [zu] at ey
  generalize mg (rungOf v 0) * 2 ^ (pl (rungOf v 0) - b).toNat = p at *
  generalize mg (rungOf u 0) * 2 ^ (pl (rungOf u 0) - b).toNat = q at *
  have s1 : (if (p : Int) + (q : Int) = 0 then false && false else decide ((p : Int) + (q : Int) < 0)) = false := by
    split
    · rfl
    · exact decide_eq_false (by omega)
  rw [s1, word_false, show ((p : Int) + (q : Int)).natAbs = p + q by omega, rungOf_base _ _ hb3, Nat.add_mul, ← ex, ← ey, ← Nat.add_mul]
  exact rungOf_unit _
theorem flt_int {v u : Nat} (hv : v < 9007199254740992) (hu : u < 9007199254740992) : flt (ofInt v) (ofInt u) = decide (v < u) := by
  have e1 : ∀ n : Nat, ofInt (n : Int) = rungOf n 0 := fun n => by
    unfold ofInt; rw [decide_eq_false (by omega), word_false]; congr 1
  rw [e1, e1]
  have hv' := rung_int hv
  have hu' := rung_int hu
  have zv := sz_int hv
  have zu := sz_int hu
  have sg : ∀ r, r < 9218868437227405312 → sgn r = false ∧ rg r = r := fun r h => by
    refine ⟨?_, ?_⟩
    · unfold sgn; rw [Nat.div_eq_of_lt (by omega)]; rfl
    · unfold rg; exact Nat.mod_eq_of_lt (by omega)
  rw [flt_eq ((isNan_no _).2 (by rw [(sg _ hv').2]; omega)) ((isNan_no _).2 (by rw [(sg _ hu').2]; omega)), decide_eq_decide]
  unfold key
  rw [(sg _ hv').1, (sg _ hu').1]
  have h := sz_iff (x := rungOf v 0) (y := rungOf u 0)
  rw [zv, zu, mul_lt_iff unit_pos] at h
  simp only [Bool.false_eq_true, if_false]
  omega

def greatest_ : Nat := 4746794007244308480
def least_ : Nat := 13970166044103278592
def fge (x y : Nat) : Bool := double.order x y == some .gt || double.order x y == some .eq
theorem fge_eq {x y : Nat} (hx : isNan x = false) (hy : isNan y = false) : fge x y = decide (key y ≤ key x) := by
  unfold fge; rw [order_eq hx hy, cmp_gt, cmp_eq, ← Bool.decide_or, decide_eq_decide]; omega
def signedWhole (w : Nat) : Int := if sgn w then -(whole w : Int) else whole w
/-- the word of a real, as ToInt answers it -/
def toWord (a : Nat) : Int :=
  if isNan a then 2147483647 else if fge a greatest_ then 2147483647 else if fle a least_ then 2147483648 else signedWhole a % 4294967296

theorem key_greatest : key greatest_ = 4746794007244308480 := by decide
theorem key_least : key least_ = -4746794007248502784 := by decide
theorem nn_greatest : isNan greatest_ = false := by decide
theorem nn_least : isNan least_ = false := by decide

theorem whole_lt {w : Nat} (h : rg w < 4746794007248502784) : whole w < 2147483648 := by
  have hm := mg_lt w
  have hp : pl w ≤ -22 := by unfold pl; split <;> omega
  unfold whole
  rw [show (pl w).toNat = 0 by omega, Nat.pow_zero, Nat.mul_one]
  have h2 : 2 ^ (31 + (-pl w).toNat) ≥ 2 ^ 53 := pow_mono (by omega)
  exact div_pow_lt (l := 31) (by omega)
/-- within the ends -/
theorem within {a : Nat} (hn : isNan a = false) (h1 : fge a greatest_ = false) (h2 : fle a least_ = false) :
    rg a < 9218868437227405312 ∧ -2147483648 < signedWhole a ∧ signedWhole a < 2147483648 := by
  rw [fge_eq hn nn_greatest, key_greatest, decide_eq_false_iff_not] at h1
  rw [fle_eq hn nn_least, key_least, decide_eq_false_iff_not] at h2
  have hr : rg a < 4746794007248502784 := by
    unfold key at h1 h2
    cases hs : sgn a <;> rw [hs] at h1 h2 <;> simp only [Bool.false_eq_true, if_false, if_true] at h1 h2 <;> omega
  have hw := whole_lt hr
  refine ⟨by omega, ?_, ?_⟩ <;> unfold signedWhole <;> split <;> omega

/-- a word goes there and back -/
theorem toWord_ofInt {n : Int} (h1 : -2147483648 ≤ n) (h2 : n < 2147483648) : toWord (ofInt n) = n % 4294967296 := by
  have hb : n.natAbs < 9007199254740992 := by omega
  have hr := rung_int hb
  have ers : rg (ofInt n) = rungOf n.natAbs 0 := rg_word _ (by omega)
  have esg : sgn (ofInt n) = decide (n < 0) := sgn_word _ (by omega)
  have hn : isNan (ofInt n) = false := (isNan_no _).2 (by rw [ers]; omega)
  have hsz : sz (ofInt n) = n.natAbs * unit_ := by
    have : sz (ofInt n) = sz (rungOf n.natAbs 0) := by
      rw [sz_eq, ers]; exact (Nat.mod_eq_of_lt (by omega)).symm
    rw [this, sz_int hb]
  have hg : sz greatest_ = 2147483647 * unit_ := by
    have e : greatest_ = rungOf 2147483647 0 := by decide +kernel
    rw [e, sz_int (by omega)]
  have hl : sz least_ = 2147483648 * unit_ := by
    have e : rg least_ = rg (rungOf 2147483648 0) := by decide +kernel
    rw [sz_eq.2 e, sz_int (by omega)]
  have hsw : signedWhole (ofInt n) = n := by
    have h := toInt_ofInt hb
    rw [toInt_eq (by rw [ers]; exact hr)] at h
    exact Option.some.inj h
  unfold toWord
  rw [if_neg (by rw [hn]; simp), fge_eq hn nn_greatest, fle_eq hn nn_least]
  have i1 := sz_iff (x := ofInt n) (y := greatest_)
  have i2 := sz_iff (x := ofInt n) (y := least_)
  rw [hsz, hg, mul_lt_iff unit_pos] at i1
  rw [hsz, hl, mul_lt_iff unit_pos] at i2
  have q1 := sz_eq (x := ofInt n) (y := greatest_)
  have q2 := sz_eq (x := ofInt n) (y := least_)
  rw [hsz, hg, mul_eq_iff unit_pos] at q1
  rw [hsz, hl, mul_eq_iff unit_pos] at q2
  rw [show rg greatest_ = 4746794007244308480 by decide] at i1 q1
  rw [show rg least_ = 4746794007248502784 by decide] at i2 q2
  have kk : key (ofInt n) = if decide (n < 0) then -(rg (ofInt n) : Int) else rg (ofInt n) := by unfold key; rw [esg]
  rw [kk, key_greatest, key_least]
  rw [hsw]
  by_cases c : n < 0
  · simp only [decide_eq_true c, if_true, decide_eq_true_eq]
    rw [if_neg (by omega)]
    by_cases c2 : n = -2147483648
    · rw [if_pos (by omega)]; omega
    · rw [if_neg (by omega)]
  · simp only [decide_eq_false c, Bool.false_eq_true, if_false, decide_eq_true_eq]
    by_cases c2 : n = 2147483647
    · rw [if_pos (by omega)]; omega
    · rw [if_neg (by omega), if_neg (by omega)]
end RM
end Go.Proofs.Ytieehjkmfmkfjab
