/-
  Tokens of a text, plainly: what stands between, case by case; the list of tokens without places; texts put together. No program, no condition.
-/
import Derived.Test.YtnlbhnmiekanfaaGreatDoorLexJ
namespace Go.Proofs.YtnlbhnmiekanfaaGreatDoor
set_option linter.unusedVariables false
set_option linter.unusedSimpArgs false
namespace Lx
theorem twoB_cons (a c x y : UInt8) (t : List UInt8) : twoB a c (x :: y :: t) = (x == a && y == c) := rfl
theorem twoB_len {a c : UInt8} {l : List UInt8} (h : twoB a c l = true) : ∃ t, l = a :: c :: t := by
  rcases l with _ | ⟨x, _ | ⟨y, t⟩⟩
  · cases h
  · unfold twoB sees isB at h; simp at h
  · rw [twoB_cons, Bool.and_eq_true, beq_iff_eq, beq_iff_eq] at h
    exact ⟨t, by rw [h.1, h.2]⟩
theorem endOf_le : ∀ {l : List UInt8} {j : Nat}, endOf l = some j → j + 2 ≤ l.length
  | [], j, h => by cases h
  | b :: l, j, h => by
    unfold endOf at h
    by_cases h1 : twoB 42 47 (b :: l) = true
    · rw [if_pos h1, Option.some.injEq] at h
      obtain ⟨t, ht⟩ := twoB_len h1
      rw [ht]; simp only [List.length_cons]; omega
    · rw [if_neg h1] at h
      cases h2 : endOf l with
      | none => rw [h2] at h; cases h
      | some i =>
        rw [h2] at h
        have : i + 1 = j := Option.some.inj h
        have := endOf_le h2
        simp only [List.length_cons]; omega
theorem endOf_app : ∀ {l : List UInt8} {j : Nat} (r : List UInt8), endOf l = some j → endOf (l ++ r) = some j
  | [], j, r, h => by cases h
  | b :: l, j, r, h => by
    unfold endOf at h
    rw [List.cons_append]
    unfold endOf
    by_cases h1 : twoB 42 47 (b :: l) = true
    · rw [if_pos h1] at h
      obtain ⟨t, ht⟩ := twoB_len h1
      rw [← List.cons_append, ht, if_pos (by rw [List.cons_append, List.cons_append]; rfl)]
      exact h
    · rw [if_neg h1] at h
      cases h2 : endOf l with
      | none => rw [h2] at h; cases h
      | some i =>
        rw [h2] at h
        rw [endOf_app r h2]
        have h3 : twoB 42 47 (b :: (l ++ r)) = false := by
          rcases l with _ | ⟨c, l⟩
          · cases h2
          · have h1' : twoB 42 47 (b :: c :: l) = false := by simpa using h1
            exact h1'
        rw [h3]
        exact h
theorem cnt_inLine {l : List UInt8} (h : twoB 47 47 l = true) : 2 ≤ cnt inLine l := by
  obtain ⟨t, rfl⟩ := twoB_len h
  rw [cnt_yes (by decide), cnt_yes (by decide)]; omega
theorem gap_succ (f : Nat) (l : List UInt8) : gap (f + 1) l =
    if twoB 47 47 (l.drop (cnt blank l)) then ((gap f ((l.drop (cnt blank l)).drop (cnt inLine (l.drop (cnt blank l))))).1, cnt blank l + cnt inLine (l.drop (cnt blank l)) + (gap f ((l.drop (cnt blank l)).drop (cnt inLine (l.drop (cnt blank l))))).2)
    else if twoB 47 42 (l.drop (cnt blank l)) then
      match endOf ((l.drop (cnt blank l)).drop 2) with
      | none => (false, cnt blank l)
      | some j => ((gap f ((l.drop (cnt blank l)).drop (2 + j + 2))).1, cnt blank l + (2 + j + 2) + (gap f ((l.drop (cnt blank l)).drop (2 + j + 2))).2)
    else (true, cnt blank l) := rfl
theorem gap_fuel (n : Nat) : ∀ (l : List UInt8), l.length ≤ n → ∀ f g, l.length < f → l.length < g → gap f l = gap g l := by
  induction n with
  | zero =>
    intro l hl f g hf hg
    obtain rfl : l = [] := List.length_eq_zero_iff.1 (by omega)
    obtain ⟨f, rfl⟩ : ∃ k, f = k + 1 := ⟨f - 1, by simp at hf; omega⟩
    obtain ⟨g, rfl⟩ : ∃ k, g = k + 1 := ⟨g - 1, by simp at hg; omega⟩
    rfl
  | succ n ih =>
    intro l hl f g hf hg
    obtain ⟨f, rfl⟩ : ∃ k, f = k + 1 := ⟨f - 1, by omega⟩
    obtain ⟨g, rfl⟩ : ∃ k, g = k + 1 := ⟨g - 1, by omega⟩
    rw [gap_succ, gap_succ]
    generalize hm : l.drop (cnt blank l) = m
    have hml : m.length ≤ l.length := by rw [← hm, List.length_drop]; omega
    by_cases h1 : twoB 47 47 m = true
    · rw [if_pos h1, if_pos h1]
      have h2 := cnt_inLine h1
      have h3 := cnt_le inLine m
      have := ih (m.drop (cnt inLine m)) (by rw [List.length_drop]; omega) f g (by rw [List.length_drop]; omega) (by rw [List.length_drop]; omega)
      rw [this]
    · rw [if_neg h1, if_neg h1]
      by_cases h2 : twoB 47 42 m = true
      · rw [if_pos h2, if_pos h2]
        obtain ⟨t, ht⟩ := twoB_len h2
        have h4 : 2 ≤ m.length := by rw [ht]; simp
        cases h3 : endOf (m.drop 2) with
        | none => rfl
        | some j =>
          have := ih (m.drop (2 + j + 2)) (by rw [List.length_drop]; omega) f g (by rw [List.length_drop]; omega) (by rw [List.length_drop]; omega)
          simp only [this]
      · rw [if_neg h2, if_neg h2]
/-- what stands between -/
def gp (l : List UInt8) : Bool × Nat := gap (l.length + 1) l
theorem gap_gp {f : Nat} {l : List UInt8} (h : l.length < f) : gap f l = gp l := gap_fuel l.length l (Nat.le_refl _) f _ h (Nat.lt_succ_self _)
theorem gp_eq (l : List UInt8) : gp l =
    if twoB 47 47 (l.drop (cnt blank l)) then ((gp ((l.drop (cnt blank l)).drop (cnt inLine (l.drop (cnt blank l))))).1, cnt blank l + cnt inLine (l.drop (cnt blank l)) + (gp ((l.drop (cnt blank l)).drop (cnt inLine (l.drop (cnt blank l))))).2)
    else if twoB 47 42 (l.drop (cnt blank l)) then
      match endOf ((l.drop (cnt blank l)).drop 2) with
      | none => (false, cnt blank l)
      | some j => ((gp ((l.drop (cnt blank l)).drop (2 + j + 2))).1, cnt blank l + (2 + j + 2) + (gp ((l.drop (cnt blank l)).drop (2 + j + 2))).2)
    else (true, cnt blank l) := by
  show gap (l.length + 1) l = _
  rw [gap_succ]
  generalize hm : l.drop (cnt blank l) = m
  have hml : m.length ≤ l.length := by rw [← hm, List.length_drop]; omega
  by_cases h1 : twoB 47 47 m = true
  · rw [if_pos h1, if_pos h1]
    have h2 := cnt_inLine h1
    have h3 := cnt_le inLine m
    rw [gap_gp (by rw [List.length_drop]; omega)]
  · rw [if_neg h1, if_neg h1]
    by_cases h2 : twoB 47 42 m = true
    · rw [if_pos h2, if_pos h2]
      obtain ⟨t, ht⟩ := twoB_len h2
      have h4 : 2 ≤ m.length := by rw [ht]; simp
      cases h3 : endOf (m.drop 2) with
      | none => rfl
      | some j =>
        simp only
        rw [gap_gp (by rw [List.length_drop]; omega)]
    · rw [if_neg h2, if_neg h2]
theorem gp_nil : gp [] = (true, 0) := rfl
theorem gp_blank {b : UInt8} (h : blank b = true) (t : List UInt8) : gp (b :: t) = ((gp t).1, 1 + (gp t).2) := by
  rw [gp_eq (b :: t), gp_eq t, cnt_yes h, List.drop_succ_cons]
  generalize t.drop (cnt blank t) = m
  by_cases h1 : twoB 47 47 m = true
  · rw [if_pos h1, if_pos h1]; simp only [Prod.mk.injEq, true_and]; omega
  · rw [if_neg h1, if_neg h1]
    by_cases h2 : twoB 47 42 m = true
    · rw [if_pos h2, if_pos h2]
      cases endOf (m.drop 2) with
      | none => simp only [Prod.mk.injEq, true_and]; omega
      | some j => simp only [Prod.mk.injEq, true_and]; omega
    · rw [if_neg h2, if_neg h2]; simp only [Prod.mk.injEq, true_and]; omega
theorem blank47 {a : UInt8} {l : List UInt8} (h : twoB 47 a l = true) : cnt blank l = 0 := by
  obtain ⟨t, rfl⟩ := twoB_len h
  exact cnt_no (by decide) _
theorem gp_line {l : List UInt8} (h : twoB 47 47 l = true) : gp l = ((gp (l.drop (cnt inLine l))).1, cnt inLine l + (gp (l.drop (cnt inLine l))).2) := by
  rw [gp_eq, blank47 h, List.drop_zero, if_pos h, Nat.zero_add]
theorem gp_long_no {l : List UInt8} (h : twoB 47 42 l = true) (he : endOf (l.drop 2) = none) : gp l = (false, 0) := by
  obtain ⟨t, rfl⟩ := twoB_len h
  rw [gp_eq, blank47 h, List.drop_zero, if_neg (by rw [twoB_cons]; simp), if_pos h, he]
theorem gp_long {l : List UInt8} {j : Nat} (h : twoB 47 42 l = true) (he : endOf (l.drop 2) = some j) : gp l = ((gp (l.drop (2 + j + 2))).1, 2 + j + 2 + (gp (l.drop (2 + j + 2))).2) := by
  obtain ⟨t, rfl⟩ := twoB_len h
  rw [gp_eq, blank47 h, List.drop_zero, if_neg (by rw [twoB_cons]; simp), if_pos h, he]
  simp only [Nat.zero_add]
theorem gp_other {l : List UInt8} (h : sees blank l = false) (h1 : twoB 47 47 l = false) (h2 : twoB 47 42 l = false) : gp l = (true, 0) := by
  rw [gp_eq, cnt_sees_no h, List.drop_zero, if_neg (by rw [h1]; simp), if_neg (by rw [h2]; simp)]
/-- by the form of what a text begins with -/
theorem gp_cases (Q : List UInt8 → Prop) (nil : Q []) (blk : ∀ b t, blank b = true → Q t → Q (b :: t))
    (line : ∀ l, twoB 47 47 l = true → Q (l.drop (cnt inLine l)) → Q l) (longNo : ∀ l, twoB 47 42 l = true → endOf (l.drop 2) = none → Q l)
    (long : ∀ l j, twoB 47 42 l = true → endOf (l.drop 2) = some j → Q (l.drop (2 + j + 2)) → Q l)
    (other : ∀ b t, blank b = false → twoB 47 47 (b :: t) = false → twoB 47 42 (b :: t) = false → Q (b :: t)) : ∀ (l : List UInt8), Q l := by
  have key : ∀ (n : Nat) (l : List UInt8), l.length ≤ n → Q l := by
    intro n
    induction n with
    | zero =>
      intro l hl
      obtain rfl : l = [] := List.length_eq_zero_iff.1 (by omega)
      exact nil
    | succ n ih =>
      intro l hl
      by_cases h1 : twoB 47 47 l = true
      · have h2 := cnt_inLine h1
        have h3 := cnt_le inLine l
        exact line l h1 (ih _ (by rw [List.length_drop]; omega))
      · by_cases h2 : twoB 47 42 l = true
        · obtain ⟨t, ht⟩ := twoB_len h2
          have h4 : 2 ≤ l.length := by rw [ht]; simp
          cases h3 : endOf (l.drop 2) with
          | none => exact longNo l h2 h3
          | some j => exact long l j h2 h3 (ih _ (by rw [List.length_drop]; omega))
        · rcases l with _ | ⟨b, t⟩
          · exact nil
          · cases hb : blank b with
            | true => exact blk b t hb (ih _ (by simpa using hl))
            | false => exact other b t hb (by simpa using h1) (by simpa using h2)
  exact fun l => key l.length l (Nat.le_refl _)
theorem gp_le : ∀ (l : List UInt8), (gp l).2 ≤ l.length := by
  refine gp_cases _ (Nat.le_refl _) ?_ ?_ ?_ ?_ ?_
  · intro b t hb ih
    rw [gp_blank hb]; simp only [List.length_cons]; omega
  · intro l h ih
    have := cnt_le inLine l
    rw [List.length_drop] at ih
    rw [gp_line h]; simp only; omega
  · intro l h he
    rw [gp_long_no h he]; exact Nat.zero_le _
  · intro l j h he ih
    have := endOf_le he
    rw [List.length_drop] at ih this
    rw [gp_long h he]; simp only; omega
  · intro b t h h1 h2
    rw [gp_other (by exact h) h1 h2]; exact Nat.zero_le _
/-- behind what stands between stands no such thing -/
theorem gp_stop : ∀ (l : List UInt8) (k : Nat), gp l = (true, k) → gp (l.drop k) = (true, 0) ∧ sees blank (l.drop k) = false := by
  refine gp_cases _ ?_ ?_ ?_ ?_ ?_ ?_
  · intro k h
    rw [gp_nil, Prod.mk.injEq] at h
    rw [← h.2]; exact ⟨rfl, rfl⟩
  · intro b t hb ih k h
    rw [gp_blank hb, Prod.mk.injEq] at h
    have := ih (gp t).2 (by rw [← h.1])
    rw [show k = (gp t).2 + 1 by omega, List.drop_succ_cons]; exact this
  · intro l hl ih k h
    rw [gp_line hl, Prod.mk.injEq] at h
    have := ih _ (show _ = (true, _) by rw [← h.1])
    rw [List.drop_drop, h.2] at this; exact this
  · intro l hl he k h
    rw [gp_long_no hl he] at h; cases h
  · intro l j hl he ih k h
    rw [gp_long hl he, Prod.mk.injEq] at h
    have := ih _ (show _ = (true, _) by rw [← h.1])
    rw [List.drop_drop, h.2] at this; exact this
  · intro b t hb h1 h2 k h
    rw [gp_other (by exact hb) h1 h2, Prod.mk.injEq] at h
    rw [← h.2, List.drop_zero]; exact ⟨gp_other hb h1 h2, hb⟩
theorem gp_zero {l : List UInt8} (h : gp l = (true, 0)) : sees blank l = false ∧ twoB 47 47 l = false ∧ twoB 47 42 l = false := by
  have h1 := (gp_stop l 0 h).2
  rw [List.drop_zero] at h1
  refine ⟨h1, ?_, ?_⟩
  · cases h2 : twoB 47 47 l with
    | false => rfl
    | true =>
      rw [gp_line h2, Prod.mk.injEq] at h
      have := cnt_inLine h2
      omega
  · cases h2 : twoB 47 42 l with
    | false => rfl
    | true =>
      cases he : endOf (l.drop 2) with
      | none => rw [gp_long_no h2 he] at h; cases h
      | some j => rw [gp_long h2 he, Prod.mk.injEq] at h; omega
/-- tokens, without places -/
inductive Toks : List UInt8 → List (Nat × List UInt8) → Prop
  | done (l) : gp l = (true, l.length) → Toks l []
  | step (l g k n ts) : gp l = (true, g) → token (l.drop g) = some (k, n) → k ≠ 0 → Toks ((l.drop g).drop n) ts → Toks l ((k, (l.drop g).take n) :: ts)
theorem token_nil {l : List UInt8} : l = [] → token l = some (0, 0) := by rintro rfl; rfl
theorem token_zero {l : List UInt8} {n : Nat} (h : token l = some (0, n)) : l = [] := by
  rcases l with _ | ⟨b, t⟩
  · rfl
  · exfalso
    rw [token_eq] at h
    by_cases h1 : letter b = true
    · rw [if_pos h1] at h
      rcases (name_some h).2 with ⟨e, -⟩ | ⟨e, -⟩ <;> omega
    · rw [if_neg h1] at h
      by_cases h2 : digit b = true
      · rw [if_pos h2] at h
        have := span_ge (b :: t)
        rw [(number_some h).1] at this
        simp at this
      · rw [if_neg h2] at h
        rcases t with _ | ⟨c, t⟩
        · rw [sign_1] at h
          split at h
          · simp at h
          · cases h
        · rw [sign_2] at h
          split at h
          · simp at h
          · split at h
            · simp at h
            · cases h
end Lx
end Go.Proofs.YtnlbhnmiekanfaaGreatDoor
