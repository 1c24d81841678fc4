/-
  Tokens of texts that are put together, plainly: a token stays what it is where a blank, or what stood behind it, stands behind it. No program, no condition.
-/
import Derived.Test.YtnlbhnmiekanfaaGreatDoorLexN
namespace Go.Proofs.YtnlbhnmiekanfaaGreatDoor
set_option linter.unusedVariables false
set_option linter.unusedSimpArgs false
namespace Lx
theorem u8_ext {a b : UInt8} (h : a.toNat = b.toNat) : a = b := UInt8.toNat_inj.1 h
theorem blank_iff (b : UInt8) : blank b = true ↔ b.toNat = 9 ∨ b.toNat = 10 ∨ b.toNat = 13 ∨ b.toNat = 32 := by
  unfold blank
  simp only [Bool.or_eq_true, beq_iff_eq, ← UInt8.toNat_inj]
  simp [or_assoc]
theorem blank_not {b : UInt8} (h : blank b = true) : letter b = false ∧ digit b = false ∧ plus b = false ∧ b ≠ 46 ∧ b ≠ 101 ∧ b ≠ 47 ∧ b ≠ 42 := by
  have h' := (blank_iff b).1 h
  rcases h' with h' | h' | h' | h'
  all_goals
    have e := u8_ext (a := b) (b := UInt8.ofNat b.toNat) (by simp)
    rw [h'] at e
    subst e
    decide
theorem inNumber_not {b : UInt8} (h : blank b = true) : inNumber b = false ∧ inName b = false := by
  obtain ⟨h1, h2, -, h4, -⟩ := blank_not h
  unfold inNumber inName
  rw [h1, h2]
  exact ⟨by simpa using h4, rfl⟩
/-- what may stand behind a piece of n bytes: what stood there, or a blank -/
def Behind (l r : List UInt8) : Prop := sees blank r = true ∨ r.head? = l.head?
theorem sees_head {p : UInt8 → Bool} {a b : List UInt8} (h : a.head? = b.head?) : sees p a = sees p b := by
  cases a with
  | nil => cases b with
    | nil => rfl
    | cons y b => cases h
  | cons x a => cases b with
    | nil => cases h
    | cons y b => simp only [List.head?_cons, Option.some.injEq] at h; subst h; rfl
theorem sees_blank {r : List UInt8} (h : sees blank r = true) : ∃ b t, r = b :: t ∧ blank b = true := by
  cases r with
  | nil => cases h
  | cons b t => exact ⟨b, t, rfl, h⟩
/-- a predicate that blanks are not, and that isn't seen behind n bytes -/
theorem behind_no {p : UInt8 → Bool} {l r : List UInt8} (hp : ∀ b, blank b = true → p b = false) (h : Behind l r) (hl : sees p l = false) : sees p r = false := by
  rcases h with h | h
  · obtain ⟨b, t, rfl, hb⟩ := sees_blank h
    exact hp b hb
  · rw [sees_head h]; exact hl
theorem cnt_take (p : UInt8 → Bool) : ∀ (l r : List UInt8) (n : Nat), cnt p l ≤ n → n ≤ l.length → sees p r = false → cnt p (l.take n ++ r) = cnt p l
  | [], r, n, h, hn, hr => by simp only [List.take_nil, List.nil_append]; exact cnt_sees_no hr
  | b :: l, r, 0, h, hn, hr => by
    rw [List.take_zero, List.nil_append, cnt_sees_no hr]; omega
  | b :: l, r, n + 1, h, hn, hr => by
    rw [List.take_succ_cons, List.cons_append]
    cases hb : p b with
    | true =>
      rw [cnt_yes hb] at h ⊢
      rw [cnt_yes hb, cnt_take p l r n (by omega) (by simpa using hn) hr]
    | false => rw [cnt_no hb, cnt_no hb]
theorem drop_take_app (l r : List UInt8) (a n : Nat) (h : a ≤ n) (hn : n ≤ l.length) : (l.take n ++ r).drop a = (l.drop a).take (n - a) ++ r := by
  rw [List.drop_append_of_le_length (by rw [List.length_take]; omega), List.drop_take]
theorem sees_take_lt (p : UInt8 → Bool) (l r : List UInt8) (a n : Nat) (h : a < n) (hn : n ≤ l.length) : sees p ((l.take n ++ r).drop a) = sees p (l.drop a) := by
  rw [drop_take_app l r a n (by omega) hn]
  have : (l.drop a).length = l.length - a := List.length_drop
  cases hd : l.drop a with
  | nil => rw [hd] at this; simp at this; omega
  | cons b t =>
    obtain ⟨m, hm⟩ : ∃ m, n - a = m + 1 := ⟨n - a - 1, by omega⟩
    rw [hm, List.take_succ_cons]; rfl
theorem sees_take_eq (p : UInt8 → Bool) (l r : List UInt8) (n : Nat) (hn : n ≤ l.length) : sees p ((l.take n ++ r).drop n) = sees p r := by
  rw [drop_take_app l r n n (Nat.le_refl _) hn, Nat.sub_self, List.take_zero, List.nil_append]
theorem sees_take_no (p : UInt8 → Bool) (l r : List UInt8) (a n : Nat) (h : a ≤ n) (hn : n ≤ l.length) (h1 : sees p (l.drop n) = false) (h2 : sees p r = false) : sees p ((l.take n ++ r).drop a) = sees p (l.drop a) := by
  by_cases e : a = n
  · subst e; rw [sees_take_eq p l r a hn, h1, h2]
  · exact sees_take_lt p l r a n (by omega) hn
theorem cnt_drop_take (p : UInt8 → Bool) (l r : List UInt8) (a n : Nat) (h : a + cnt p (l.drop a) ≤ n) (hn : n ≤ l.length) (hr : sees p r = false) : cnt p ((l.take n ++ r).drop a) = cnt p (l.drop a) := by
  rw [drop_take_app l r a n (by omega) hn]
  exact cnt_take p _ _ _ (by omega) (by rw [List.length_drop]; omega) hr
theorem span_le (l : List UInt8) : (span l).2 ≤ l.length := by
  have A := fun k (h : k ≤ l.length) => (show k + cnt digit (l.drop k) ≤ l.length by have := cnt_le digit (l.drop k); rw [List.length_drop] at this; omega)
  have B := fun p k (h : sees p (l.drop k) = true) => (show k + 1 ≤ l.length by
    refine Nat.lt_of_not_le fun hle => ?_
    rw [List.drop_of_length_le hle] at h; cases h)
  have a0 := cnt_le digit l
  unfold span
  by_cases h1 : sees (isB 46) (l.drop (cnt digit l)) = true
  · have b1 := B _ _ h1
    have a1 := A _ b1
    rw [if_pos h1]
    by_cases h2 : sees (isB 101) (l.drop (cnt digit l + 1 + cnt digit (l.drop (cnt digit l + 1)))) = true
    · have b2 := B _ _ h2
      simp only [if_pos h2]
      by_cases h3 : sees plus (l.drop (cnt digit l + 1 + cnt digit (l.drop (cnt digit l + 1)) + 1)) = true
      · have b3 := B _ _ h3
        rw [if_pos h3]
        exact A _ b3
      · rw [if_neg h3]
        exact A _ b2
    · simp only [if_neg h2]; exact a1
  · rw [if_neg h1]; exact a0
theorem inN_no {x : List UInt8} (h : sees inNumber x = false) : sees digit x = false ∧ sees (isB 46) x = false ∧ sees (isB 101) x = false ∧ sees inName x = false := by
  cases x with
  | nil => exact ⟨rfl, rfl, rfl, rfl⟩
  | cons b t =>
    have h' : ((letter b || digit b) || b == 46) = false := h
    rw [Bool.or_eq_false_iff, Bool.or_eq_false_iff] at h'
    obtain ⟨⟨h1, h2⟩, h3⟩ := h'
    refine ⟨h2, h3, ?_, ?_⟩
    · show (b == 101) = false
      cases e : b == 101 with
      | false => rfl
      | true =>
        rw [beq_iff_eq] at e
        subst e
        exact absurd h1 (by decide)
    · show (letter b || digit b) = false
      rw [h1, h2]; rfl
/-- where an e stands in a number that is right, something stands behind it -/
theorem real_e {l : List UInt8} {n b : Nat} (hn : n ≤ l.length) (h : isReal (l.take n) = true) (hs : sees inNumber (l.drop n) = false)
    (ha : cnt digit l ≤ n) (hb : b = cnt digit l + 1 + cnt digit (l.drop (cnt digit l + 1))) (hbn : b ≤ n) (h1 : sees (isB 101) (l.drop b) = true) : b + 1 < n := by
  obtain ⟨d1, d2, d3, -⟩ := inN_no hs
  have e1 : cnt digit (l.take n) = cnt digit l := by
    have := cnt_take digit l [] n ha hn rfl
    rwa [List.append_nil] at this
  have e2 : cnt digit ((l.take n).drop (cnt digit l + 1)) = cnt digit (l.drop (cnt digit l + 1)) := by
    have := cnt_drop_take digit l [] (cnt digit l + 1) n (by omega) hn rfl
    rwa [List.append_nil] at this
  have hlt : b < n := by
    refine Nat.lt_of_le_of_ne hbn fun e => ?_
    rw [e, d3] at h1; cases h1
  refine Nat.lt_of_le_of_ne hlt fun e => ?_
  unfold isReal at h
  rw [e1, e2, ← hb] at h
  simp only [Bool.and_eq_true] at h
  have ht := h.2.2.2.2
  have hd : (l.take n).drop b = [(101 : UInt8)] := by
    rw [List.drop_take, show n - b = 1 by omega]
    cases hx : l.drop b with
    | nil => rw [hx] at h1; cases h1
    | cons x t =>
      rw [hx] at h1
      have h1' : (x == 101) = true := h1
      rw [beq_iff_eq] at h1'
      rw [h1', List.take_succ_cons, List.take_zero]
  rw [hd] at ht
  exact absurd ht (by decide)
def spB (l : List UInt8) : Nat := cnt digit l + 1 + cnt digit (l.drop (cnt digit l + 1))
def spC (l : List UInt8) : Nat := if sees plus (l.drop (spB l + 1)) then spB l + 1 + 1 else spB l + 1
theorem span_eq (l : List UInt8) : span l = if sees (isB 46) (l.drop (cnt digit l)) then (if sees (isB 101) (l.drop (spB l)) then (3, spC l + cnt digit (l.drop (spC l))) else (3, spB l)) else (2, cnt digit l) := rfl
theorem spC_le (l : List UInt8) : spB l + 1 ≤ spC l := by unfold spC; split <;> omega
theorem span_take {l r : List UInt8} {n : Nat} (hn : (span l).2 = n) (h3 : (span l).1 = 3 → isReal (l.take n) = true) (hs : sees inNumber (l.drop n) = false) (hr : sees inNumber r = false) :
    span (l.take n ++ r) = span l := by
  have hnl : n ≤ l.length := by rw [← hn]; exact span_le l
  obtain ⟨d1, d2, d3, -⟩ := inN_no hs
  obtain ⟨r1, r2, r3, -⟩ := inN_no hr
  have hc1 := spC_le l
  have hbd : spB l = cnt digit l + 1 + cnt digit (l.drop (cnt digit l + 1)) := rfl
  rw [span_eq] at hn h3
  rw [span_eq, span_eq]
  by_cases h1 : sees (isB 46) (l.drop (cnt digit l)) = true
  · rw [if_pos h1] at hn h3
    by_cases h2 : sees (isB 101) (l.drop (spB l)) = true
    · rw [if_pos h2] at hn h3
      simp only at hn
      have hlt : spB l + 1 < n := real_e hnl (h3 rfl) hs (by omega) rfl (by omega) h2
      have e1 : cnt digit (l.take n ++ r) = cnt digit l := cnt_take digit l r n (by omega) hnl r1
      have e2 : spB (l.take n ++ r) = spB l := by
        unfold spB; rw [e1, cnt_drop_take digit l r _ n (by omega) hnl r1]
      have e3 : spC (l.take n ++ r) = spC l := by
        unfold spC; rw [e2, sees_take_lt plus l r _ n hlt hnl]
      rw [e1, e2, e3, sees_take_lt _ l r _ n (by omega) hnl, sees_take_lt _ l r _ n (by omega) hnl, cnt_drop_take digit l r _ n (by omega) hnl r1]
    · rw [if_neg h2] at hn h3
      simp only at hn
      have e1 : cnt digit (l.take n ++ r) = cnt digit l := cnt_take digit l r n (by omega) hnl r1
      have e2 : spB (l.take n ++ r) = spB l := by
        unfold spB; rw [e1, cnt_drop_take digit l r _ n (by omega) hnl r1]
      rw [e1, e2, sees_take_lt _ l r _ n (by omega) hnl, sees_take_no _ l r _ n (by omega) hnl d3 r3, if_neg h2, if_neg h2]
  · rw [if_neg h1] at hn h3
    simp only at hn
    have e1 : cnt digit (l.take n ++ r) = cnt digit l := cnt_take digit l r n (by omega) hnl r1
    rw [e1, sees_take_no _ l r _ n (by omega) hnl d2 r2, if_neg h1, if_neg h1]
theorem number_some {l : List UInt8} {k n : Nat} (h : number l = some (k, n)) : span l = (k, n) ∧ (if k = 3 then isReal (l.take n) else isInt (l.take n)) = true ∧ sees inNumber (l.drop n) = false := by
  unfold number at h
  by_cases hc : ((if (span l).1 = 3 then isReal (l.take (span l).2) else isInt (l.take (span l).2)) && !sees inNumber (l.drop (span l).2)) = true
  · rw [if_pos hc, Option.some.injEq] at h
    rw [h, Bool.and_eq_true] at hc
    exact ⟨h, hc.1, by simpa using hc.2⟩
  · rw [if_neg hc] at h; cases h
theorem number_of {l : List UInt8} {k n : Nat} (h : span l = (k, n)) (h1 : (if k = 3 then isReal (l.take n) else isInt (l.take n)) = true) (h2 : sees inNumber (l.drop n) = false) : number l = some (k, n) := by
  unfold number
  rw [h, if_pos (by rw [Bool.and_eq_true]; exact ⟨h1, by simp [h2]⟩)]
theorem take_app_take (l r : List UInt8) (n : Nat) (hnl : n ≤ l.length) : (l.take n ++ r).take n = l.take n := by
  rw [List.take_append_of_le_length (by rw [List.length_take]; omega), List.take_take, Nat.min_self]
theorem drop_app_take (l r : List UInt8) (n : Nat) (hnl : n ≤ l.length) : (l.take n ++ r).drop n = r := by
  rw [drop_take_app l r n n (Nat.le_refl _) hnl, Nat.sub_self, List.take_zero, List.nil_append]
theorem number_take {l r : List UInt8} {k n : Nat} (h : number l = some (k, n)) (hr : sees inNumber r = false) : number (l.take n ++ r) = some (k, n) := by
  obtain ⟨h1, h2, h3⟩ := number_some h
  have hnl : n ≤ l.length := by have := span_le l; rw [h1] at this; exact this
  have hs : span (l.take n ++ r) = (k, n) := by
    rw [← h1]
    refine span_take (by rw [h1]) (fun e => ?_) h3 hr
    rw [h1] at e
    rw [if_pos (show k = 3 from e)] at h2
    exact h2
  exact number_of hs (by rw [take_app_take l r n hnl]; exact h2) (by rw [drop_app_take l r n hnl]; exact hr)
theorem name_some {l : List UInt8} {k n : Nat} (h : name l = some (k, n)) : n = cnt inName l ∧ ((k = 5 ∧ reserved (l.take n) = true) ∨ (k = 1 ∧ reserved (l.take n) = false ∧ n ≤ 40)) := by
  have h' : (if reserved (l.take (cnt inName l)) then some (5, cnt inName l) else if cnt inName l ≤ 40 then some (1, cnt inName l) else none) = some (k, n) := h
  by_cases h1 : reserved (l.take (cnt inName l)) = true
  · rw [if_pos h1] at h'
    simp only [Option.some.injEq, Prod.mk.injEq] at h'
    obtain ⟨rfl, rfl⟩ := h'
    exact ⟨rfl, .inl ⟨rfl, h1⟩⟩
  · rw [if_neg h1] at h'
    by_cases h2 : cnt inName l ≤ 40
    · rw [if_pos h2] at h'
      simp only [Option.some.injEq, Prod.mk.injEq] at h'
      obtain ⟨rfl, rfl⟩ := h'
      exact ⟨rfl, .inr ⟨rfl, by simpa using h1, h2⟩⟩
    · rw [if_neg h2] at h'; cases h'
theorem name_of {l : List UInt8} {k n : Nat} (hn : n = cnt inName l) (h : (k = 5 ∧ reserved (l.take n) = true) ∨ (k = 1 ∧ reserved (l.take n) = false ∧ n ≤ 40)) : name l = some (k, n) := by
  show (if reserved (l.take (cnt inName l)) then some (5, cnt inName l) else if cnt inName l ≤ 40 then some (1, cnt inName l) else none) = some (k, n)
  rw [← hn]
  rcases h with ⟨rfl, h⟩ | ⟨rfl, h1, h2⟩
  · rw [if_pos h]
  · rw [if_neg (by rw [h1]; simp), if_pos h2]
theorem name_take {l r : List UInt8} {k n : Nat} (h : name l = some (k, n)) (hr : sees inName r = false) : name (l.take n ++ r) = some (k, n) := by
  obtain ⟨hn, h⟩ := name_some h
  have hnl : n ≤ l.length := by rw [hn]; exact cnt_le _ _
  refine name_of ?_ ?_
  · rw [cnt_take inName l r n (by omega) hnl hr, ← hn]
  · rw [take_app_take l r n hnl]; exact h
theorem isSign_blank (a b : UInt8) (h : blank b = true) : isSign [a, b] = false := by
  obtain ⟨-, -, -, -, -, -, -⟩ := blank_not h
  have h' := (blank_iff b).1 h
  have e1 : ones.contains [a, b] = false := by
    unfold ones; simp
  have e2 : twos.contains [a, b] = false := by
    have hb : ∀ c : UInt8, c ≠ 9 → c ≠ 10 → c ≠ 13 → c ≠ 32 → b ≠ c := by
      intro c h1 h2 h3 h4 e
      subst e
      rcases h' with h' | h' | h' | h'
      · exact h1 (u8_ext h')
      · exact h2 (u8_ext h')
      · exact h3 (u8_ext h')
      · exact h4 (u8_ext h')
    unfold twos
    simp [hb 60 (by decide) (by decide) (by decide) (by decide), hb 62 (by decide) (by decide) (by decide) (by decide), hb 61 (by decide) (by decide) (by decide) (by decide), hb 38 (by decide) (by decide) (by decide) (by decide), hb 124 (by decide) (by decide) (by decide) (by decide)]
  unfold isSign
  rw [e1, e2]; rfl
theorem sign_2 (a b : UInt8) (t : List UInt8) : sign (a :: b :: t) = if isSign [a, b] then some (4, 2) else if isSign [a] then some (4, 1) else none := by
  show (if isSign [a, b] then some (4, min 2 (t.length + 1 + 1)) else if isSign [a] then some (4, 1) else none) = _
  rw [show min 2 (t.length + 1 + 1) = 2 by omega]
theorem sign_1 (a : UInt8) : sign [a] = if isSign [a] then some (4, 1) else none := by
  show (if isSign [a] then some (4, min 2 1) else if isSign [a] then some (4, 1) else none) = _
  rw [show min 2 1 = 1 by omega]
  by_cases h : isSign [a] = true
  · rw [if_pos h, if_pos h]
  · rw [if_neg h, if_neg h]
theorem sign_take {l r : List UInt8} {k n : Nat} (hl : l ≠ []) (h : sign l = some (k, n)) (hr : Behind (l.drop n) r) : sign (l.take n ++ r) = some (k, n) := by
  rcases l with _ | ⟨a, _ | ⟨b, l⟩⟩
  · exact absurd rfl hl
  · rw [sign_1] at h
    by_cases hs : isSign [a] = true
    · rw [if_pos hs] at h
      simp only [Option.some.injEq, Prod.mk.injEq] at h
      obtain ⟨rfl, rfl⟩ := h
      show sign (a :: r) = _
      cases r with
      | nil => rw [sign_1, if_pos hs]
      | cons b t =>
        rcases hr with hr | hr
        · rw [sign_2, if_neg (by rw [isSign_blank a b hr]; simp), if_pos hs]
        · simp at hr
    · rw [if_neg hs] at h; cases h
  · rw [sign_2] at h
    by_cases hs : isSign [a, b] = true
    · rw [if_pos hs] at h
      simp only [Option.some.injEq, Prod.mk.injEq] at h
      obtain ⟨rfl, rfl⟩ := h
      show sign (a :: b :: r) = _
      rw [sign_2, if_pos hs]
    · rw [if_neg hs] at h
      by_cases hs1 : isSign [a] = true
      · rw [if_pos hs1] at h
        simp only [Option.some.injEq, Prod.mk.injEq] at h
        obtain ⟨rfl, rfl⟩ := h
        show sign (a :: r) = _
        cases r with
        | nil => rw [sign_1, if_pos hs1]
        | cons x t =>
          have hx : isSign [a, x] = false := by
            rcases hr with hr | hr
            · exact isSign_blank a x hr
            · have e : x = b := by simpa using hr
              rw [e]; simpa using hs
          rw [sign_2, if_neg (by rw [hx]; simp), if_pos hs1]
      · rw [if_neg hs1] at h; cases h
theorem token_eq (b : UInt8) (t : List UInt8) : token (b :: t) = if letter b then name (b :: t) else if digit b then number (b :: t) else sign (b :: t) := rfl
theorem span_ge (l : List UInt8) : cnt digit l ≤ (span l).2 ∧ ((span l).1 = 2 ∨ (span l).1 = 3) := by
  have := spC_le l
  have hbd : spB l = cnt digit l + 1 + cnt digit (l.drop (cnt digit l + 1)) := rfl
  rw [span_eq]
  split
  · split
    · exact ⟨by simp only; omega, .inr rfl⟩
    · exact ⟨by simp only; omega, .inr rfl⟩
  · exact ⟨Nat.le_refl _, .inl rfl⟩
theorem token_n {l : List UInt8} {k n : Nat} (h : token l = some (k, n)) (hk : k ≠ 0) : 1 ≤ n ∧ n ≤ l.length ∧ 1 ≤ k ∧ k ≤ 5 := by
  rcases l with _ | ⟨b, t⟩
  · have : (0, 0) = (k, n) := Option.some.inj h
    simp only [Prod.mk.injEq] at this
    exact absurd this.1.symm hk
  · rw [token_eq] at h
    by_cases h1 : letter b = true
    · rw [if_pos h1] at h
      obtain ⟨hn, hc⟩ := name_some h
      have hle := cnt_le inName (b :: t)
      rw [cnt_yes (p := inName) (by show (letter b || digit b) = true; rw [h1]; rfl)] at hn hle
      rcases hc with ⟨rfl, -⟩ | ⟨rfl, -⟩ <;> omega
    · rw [if_neg h1] at h
      by_cases h2 : digit b = true
      · rw [if_pos h2] at h
        obtain ⟨hs, -, -⟩ := number_some h
        have hle := span_le (b :: t)
        have hge := span_ge (b :: t)
        rw [hs] at hle hge
        rw [cnt_yes h2] at hge
        simp only at hle hge
        omega
      · rw [if_neg h2] at h
        rcases t with _ | ⟨c, t⟩
        · rw [sign_1] at h
          split at h
          · simp only [Option.some.injEq, Prod.mk.injEq] at h; simp only [List.length_cons, List.length_nil]; omega
          · cases h
        · rw [sign_2] at h
          split at h
          · simp only [Option.some.injEq, Prod.mk.injEq] at h; simp only [List.length_cons]; omega
          · split at h
            · simp only [Option.some.injEq, Prod.mk.injEq] at h; simp only [List.length_cons]; omega
            · cases h
/-- a token stays what it is, whatever stands behind it that may -/
theorem token_take {l r : List UInt8} {k n : Nat} (h : token l = some (k, n)) (hk : k ≠ 0) (hr : Behind (l.drop n) r) : token (l.take n ++ r) = some (k, n) := by
  obtain ⟨hn1, hnl, -, -⟩ := token_n h hk
  rcases l with _ | ⟨b, t⟩
  · simp at hnl; omega
  · obtain ⟨m, rfl⟩ : ∃ m, n = m + 1 := ⟨n - 1, by omega⟩
    have e : (b :: t).take (m + 1) ++ r = b :: (t.take m ++ r) := rfl
    rw [e, token_eq, ← e]
    rw [token_eq] at h
    by_cases h1 : letter b = true
    · rw [if_pos h1] at h ⊢
      exact name_take h (behind_no (fun b hb => (inNumber_not hb).2) hr (by rw [(name_some h).1]; exact sees_cnt _ _))
    · rw [if_neg h1] at h ⊢
      by_cases h2 : digit b = true
      · rw [if_pos h2] at h ⊢
        exact number_take h (behind_no (fun b hb => (inNumber_not hb).1) hr (number_some h).2.2)
      · rw [if_neg h2] at h ⊢
        exact sign_take (by simp) h hr
end Lx
end Go.Proofs.YtnlbhnmiekanfaaGreatDoor
