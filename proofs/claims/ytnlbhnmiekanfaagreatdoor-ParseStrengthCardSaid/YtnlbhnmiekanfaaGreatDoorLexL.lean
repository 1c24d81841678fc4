/-
  Tokens of a text, plainly: all of them from the front, step by step; what they are of texts put together. No program, no condition.
-/
import Derived.Test.YtnlbhnmiekanfaaGreatDoorLexK
namespace Go.Proofs.YtnlbhnmiekanfaaGreatDoor
set_option linter.unusedVariables false
set_option linter.unusedSimpArgs false
namespace Lx
def more (t : Tok) : Except (Nat × Int) (List Tok) → Except (Nat × Int) (List Tok)
  | .ok ts => .ok (t :: ts)
  | .error e => .error e
theorem toks_succ (f : Nat) (l : List UInt8) (p c : Nat) : toks (f + 1) l p c =
    if (gp l).1 then
      match token (l.drop (gp l).2) with
      | none => .error (p + (gp l).2, 10)
      | some (k, n) =>
        if k = 0 then .ok [⟨0, [], p + (gp l).2⟩]
        else if c = 2500 then .error (p + (gp l).2, 5)
        else more ⟨k, (l.drop (gp l).2).take n, p + (gp l).2⟩ (toks f ((l.drop (gp l).2).drop n) (p + (gp l).2 + n) (c + 1))
    else .error (p + (gp l).2, 10) := rfl
theorem rest_len {l : List UInt8} {g k n : Nat} (h : token (l.drop g) = some (k, n)) (hk : k ≠ 0) : ((l.drop g).drop n).length < l.length := by
  have := token_n h hk
  rw [List.length_drop] at this ⊢
  rw [List.length_drop]; omega
theorem toks_fuel (n : Nat) : ∀ (l : List UInt8), l.length ≤ n → ∀ f g p c, l.length < f → l.length < g → toks f l p c = toks g l p c := by
  induction n with
  | zero =>
    intro l hl f g p c hf hg
    obtain rfl : l = [] := List.length_eq_zero_iff.1 (by omega)
    obtain ⟨f, rfl⟩ : ∃ k, f = k + 1 := ⟨f - 1, by simp at hf; omega⟩
    obtain ⟨g, rfl⟩ : ∃ k, g = k + 1 := ⟨g - 1, by simp at hg; omega⟩
    rfl
  | succ n ih =>
    intro l hl f g p c hf hg
    obtain ⟨f, rfl⟩ : ∃ k, f = k + 1 := ⟨f - 1, by omega⟩
    obtain ⟨g, rfl⟩ : ∃ k, g = k + 1 := ⟨g - 1, by omega⟩
    rw [toks_succ, toks_succ]
    cases h1 : (gp l).1 with
    | false => rfl
    | true =>
      rw [if_pos rfl, if_pos rfl]
      cases h2 : token (l.drop (gp l).2) with
      | none => rfl
      | some x =>
        obtain ⟨k, m⟩ := x
        simp only
        by_cases h3 : k = 0
        · rw [if_pos h3, if_pos h3]
        · have := rest_len h2 h3
          rw [if_neg h3, if_neg h3, ih _ (by omega) f g _ _ (by omega) (by omega)]
/-- all tokens from a place on -/
def tk (l : List UInt8) (p c : Nat) : Except (Nat × Int) (List Tok) := toks (l.length + 1) l p c
theorem tk_gap {l : List UInt8} {g : Nat} (p c : Nat) (h : gp l = (false, g)) : tk l p c = .error (p + g, 10) := by
  show toks (l.length + 1) l p c = _
  rw [toks_succ, h]; rfl
theorem tk_none {l : List UInt8} {g : Nat} (p c : Nat) (h : gp l = (true, g)) (h2 : token (l.drop g) = none) : tk l p c = .error (p + g, 10) := by
  show toks (l.length + 1) l p c = _
  rw [toks_succ, h, if_pos rfl, h2]
theorem tk_end {l : List UInt8} {g n : Nat} (p c : Nat) (h : gp l = (true, g)) (h2 : token (l.drop g) = some (0, n)) : tk l p c = .ok [⟨0, [], p + g⟩] := by
  show toks (l.length + 1) l p c = _
  rw [toks_succ, h, if_pos rfl, h2]; rfl
theorem tk_full {l : List UInt8} {g k n : Nat} (p : Nat) (h : gp l = (true, g)) (h2 : token (l.drop g) = some (k, n)) (hk : k ≠ 0) : tk l p 2500 = .error (p + g, 5) := by
  show toks (l.length + 1) l p 2500 = _
  rw [toks_succ, h, if_pos rfl, h2]
  simp only
  rw [if_neg hk]; rfl
theorem tk_step {l : List UInt8} {g k n : Nat} (p c : Nat) (h : gp l = (true, g)) (h2 : token (l.drop g) = some (k, n)) (hk : k ≠ 0) (hc : c ≠ 2500) :
    tk l p c = more ⟨k, (l.drop g).take n, p + g⟩ (tk ((l.drop g).drop n) (p + g + n) (c + 1)) := by
  show toks (l.length + 1) l p c = _
  rw [toks_succ, h, if_pos rfl, h2]
  simp only
  rw [if_neg hk, if_neg hc]
  have := rest_len h2 hk
  rw [toks_fuel _ _ (Nat.le_refl _) l.length (((l.drop g).drop n).length + 1) _ _ (by omega) (by omega)]
  rfl
theorem lex_eq (l : List UInt8) (h : l.length ≤ 8192) : lex l = tk l 0 0 := by
  unfold lex; rw [if_neg (by omega)]; rfl
theorem lex_long (l : List UInt8) (h : 8192 < l.length) : lex l = .error (0, 6) := by
  unfold lex; rw [if_pos h]
/-- tokens as they are told, of a list without places -/
def bare (ts : List Tok) : List (Nat × List UInt8) := ts.map fun t => (t.kind, t.text)
theorem tk_toks {l : List UInt8} {ts : List (Nat × List UInt8)} (h : Toks l ts) : ∀ p c, c + ts.length ≤ 2500 → ∃ us e, tk l p c = .ok (us ++ [⟨0, [], e⟩]) ∧ bare us = ts ∧ e = p + l.length := by
  induction h with
  | done l hg =>
    intro p c hc
    exact ⟨[], _, tk_end (n := 0) p c hg (token_nil (List.drop_of_length_le (Nat.le_refl _))), rfl, rfl⟩
  | step l g k n ts hg ht hk _ ih =>
    intro p c hc
    simp only [List.length_cons] at hc
    obtain ⟨us, e, h1, h2, h3⟩ := ih (p + g + n) (c + 1) (by omega)
    refine ⟨⟨k, (l.drop g).take n, p + g⟩ :: us, e, ?_, ?_, ?_⟩
    · rw [tk_step p c hg ht hk (by omega), h1]; rfl
    · show (k, (l.drop g).take n) :: bare us = _
      rw [h2]
    · have := token_n ht hk
      rw [List.length_drop] at this
      rw [h3, List.length_drop, List.length_drop]; omega
theorem tk_many {l : List UInt8} {ts : List (Nat × List UInt8)} (h : Toks l ts) : ∀ p c, c ≤ 2500 → 2500 < c + ts.length → ∃ a, tk l p c = .error (a, 5) := by
  induction h with
  | done l hg => intro p c h1 h2; simp at h2; omega
  | step l g k n ts hg ht hk _ ih =>
    intro p c h1 h2
    simp only [List.length_cons] at h2
    by_cases hc : c = 2500
    · subst hc
      exact ⟨_, tk_full p hg ht hk⟩
    · obtain ⟨a, ha⟩ := ih (p + g + n) (c + 1) (by omega) (by omega)
      exact ⟨a, by rw [tk_step p c hg ht hk hc, ha]; rfl⟩
theorem toks_of (m : Nat) : ∀ (l : List UInt8) (p c : Nat) (ts : List Tok), l.length ≤ m → c ≤ 2500 → tk l p c = .ok ts → ∃ us, ts = us ++ [⟨0, [], p + l.length⟩] ∧ Toks l (bare us) ∧ c + us.length ≤ 2500 := by
  induction m with
  | zero =>
    intro l p c ts hl hc h
    obtain rfl : l = [] := List.length_eq_zero_iff.1 (by omega)
    rw [tk_end (n := 0) p c gp_nil rfl] at h
    injection h with h
    exact ⟨[], h.symm, .done _ gp_nil, by simpa using hc⟩
  | succ m ih =>
    intro l p c ts hl hc h
    cases hg : gp l with
    | mk b g =>
      cases b with
      | false => rw [tk_gap p c hg] at h; cases h
      | true =>
        cases ht : token (l.drop g) with
        | none => rw [tk_none p c hg ht] at h; cases h
        | some x =>
          obtain ⟨k, n⟩ := x
          by_cases hk : k = 0
          · subst hk
            rw [tk_end p c hg ht] at h
            injection h with h
            have hd := token_zero ht
            have hgl : g = l.length := by
              have h1 := gp_le l
              rw [hg] at h1
              have h2 := congrArg List.length hd
              rw [List.length_drop] at h2
              simp only [List.length_nil] at h2 h1
              omega
            subst hgl
            exact ⟨[], h.symm, .done _ hg, by simpa using hc⟩
          · have hlt := rest_len ht hk
            by_cases hc' : c = 2500
            · subst hc'
              rw [tk_full p hg ht hk] at h; cases h
            · rw [tk_step p c hg ht hk hc'] at h
              cases hr : tk ((l.drop g).drop n) (p + g + n) (c + 1) with
              | error e => rw [hr] at h; cases h
              | ok rs =>
                rw [hr] at h
                injection h with h
                obtain ⟨us, e1, e2, e3⟩ := ih _ _ _ rs (by omega) (by omega) hr
                refine ⟨⟨k, (l.drop g).take n, p + g⟩ :: us, ?_, .step l g k n _ hg ht hk e2, by simp only [List.length_cons]; omega⟩
                rw [← h, e1]
                have := token_n ht hk
                rw [List.length_drop] at this
                have hl2 : p + g + n + ((l.drop g).drop n).length = p + l.length := by
                  rw [List.length_drop, List.length_drop]; omega
                rw [hl2]; rfl
/-- two texts with a line's end between -/
theorem gp_app (r : List UInt8) : ∀ (l : List UInt8) (k : Nat), gp l = (true, k) → (k < l.length → gp (l ++ 10 :: r) = (true, k)) ∧ (k = l.length → gp (l ++ 10 :: r) = ((gp r).1, k + 1 + (gp r).2)) := by
  refine gp_cases _ ?_ ?_ ?_ ?_ ?_ ?_
  · intro k h
    rw [gp_nil, Prod.mk.injEq] at h
    refine ⟨fun h' => by simp at h', fun _ => ?_⟩
    rw [← h.2, List.nil_append, gp_blank (by decide)]
  · intro b t hb ih k h
    rw [gp_blank hb, Prod.mk.injEq] at h
    obtain ⟨i1, i2⟩ := ih (gp t).2 (by rw [← h.1])
    simp only [List.length_cons]
    refine ⟨fun h' => ?_, fun h' => ?_⟩
    · rw [List.cons_append, gp_blank hb, i1 (by omega)]
      simp only [Prod.mk.injEq, true_and]; omega
    · rw [List.cons_append, gp_blank hb, i2 (by omega)]
      simp only [Prod.mk.injEq, true_and]; omega
  · intro l hl ih k h
    rw [gp_line hl, Prod.mk.injEq] at h
    obtain ⟨i1, i2⟩ := ih _ (show _ = (true, _) by rw [← h.1])
    obtain ⟨t, ht⟩ := twoB_len hl
    have hl' : twoB 47 47 (l ++ 10 :: r) = true := by rw [ht]; rfl
    have hcl := cnt_le inLine l
    have hc : cnt inLine (l ++ 10 :: r) = cnt inLine l := by
      have := cnt_take inLine l (10 :: r) l.length hcl (Nat.le_refl _) (by rfl)
      rwa [List.take_length] at this
    have hd : (l ++ 10 :: r).drop (cnt inLine l) = l.drop (cnt inLine l) ++ 10 :: r := List.drop_append_of_le_length hcl
    rw [List.length_drop] at i1 i2
    refine ⟨fun h' => ?_, fun h' => ?_⟩
    · rw [gp_line hl', hc, hd, i1 (by omega)]
      simp only [Prod.mk.injEq, true_and]; omega
    · rw [gp_line hl', hc, hd, i2 (by omega)]
      simp only [Prod.mk.injEq, true_and]; omega
  · intro l hl he k h
    rw [gp_long_no hl he] at h; cases h
  · intro l j hl he ih k h
    rw [gp_long hl he, Prod.mk.injEq] at h
    obtain ⟨i1, i2⟩ := ih _ (show _ = (true, _) by rw [← h.1])
    obtain ⟨t, ht⟩ := twoB_len hl
    have hl' : twoB 47 42 (l ++ 10 :: r) = true := by rw [ht]; rfl
    have hle := endOf_le he
    have h2 : 2 ≤ l.length := by rw [ht]; simp
    rw [List.length_drop] at hle i1 i2
    have he' : endOf ((l ++ 10 :: r).drop 2) = some j := by
      rw [List.drop_append_of_le_length h2]; exact endOf_app _ he
    have hd : (l ++ 10 :: r).drop (2 + j + 2) = l.drop (2 + j + 2) ++ 10 :: r := List.drop_append_of_le_length (by omega)
    refine ⟨fun h' => ?_, fun h' => ?_⟩
    · rw [gp_long hl' he', hd, i1 (by omega)]
      simp only [Prod.mk.injEq, true_and]; omega
    · rw [gp_long hl' he', hd, i2 (by omega)]
      simp only [Prod.mk.injEq, true_and]; omega
  · intro b t hb h1 h2 k h
    rw [gp_other (by exact hb) h1 h2, Prod.mk.injEq] at h
    have e1 : ∀ a : UInt8, a ≠ 10 → twoB 47 a (b :: t) = false → twoB 47 a (b :: t ++ 10 :: r) = false := by
      intro a ha h
      rcases t with _ | ⟨c, t⟩
      · show ((b == 47) && ((10 : UInt8) == a)) = false
        rw [show ((10 : UInt8) == a) = false by simpa using fun e => ha e.symm, Bool.and_false]
      · exact h
    refine ⟨fun _ => ?_, fun h' => ?_⟩
    · rw [← h.2]
      exact gp_other (by exact hb) (e1 47 (by decide) h1) (e1 42 (by decide) h2)
    · simp only [List.length_cons] at h'; omega
theorem toks_app {l : List UInt8} {ts : List (Nat × List UInt8)} (h : Toks l ts) {r : List UInt8} {us : List (Nat × List UInt8)} (hr : Toks r us) : Toks (l ++ 10 :: r) (ts ++ us) := by
  induction h with
  | done l hg =>
    have h2 := (gp_app r l _ hg).2 rfl
    rw [List.nil_append]
    have hd : ∀ x, (l ++ 10 :: r).drop (l.length + 1 + x) = r.drop x := by
      intro x
      rw [← List.drop_drop, show l ++ 10 :: r = (l ++ [10]) ++ r by simp, List.drop_left' (by simp)]
    cases hr with
    | done _ hg2 =>
      rw [hg2] at h2
      exact .done _ (by rw [h2]; simp only [List.length_append, List.length_cons]; congr 1; omega)
    | step _ g k n ts' hg2 ht hk hT =>
      rw [hg2] at h2
      have := Toks.step (l ++ 10 :: r) (l.length + 1 + g) k n ts' h2 (by rw [hd]; exact ht) hk (by rw [hd]; exact hT)
      rwa [hd] at this
  | step l g k n ts hg ht hk hT ih =>
    have hn := token_n ht hk
    rw [List.length_drop] at hn
    have h2 := (gp_app r l _ hg).1 (by omega)
    have hd : (l ++ 10 :: r).drop g = l.drop g ++ 10 :: r := List.drop_append_of_le_length (by omega)
    have hsplit : l.drop g ++ 10 :: r = (l.drop g).take n ++ ((l.drop g).drop n ++ 10 :: r) := by
      rw [← List.append_assoc, List.take_append_drop]
    have hb : Behind ((l.drop g).drop n) ((l.drop g).drop n ++ 10 :: r) := by
      cases hx : (l.drop g).drop n with
      | nil => exact .inl rfl
      | cons a x => exact .inr rfl
    have htk := token_take ht hk hb
    have hlen : n ≤ (l.drop g).length := by rw [List.length_drop]; omega
    have h3 : (l.drop g ++ 10 :: r).take n = (l.drop g).take n := List.take_append_of_le_length hlen
    have h4 : (l.drop g ++ 10 :: r).drop n = (l.drop g).drop n ++ 10 :: r := List.drop_append_of_le_length hlen
    have := Toks.step (l ++ 10 :: r) g k n (ts ++ us) h2 (by rw [hd, hsplit]; exact htk) hk (by rw [hd, h4]; exact ih)
    rw [hd, h3] at this
    exact this
end Lx
end Go.Proofs.YtnlbhnmiekanfaaGreatDoor
