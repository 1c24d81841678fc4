/-
  Tokens of particular texts, plainly: digits, names, signs and blanks; texts with no point. No program, no condition.
-/
import Derived.Test.YtnlbhnmiekanfaaGreatDoorLexL
namespace Go.Proofs.YtnlbhnmiekanfaaGreatDoor
set_option linter.unusedVariables false
set_option linter.unusedSimpArgs false
namespace Lx
/-! ### no point, no real -/
theorem sees_mem {p : UInt8 → Bool} {l : List UInt8} (h : ∀ b ∈ l, p b = false) : sees p l = false := by
  cases l with
  | nil => rfl
  | cons b l => exact h b (List.mem_cons_self ..)
theorem isReal_dot {l : List UInt8} (h : ∀ b ∈ l, isB 46 b = false) : isReal l = false := by
  unfold isReal
  rw [sees_mem (fun b hb => h b (List.mem_of_mem_drop hb))]
  simp
/-! ### what begins with no blank and no slash -/
theorem gp_tok {b : UInt8} {t : List UInt8} (h : blank b = false) (h2 : b ≠ 47) : gp (b :: t) = (true, 0) := by
  have h3 : ∀ c, twoB 47 c (b :: t) = false := by
    intro c
    unfold twoB
    have : sees (isB 47) (b :: t) = false := by show (b == 47) = false; simpa using h2
    rw [this]; rfl
  exact gp_other h (h3 _) (h3 _)
theorem cnt_all {p : UInt8 → Bool} {l : List UInt8} (h : ∀ b ∈ l, p b = true) : cnt p l = l.length := by
  induction l with
  | nil => rfl
  | cons b l ih => rw [cnt_yes (h b (List.mem_cons_self ..)), ih (fun c hc => h c (List.mem_cons_of_mem _ hc)), List.length_cons]
theorem digit_bd {b : UInt8} (h : digit b = true) : 48 ≤ b.toNat ∧ b.toNat ≤ 57 := by
  unfold digit at h
  simpa using h
theorem digit_not {b : UInt8} (h : digit b = true) : blank b = false ∧ letter b = false ∧ b ≠ 47 ∧ isB 46 b = false := by
  have hb := digit_bd h
  refine ⟨?_, ?_, ?_, ?_⟩
  · cases hx : blank b with
    | false => rfl
    | true => have := (blank_iff b).1 hx; omega
  · unfold letter
    rw [show decide (97 ≤ b.toNat) = false from decide_eq_false (by omega), show decide (65 ≤ b.toNat) = false from decide_eq_false (by omega)]
    simp only [Bool.false_and, Bool.false_or]
    cases hx : (b == 95) with
    | false => rfl
    | true => have := congrArg UInt8.toNat (eq_of_beq hx); have e : (95 : UInt8).toNat = 95 := rfl; omega
  · rintro rfl; have e : (47 : UInt8).toNat = 47 := rfl; omega
  · unfold isB
    cases hx : (b == 46) with
    | false => rfl
    | true => have := congrArg UInt8.toNat (eq_of_beq hx); have e : (46 : UInt8).toNat = 46 := rfl; omega
theorem tk_nil (p c : Nat) : tk [] p c = .ok [⟨0, [], p⟩] := by
  have := tk_end (l := []) (g := 0) (n := 0) p c gp_nil rfl
  simpa using this
/-! ### digits alone -/
theorem span_digits {l : List UInt8} (h : ∀ b ∈ l, digit b = true) : span l = (2, l.length) := by
  rw [span_eq, cnt_all h, List.drop_length]
  rfl
theorem lex_digits {l : List UInt8} (h : ∀ b ∈ l, digit b = true) (hn : l ≠ []) (hl : l.length ≤ 8192) :
    lex l = if isInt l then .ok [⟨2, l, 0⟩, ⟨0, [], l.length⟩] else .error (0, 10) := by
  rw [lex_eq l hl]
  obtain ⟨b, t, rfl⟩ : ∃ b t, l = b :: t := by
    cases l with
    | nil => exact absurd rfl hn
    | cons b t => exact ⟨b, t, rfl⟩
  have hb := digit_not (h b (List.mem_cons_self ..))
  have hg := gp_tok (t := t) hb.1 hb.2.2.1
  have ht : token (b :: t) = number (b :: t) := by
    rw [token_eq, if_neg (by simp [hb.2.1]), if_pos (h b (List.mem_cons_self ..))]
  have hnum : number (b :: t) = if isInt (b :: t) then some (2, (b :: t).length) else none := by
    have e : ∀ l : List UInt8, span l = (2, l.length) → number l = if (if (2 : Nat) = 3 then isReal (l.take l.length) else isInt (l.take l.length)) && !sees inNumber (l.drop l.length) then some (2, l.length) else none := by
      intro l hl; unfold number; rw [hl]
    rw [e _ (span_digits h), List.take_length, List.drop_length, if_neg (show ¬ (2 : Nat) = 3 by omega)]
    show (if isInt (b :: t) && !false then _ else _) = _
    rw [show (!false) = true from rfl, Bool.and_true]
  cases hi : isInt (b :: t) with
  | false =>
    rw [hi] at hnum
    rw [if_neg (by simp)]
    exact tk_none 0 0 hg (by rw [List.drop_zero, ht, hnum]; rfl)
  | true =>
    rw [hi, if_pos rfl] at hnum
    rw [if_pos rfl, tk_step (k := 2) (n := (b :: t).length) 0 0 hg (by rw [List.drop_zero, ht, hnum]) (by omega) (by omega)]
    rw [List.drop_zero, List.take_length, List.drop_length, tk_nil]
    simp [more]
/-- the digits of a number, as they are written from the back -/
structure Dec (k x : Nat) (l : List UInt8) : Prop where
  all : ∀ b ∈ l, digit b = true
  sum : val l + x * 10 ^ l.length = k
  len : l.length ≤ 1 ∨ 10 ^ (l.length - 1) ≤ k
theorem val_foldl (l : List UInt8) : ∀ n, l.foldl (fun n b => n * 10 + (b.toNat - 48)) n = n * 10 ^ l.length + val l := by
  unfold val
  induction l with
  | nil => intro n; simp
  | cons b l ih =>
    intro n
    rw [List.foldl_cons, ih, List.foldl_cons, ih (0 * 10 + _), List.length_cons, Nat.pow_succ, Nat.add_mul, Nat.zero_mul, Nat.zero_add, Nat.mul_assoc, Nat.mul_comm 10 (10 ^ l.length), Nat.add_assoc]
theorem val_cons (b : UInt8) (l : List UInt8) : val (b :: l) = (b.toNat - 48) * 10 ^ l.length + val l := by
  have := val_foldl l (b.toNat - 48)
  rw [← this]
  unfold val
  rw [List.foldl_cons, Nat.zero_mul, Nat.zero_add]
theorem Dec.start (k : Nat) : Dec k k [] := ⟨by simp, by simp [val], .inl (by simp)⟩
theorem Dec.next {k x : Nat} {l : List UInt8} {b : UInt8} (h : Dec k x l) (hb : b.toNat = 48 + x % 10) (hx : 0 < x ∨ l = []) : Dec k (x / 10) (b :: l) := by
  obtain ⟨h1, h2, h3⟩ := h
  have hm := Nat.mod_lt x (show 0 < 10 by omega)
  refine ⟨?_, ?_, ?_⟩
  · intro c hc
    rcases List.mem_cons.1 hc with rfl | hc
    · unfold digit
      rw [decide_eq_true (by omega), decide_eq_true (by omega)]; rfl
    · exact h1 c hc
  · rw [val_cons, hb, show 48 + x % 10 - 48 = x % 10 by omega, List.length_cons, Nat.pow_succ, Nat.mul_comm (10 ^ l.length) 10, ← Nat.mul_assoc]
    rw [← h2]
    have e : x * 10 ^ l.length = x % 10 * 10 ^ l.length + x / 10 * 10 * 10 ^ l.length := by
      rw [← Nat.add_mul]
      congr 1
      have := Nat.mod_add_div x 10
      omega
    omega
  · rcases hx with hx | rfl
    · right
      rw [List.length_cons, Nat.add_sub_cancel, ← h2]
      have : 1 * 10 ^ l.length ≤ x * 10 ^ l.length := Nat.mul_le_mul_right _ hx
      omega
    · left; simp
theorem Dec.short {k x : Nat} {l : List UInt8} (h : Dec k x l) (hk : k < 2 ^ 34) : l.length ≤ 11 := by
  rcases h.len with h1 | h1
  · omega
  · rcases Nat.lt_or_ge 11 l.length with c | c
    · have h2 : 10 ^ 11 ≤ 10 ^ (l.length - 1) := Nat.pow_le_pow_right (by omega) (by omega)
      have e : (10 : Nat) ^ 11 = 100000000000 := by decide
      have e2 : (2 : Nat) ^ 34 = 17179869184 := by decide
      omega
    · exact c
theorem Dec.isInt {k : Nat} {l : List UInt8} (h : Dec k 0 l) : isInt l = decide (k < 4294967296) := by
  have hv : val l = k := by have := h.sum; omega
  unfold Lx.isInt
  rw [hv]
  by_cases hk : k < 4294967296
  · rw [decide_eq_true hk, decide_eq_true (show k ≤ 4294967295 by omega), decide_eq_true, Bool.and_true]
    rcases h.len with h1 | h1
    · omega
    · rcases Nat.lt_or_ge 10 l.length with c | c
      · have h2 : 10 ^ 10 ≤ 10 ^ (l.length - 1) := Nat.pow_le_pow_right (by omega) (by omega)
        have e : (10 : Nat) ^ 10 = 10000000000 := by decide
        omega
      · exact c
  · rw [decide_eq_false hk, decide_eq_false (show ¬ k ≤ 4294967295 by omega), Bool.and_false]
/-! ### names alone -/
theorem letter_not {b : UInt8} (h : letter b = true) : blank b = false ∧ b ≠ 47 := by
  constructor
  · cases hx : blank b with
    | false => rfl
    | true => have := (blank_not hx).1; rw [h] at this; cases this
  · rintro rfl; revert h; decide
theorem lex_name {b : UInt8} {t : List UInt8} (hb : letter b = true) (h : ∀ c ∈ b :: t, inName c = true) (hl : (b :: t).length ≤ 8192) :
    lex (b :: t) = if reserved (b :: t) then .ok [⟨5, b :: t, 0⟩, ⟨0, [], (b :: t).length⟩] else if (b :: t).length ≤ 40 then .ok [⟨1, b :: t, 0⟩, ⟨0, [], (b :: t).length⟩] else .error (0, 10) := by
  rw [lex_eq _ hl]
  have hg := gp_tok (t := t) (letter_not hb).1 (letter_not hb).2
  have ht : token (b :: t) = name (b :: t) := by rw [token_eq, if_pos hb]
  have hnm : name (b :: t) = if reserved (b :: t) then some (5, (b :: t).length) else if (b :: t).length ≤ 40 then some (1, (b :: t).length) else none := by
    unfold name
    dsimp only
    rw [cnt_all h, List.take_length]
  have key : ∀ k, k ≠ 0 → token (b :: t) = some (k, (b :: t).length) → tk (b :: t) 0 0 = .ok [⟨k, b :: t, 0⟩, ⟨0, [], (b :: t).length⟩] := by
    intro k hk hk2
    rw [tk_step (k := k) (n := (b :: t).length) 0 0 hg (by rw [List.drop_zero]; exact hk2) hk (by omega), List.drop_zero, List.take_length, List.drop_length, tk_nil]
    simp [more]
  split
  · rename_i hr
    exact key 5 (by omega) (by rw [ht, hnm, if_pos hr])
  · rename_i hr
    split
    · rename_i h40
      exact key 1 (by omega) (by rw [ht, hnm, if_neg hr, if_pos h40])
    · rename_i h40
      exact tk_none 0 0 hg (by rw [List.drop_zero, ht, hnm, if_neg hr, if_neg h40])
theorem reserved_short {l : List UInt8} (h : reserved l = true) : l.length ≤ 8 := by
  unfold reserved words at h
  simp only [List.contains_eq_mem, decide_eq_true_eq] at h
  revert h
  simp only [List.mem_cons, List.not_mem_nil, or_false]
  rintro (rfl | rfl | rfl | rfl | rfl | rfl | rfl | rfl | rfl | rfl | rfl) <;> decide
/-! ### signs and blanks -/
theorem gp_blanks : ∀ m, gp (List.replicate m 32) = (true, m)
  | 0 => rfl
  | m + 1 => by
    rw [List.replicate_succ, gp_blank rfl, gp_blanks m]
    show (true, 1 + m) = _
    rw [Nat.add_comm]
theorem tk_blanks (m p c : Nat) : tk (List.replicate m 32) p c = .ok [⟨0, [], p + m⟩] :=
  tk_end (n := 0) p c (gp_blanks m) (token_nil (by rw [List.drop_of_length_le]; simp))
theorem tk_signs (m : Nat) : ∀ n p c, c + n ≤ 2500 → ∃ us, tk (List.replicate n 59 ++ List.replicate m 32) p c = .ok us ∧ us.length = n + 1
  | 0, p, c, _ => ⟨_, by rw [List.replicate_zero, List.nil_append]; exact tk_blanks m p c, rfl⟩
  | n + 1, p, c, h => by
    obtain ⟨us, h1, h2⟩ := tk_signs m n (p + 0 + 1) (c + 1) (by omega)
    refine ⟨⟨4, [59], p + 0⟩ :: us, ?_, by rw [List.length_cons, h2]⟩
    rw [List.replicate_succ, List.cons_append]
    have hs : ∀ t : List UInt8, t.head? ≠ none ∨ t = [] → sign (59 :: t) = some (4, 1) := by
      intro t _
      cases t with
      | nil => decide
      | cons x t =>
        rw [sign_2, if_neg, if_pos (by decide)]
        unfold isSign twos ones
        simp
    rw [tk_step (k := 4) (n := 1) p c (gp_tok rfl (by decide)) (by
      rw [List.drop_zero, token_eq, if_neg (by decide), if_neg (by decide)]
      exact hs _ (by cases (List.replicate n 59 ++ List.replicate m 32 : List UInt8) <;> simp)) (by omega) (by omega)]
    rw [List.drop_zero, List.drop_one, List.tail_cons, h1]
    rfl
theorem tk_full' (m : Nat) : ∀ n p c, c ≤ 2500 → 2500 < c + n → tk (List.replicate n 59 ++ List.replicate m 32) p c = .error (p + (2500 - c), 5)
  | 0, p, c, h1, h2 => by omega
  | n + 1, p, c, h1, h2 => by
    rw [List.replicate_succ, List.cons_append]
    have hs : ∀ t : List UInt8, token (59 :: t) = some (4, 1) := by
      intro t
      rw [token_eq, if_neg (by decide), if_neg (by decide)]
      cases t with
      | nil => decide
      | cons x t =>
        rw [sign_2, if_neg, if_pos (by decide)]
        unfold isSign twos ones
        simp
    by_cases hc : c = 2500
    · subst hc
      rw [tk_full (k := 4) (n := 1) p (gp_tok rfl (by decide)) (by rw [List.drop_zero]; exact hs _) (by omega)]
    · rw [tk_step (k := 4) (n := 1) p c (gp_tok rfl (by decide)) (by rw [List.drop_zero]; exact hs _) (by omega) hc]
      rw [List.drop_zero, List.drop_one, List.tail_cons, tk_full' m n (p + 0 + 1) (c + 1) (by omega) (by omega)]
      show Except.error _ = _
      rw [show p + 0 + 1 + (2500 - (c + 1)) = p + (2500 - c) by omega]
theorem lex_many {n m : Nat} (hl : n + m ≤ 8192) : (n ≤ 2500 ∧ ∃ us, lex (List.replicate n 59 ++ List.replicate m 32) = .ok us ∧ us.length = n + 1) ∨ (2500 < n ∧ lex (List.replicate n 59 ++ List.replicate m 32) = .error (2500, 5)) := by
  rw [lex_eq _ (by simp; omega)]
  by_cases h : n ≤ 2500
  · exact .inl ⟨h, tk_signs m n 0 0 (by omega)⟩
  · exact .inr ⟨by omega, by rw [tk_full' m n 0 0 (by omega) (by omega)]⟩
theorem lex_much {n m : Nat} (hl : 8192 < n + m) : lex (List.replicate n 59 ++ List.replicate m 32) = .error (0, 6) := lex_long _ (by simp; omega)
end Lx
end Go.Proofs.YtnlbhnmiekanfaaGreatDoor
