/-
  Tokens of a text, plainly: each stands in the text at its place, in order. No program, no condition.
-/
import Derived.Test.YtldglmehchkbeaaGreatDoorLexL
namespace Go.Proofs.YtldglmehchkbeaaGreatDoor
set_option linter.unusedVariables false
set_option linter.unusedSimpArgs false
namespace Lx
/-- tokens that stand in l0 in order, from a place on -/
def Stands (l0 : List UInt8) : Nat → List Tok → Prop
  | _, [] => True
  | last, t :: ts => (1 ≤ t.kind ∧ t.kind ≤ 5) ∧ last ≤ t.place ∧ 1 ≤ t.text.length ∧ t.place + t.text.length ≤ l0.length ∧ (l0.drop t.place).take t.text.length = t.text ∧ Stands l0 (t.place + t.text.length) ts
theorem stands_of (l0 : List UInt8) (m : Nat) : ∀ (p c : Nat) (ts : List Tok), (l0.drop p).length ≤ m → tk (l0.drop p) p c = .ok ts → ∃ us, ts = us ++ [⟨0, [], p + (l0.drop p).length⟩] ∧ Stands l0 p us := by
  induction m with
  | zero =>
    intro p c ts hl h
    have e : l0.drop p = [] := List.length_eq_zero_iff.1 (by omega)
    rw [e] at h ⊢
    rw [tk_end (n := 0) p c gp_nil rfl] at h
    injection h with h
    exact ⟨[], h.symm, trivial⟩
  | succ m ih =>
    intro p c ts hl h
    cases hg : gp (l0.drop p) with
    | mk b g =>
      cases b with
      | false => rw [tk_gap p c hg] at h; cases h
      | true =>
        have hgl := gp_le (l0.drop p)
        rw [hg] at hgl
        simp only at hgl
        cases ht : token ((l0.drop p).drop g) with
        | none => rw [tk_none p c hg ht] at h; cases h
        | some x =>
          obtain ⟨k, n⟩ := x
          by_cases hk : k = 0
          · subst hk
            rw [tk_end p c hg ht] at h
            injection h with h
            have hd := token_zero ht
            have hgl' : g = (l0.drop p).length := by
              have h2 := congrArg List.length hd
              rw [List.length_drop] at h2
              simp only [List.length_nil] at h2
              omega
            subst hgl'
            exact ⟨[], h.symm, trivial⟩
          · have hlt := rest_len ht hk
            by_cases hc' : c = 2500
            · subst hc'
              rw [tk_full p hg ht hk] at h; cases h
            · rw [tk_step p c hg ht hk hc'] at h
              have hn := token_n ht hk
              rw [List.drop_drop] at ht hn
              rw [List.drop_drop, List.drop_drop] at h
              rw [List.length_drop] at hn hgl
              rw [List.drop_drop, List.drop_drop, show p + (g + n) = p + g + n by omega] at hlt
              cases hr : tk (l0.drop (p + g + n)) (p + g + n) (c + 1) with
              | error e => rw [hr] at h; cases h
              | ok rs =>
                rw [hr] at h
                injection h with h
                obtain ⟨us, e1, e2⟩ := ih _ _ rs (by omega) hr
                have htl : ((l0.drop (p + g)).take n).length = n := by rw [List.length_take, List.length_drop]; omega
                refine ⟨⟨k, (l0.drop (p + g)).take n, p + g⟩ :: us, ?_, ⟨hn.2.2.1, hn.2.2.2⟩, by simp only; omega, by simp only; omega, by simp only; omega, ?_, ?_⟩
                · rw [← h, e1]
                  have hl2 : p + g + n + (l0.drop (p + g + n)).length = p + (l0.drop p).length := by
                    rw [List.length_drop, List.length_drop]; omega
                  rw [hl2]; rfl
                · simp only
                  rw [htl]
                · simp only
                  rw [htl]
                  exact e2
theorem stands_lex {l : List UInt8} {ts : List Tok} (hl : l.length ≤ 8192) (h : lex l = .ok ts) : ∃ us, ts = us ++ [⟨0, [], l.length⟩] ∧ Stands l 0 us := by
  rw [lex_eq l hl] at h
  have := stands_of l l.length 0 0 ts (by rw [List.drop_zero]; exact Nat.le_refl _) (by rw [List.drop_zero]; exact h)
  rwa [List.drop_zero, Nat.zero_add] at this
end Lx
end Go.Proofs.YtldglmehchkbeaaGreatDoor
