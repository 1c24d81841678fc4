/-
  Load of bytes that came in as an argument; what a step takes of the input. No condition but those that are written at each.
-/
import Derived.Test.YtanlccnhkiibeaaMachCm
import Derived.Test.YtanlccnhkiibeaaMachO
namespace Go.Proofs.Ytanlccnhkiibeaa
open Go.RowKit
set_option linter.unusedVariables false
set_option linter.unusedSimpArgs false
namespace MCn
open MM MC
theorem load_arg {W w : World} {v : Value} {xs : List Int} (h : MO.Arg .u8 W v xs) (hb : Below W.heap.size W w) (hl : xs.length ≤ 4000) (e : Int) (he : 0 ≤ e ∧ e ≤ 4294967295) (stack : Int) (hs : 0 ≤ stack) (hs2 : stack + MW.up xs.length ≤ 2097152) (N : Nat) (hN : MW.up (MW.up xs.length + stack) = N) :
    Calls Try.prog 9 #[.agg #[.int .i64 e, v], .int .i64 stack] w fun e1 w' => ∃ b bm, e1 = .returned (.tuple #[.pointer (some ⟨b, 0, none⟩), .int .i64 0]) ∧ At w' b bm N (MW.loaded (fun k => xs.getD k 0) xs.length (MW.up xs.length) N e) ∧ w.heap.size ≤ b ∧ w.heap.size ≤ bm ∧ Below w.heap.size w w' := by
  obtain ⟨p, c, rfl, h⟩ := h
  by_cases e0 : xs = []
  · subst e0
    exact MW.load_none e he p c stack hs hs2 N hN _ w
  · obtain ⟨g, o, rfl, q1, q2, q3, q4⟩ := h e0
    refine MW.load_ok e he g o xs.length c stack hl hs hs2 N hN _ w (Nat.lt_of_lt_of_le q3 hb.size) (fun k hk => ?_)
    rw [List.getD_eq_getElem?_getD, List.getElem?_eq_getElem hk]
    exact (hb.cell (p := ⟨g, o + k, none⟩) q3).trans (q4 k _ (List.getElem?_eq_getElem hk))
/-! ### what a step takes -/
theorem act_inp (N : Nat) (s : St) (inp : List Int) (op rd rs1 rs2 imm : Int) (h : op ≠ 42) : (act N s inp op rd rs1 rs2 imm).inp = inp := by
  unfold act
  repeat' split
  all_goals first | rfl | (exfalso; exact h (by assumption))
theorem ecall_inp (s : St) (nx : Int) (inp : List Int) : (ecall s nx inp).inp = if s.x 17 = 2 then inp.tail else inp := by
  unfold ecall
  by_cases h : s.x 17 = 2
  · rw [if_neg (by omega), if_pos h, if_pos h]; rfl
  · rw [if_neg h]
    repeat' split
    all_goals first | rfl | (exfalso; exact h (by assumption))
theorem dec_115 : CM.dec 115 = 42 := by decide +kernel
theorem dec_42 (x : Int) (h : CM.dec x = 42) : x = 115 := by
  have hh : CM.hit 42 x = true := by
    unfold CM.dec at h
    cases e : (List.range 55).find? fun n => CM.hit ((n + 1 : Nat) : Int) x with
    | none => rw [e] at h; simp at h
    | some n =>
      rw [e] at h
      have hn : n = 41 := by simp only at h; omega
      subst hn
      have h3 := List.find?_some e
      exact h3
  have h2 := (CM.hit_op hh).2
  rw [← h2]
  rfl
theorem step_inp (N : Nat) (s : St) (inp : List Int) : (MM.step N s inp).inp = if fit N s.pc 4 = true ∧ num s.mem s.pc.toNat 4 = 115 ∧ s.x 17 = 2 then inp.tail else inp := by
  unfold MM.step
  by_cases hf : fit N s.pc 4 = true
  · rw [if_pos hf]
    generalize num s.mem s.pc.toNat 4 = x
    by_cases h0 : CM.dec x = 0
    · rw [if_pos h0, if_neg (by rintro ⟨-, rfl, -⟩; rw [dec_115] at h0; omega)]
      rfl
    · rw [if_neg h0]
      by_cases h42 : iOp x = 42
      · have hx := dec_42 x h42
        have e : act N s inp (iOp x) (iRd x) (iRs1 x) (iRs2 x) (iImm x) = ecall s ((s.pc + 4) % 4294967296) inp := by
          subst hx
          rw [show iOp 115 = 42 from dec_115]
          unfold act isLoad isStore
          simp
        rw [e, ecall_inp]
        by_cases h17 : s.x 17 = 2
        · rw [if_pos h17, if_pos ⟨hf, hx, h17⟩]
        · rw [if_neg h17, if_neg (fun h => h17 h.2.2)]
      · rw [act_inp _ _ _ _ _ _ _ _ h42, if_neg]
        rintro ⟨-, rfl, -⟩
        exact h42 dec_115
  · rw [if_neg hf, if_neg (fun h => hf h.1)]
    rfl
end MCn
end Go.Proofs.Ytanlccnhkiibeaa
