/-
  A run, cut into steps: plain. No condition but those that are written at each.
-/
import Derived.Test.YtanlccnhkiibeaaMachCn
namespace Go.Proofs.Ytanlccnhkiibeaa
open Go.RowKit
set_option linter.unusedVariables false
set_option linter.unusedSimpArgs false
namespace MCo
open MM MC
theorem ecall_bad (s : St) (nx : Int) (inp : List Int) (h : (ecall s nx inp).ok = false) : (ecall s nx inp).inp = inp := by
  by_cases h2 : s.x 17 = 2
  · exfalso
    unfold ecall at h
    rw [if_neg (by omega), if_pos h2] at h
    have h' : true = false := h
    cases h'
  · rw [MCn.ecall_inp, if_neg h2]
theorem act_bad (N : Nat) (s : St) (inp : List Int) (op rd rs1 rs2 imm : Int) (h : (act N s inp op rd rs1 rs2 imm).ok = false) : (act N s inp op rd rs1 rs2 imm).inp = inp := by
  by_cases e : op = 42
  · subst e
    have e : act N s inp 42 rd rs1 rs2 imm = ecall s ((s.pc + 4) % 4294967296) inp := by
      unfold act isLoad isStore
      simp
    rw [e] at h ⊢
    exact ecall_bad _ _ _ h
  · exact MCn.act_inp _ _ _ _ _ _ _ _ e
theorem step_bad (N : Nat) (s : St) (inp : List Int) (h : (MM.step N s inp).ok = false) : (MM.step N s inp).inp = inp := by
  unfold MM.step at h ⊢
  by_cases hf : fit N s.pc 4 = true
  · rw [if_pos hf] at h ⊢
    by_cases h0 : CM.dec (num s.mem s.pc.toNat 4) = 0
    · rw [if_pos h0]; rfl
    · rw [if_neg h0] at h ⊢
      exact act_bad _ _ _ _ _ _ _ _ h
  · rw [if_neg hf]; rfl
theorem run_le (N : Nat) : ∀ (k : Nat) (s : St) (inp : List Int), (MM.run N k s inp).n ≤ k
  | 0, s, inp => Nat.le_refl 0
  | k + 1, s, inp => by
    by_cases h : s.state = 0
    · cases hk : (MM.step N s inp).ok with
      | true =>
        rw [run_yes N k s inp h _ rfl hk]
        exact Nat.succ_le_succ (run_le N k _ _)
      | false =>
        rw [run_no N k s inp h _ rfl hk]
        exact Nat.zero_le _
    · rw [run_stop N (k + 1) s inp h]
      exact Nat.zero_le _
/-- what is left of the input, after the steps that were done alone -/
theorem run_inp (N : Nat) : ∀ (k : Nat) (s : St) (inp : List Int), (MM.run N (MM.run N k s inp).n s inp).inp = (MM.run N k s inp).inp
  | 0, s, inp => rfl
  | k + 1, s, inp => by
    by_cases h : s.state = 0
    · cases hk : (MM.step N s inp).ok with
      | true =>
        rw [run_yes N k s inp h _ rfl hk]
        show (MM.run N ((MM.run N k (MM.step N s inp).s (MM.step N s inp).inp).n + 1) s inp).inp = (MM.run N k (MM.step N s inp).s (MM.step N s inp).inp).inp
        rw [run_yes N _ s inp h _ rfl hk]
        exact run_inp N k _ _
      | false =>
        rw [run_no N k s inp h _ rfl hk]
        exact (step_bad N s inp hk).symm
    · rw [run_stop N (k + 1) s inp h]
      rfl
/-- a step that was done -/
theorem run_next (N F k : Nat) (s : St) (inp : List Int) (h : k < (MM.run N F s inp).n) :
    (MM.run N k s inp).s.state = 0 ∧ (MM.step N (MM.run N k s inp).s (MM.run N k s inp).inp).ok = true ∧
      MM.run N 1 (MM.run N k s inp).s (MM.run N k s inp).inp = ⟨(MM.run N (k + 1) s inp).s, (MM.run N (k + 1) s inp).inp, (MM.step N (MM.run N k s inp).s (MM.run N k s inp).inp).out, 1⟩ ∧
      (MM.run N (k + 1) s inp).inp = (MM.step N (MM.run N k s inp).s (MM.run N k s inp).inp).inp := by
  have hle := run_le N F s inp
  have h1 := run_add N k (F - k) s inp
  rw [show k + (F - k) = F by omega] at h1
  have h2 := run_le N k s inp
  have h3 : (MM.run N F s inp).n = (MM.run N k s inp).n + (MM.run N (F - k) (MM.run N k s inp).s (MM.run N k s inp).inp).n := by rw [h1]
  have h4 := run_add N k 1 s inp
  rw [h4]
  generalize MM.run N k s inp = T at *
  obtain ⟨m, hm⟩ : ∃ m, F - k = m + 1 := ⟨F - k - 1, by omega⟩
  rw [hm] at h3
  by_cases hs : T.s.state = 0
  · cases hk : (MM.step N T.s T.inp).ok with
    | true =>
      have e := run_yes N 0 T.s T.inp hs _ rfl hk
      have e1 : MM.run N 1 T.s T.inp = ⟨(MM.step N T.s T.inp).s, (MM.step N T.s T.inp).inp, (MM.step N T.s T.inp).out, 1⟩ := by
        rw [show (1 : Nat) = 0 + 1 from rfl, e]
        simp [run_zero]
      rw [e1]
      exact ⟨hs, rfl, rfl, rfl⟩
    | false =>
      rw [run_no N m T.s T.inp hs _ rfl hk] at h3
      have : (MM.run N F s inp).n = T.n + 0 := h3
      omega
  · rw [run_stop N (m + 1) T.s T.inp hs] at h3
    have : (MM.run N F s inp).n = T.n + 0 := h3
    omega
end MCo
end Go.Proofs.Ytanlccnhkiibeaa
