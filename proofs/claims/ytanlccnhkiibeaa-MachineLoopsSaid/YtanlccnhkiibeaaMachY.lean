/-
  A program that counts down in the plain machine. No condition but those that are written at each.
-/
import Derived.Test.YtanlccnhkiibeaaMachX
namespace Go.Proofs.Ytanlccnhkiibeaa
open Go.RowKit
set_option linter.unusedVariables false
set_option linter.unusedSimpArgs false
namespace MY
open MM MC MB MP MQ MR MX
def loopL (n : Int) : List Ins := [(18, 10, 0, 0, n), (18, 17, 0, 0, 1), (42, 0, 0, 0, 0), (18, 10, 10, 0, -1), (33, 0, 10, 0, -8), (18, 17, 0, 0, 3), (42, 0, 0, 0, 0)]
theorem loop_good (n : Nat) (hn : n ≤ 500) : ∀ i ∈ loopL (n : Int), good i := by
  have h0 : ∀ k : Fin 501, good (18, 10, 0, 0, (k.val : Int)) := by decide +kernel
  have h1 : ∀ i ∈ (loopL 0).tail, good i := by decide +kernel
  intro i hi
  rcases List.mem_cons.1 hi with rfl | hi
  · exact h0 ⟨n, by omega⟩
  · exact h1 i hi
theorem add_minus (m : Nat) (h : m + 1 ≤ 500) : (((m + 1 : Nat) : Int) + (-1) % 4294967296) % 4294967296 = (m : Int) := by omega
section
variable {N : Nat} {l : Int} (hN : 28 ≤ N)
include hN
theorem addi_at {s : St} {j : Nat} (h : Ready (loopL l) s j) {rd r1 : Nat} {im : Int} (hr : 0 < rd) (hj : (loopL l)[j]? = some (18, (rd : Int), (r1 : Int), 0, im)) (hg : good (18, (rd : Int), (r1 : Int), 0, im)) :
    ∃ s', (∀ k, MM.run N (k + 1) s [] = ⟨(MM.run N k s' []).s, (MM.run N k s' []).inp, [] ++ (MM.run N k s' []).out, (MM.run N k s' []).n + 1⟩) ∧ Ready (loopL l) s' (j + 1) ∧ (∀ k : Nat, s'.x k = if k = rd then (s.x r1 + im % 4294967296) % 4294967296 else s.x k) := by
  have hlt : j < 7 := (List.getElem?_eq_some_iff.1 hj).1
  have e := step_addi (N := N) (inp := []) h hj hg (by omega) (by omega)
  obtain ⟨s', r, h', x, _, _⟩ := reg_step h (by omega) rfl e
  refine ⟨s', r, h', fun k => ?_⟩
  rw [x k]
  by_cases e : k = rd
  · rw [if_pos e, if_pos (by omega)]
  · rw [if_neg e, if_neg (by omega)]
/-- from the ECALL that prints on: m rounds, and the end -/
theorem loop_tail (hG : ∀ i ∈ loopL l, good i) (m : Nat) : m + 1 ≤ 500 → ∀ (s : St) (K : Nat), Ready (loopL l) s 2 → s.x 10 = ((m + 1 : Nat) : Int) → s.x 17 = 1 →
    ∃ sT out, MM.run N (3 * (m + 1) + 2 + K) s [] = ⟨sT, [], out, 3 * (m + 1) + 2⟩ ∧ sT.state = 1 ∧ sT.x 10 = 0 ∧ out.length = m + 1 ∧ ∀ i, i < m + 1 → out[i]? = some (1, ((m + 1 : Nat) : Int) - i, 0) := by
  have G : ∀ (j : Nat) i, (loopL l)[j]? = some i → good i := fun j i h => hG i (List.mem_of_getElem? h)
  induction m with
  | zero =>
    intro hm s K h x10 x17
    have e := step_ecall (N := N) (inp := []) h rfl (G 2 _ rfl) (by omega) (by omega)
    unfold ecall at e
    rw [if_pos x17, x10] at e
    have h3 : Ready (loopL l) (setpc s ((4 * (2 + 1) : Nat) : Int)) 3 := h.put rfl
    have r2 := fun k => run_one (k := k) h.go e
    have y10 : (setpc s ((4 * (2 + 1) : Nat) : Int)).x 10 = 1 := x10
    generalize setpc s ((4 * (2 + 1) : Nat) : Int) = s3 at *
    obtain ⟨s4, r3, h4, x4⟩ := addi_at hN h3 (rd := 10) (r1 := 10) (im := -1) (by omega) rfl (G 3 _ rfl)
    have z10 : s4.x 10 = 0 := by rw [x4, y10]; rfl
    have e4 : MM.step N s4 [] = yes s4 ((4 * (4 + 1) : Nat) : Int) [] [] := by
      rw [step_code h4.code (j := 4) rfl (G 4 _ rfl) h4.pc (by omega), show act N s4 [] 33 0 10 0 (-8) = act N s4 [] 33 ((0 : Nat) : Int) ((10 : Nat) : Int) ((0 : Nat) : Int) (-8) from rfl, MS.eq_33, z10, h4.zero, if_neg (by decide), pc_next h4 (by omega)]
    have h5 : Ready (loopL l) (setpc s4 ((4 * (4 + 1) : Nat) : Int)) 5 := h4.put rfl
    have r4 := fun k => run_one (k := k) h4.go e4
    have w10 : (setpc s4 ((4 * (4 + 1) : Nat) : Int)).x 10 = 0 := z10
    generalize setpc s4 ((4 * (4 + 1) : Nat) : Int) = s5 at *
    obtain ⟨s6, r5, h6, x6⟩ := addi_at hN h5 (rd := 17) (r1 := 0) (im := 3) (by omega) rfl (G 5 _ rfl)
    have y17 : s6.x 17 = 3 := by rw [x6, h5.zero]; rfl
    have v10 : s6.x 10 = 0 := by rw [x6]; exact w10
    have e6 := step_ecall (N := N) (inp := []) h6 rfl (G 6 _ rfl) (by omega) (by omega)
    unfold ecall at e6
    rw [if_neg (by omega), if_neg (by omega), if_pos y17] at e6
    have r6 := fun k => run_one (k := k) h6.go e6
    refine ⟨setpc (setst s6 1) ((4 * (6 + 1) : Nat) : Int), [(1, 1, 0)], ?_, rfl, v10, rfl, fun i hi => ?_⟩
    · have q7 : MM.run N K (setpc (setst s6 1) ((4 * (6 + 1) : Nat) : Int)) [] = ⟨_, [], [], 0⟩ := run_stop N K _ _ (by show (1 : Int) ≠ 0; decide)
      have q := chain r2 (chain r3 (chain r4 (chain r5 (chain r6 q7))))
      rw [show 3 * (0 + 1) + 2 + K = K + 1 + 1 + 1 + 1 + 1 by omega]
      exact q
    · obtain rfl : i = 0 := by omega
      rfl
  | succ m ih =>
    intro hm s K h x10 x17
    have e := step_ecall (N := N) (inp := []) h rfl (G 2 _ rfl) (by omega) (by omega)
    unfold ecall at e
    rw [if_pos x17, x10] at e
    have h3 : Ready (loopL l) (setpc s ((4 * (2 + 1) : Nat) : Int)) 3 := h.put rfl
    have r2 := fun k => run_one (k := k) h.go e
    have y10 : (setpc s ((4 * (2 + 1) : Nat) : Int)).x 10 = ((m + 1 + 1 : Nat) : Int) := x10
    have y17 : (setpc s ((4 * (2 + 1) : Nat) : Int)).x 17 = 1 := x17
    generalize setpc s ((4 * (2 + 1) : Nat) : Int) = s3 at *
    obtain ⟨s4, r3, h4, x4⟩ := addi_at hN h3 (rd := 10) (r1 := 10) (im := -1) (by omega) rfl (G 3 _ rfl)
    have z10 : s4.x 10 = ((m + 1 : Nat) : Int) := by rw [x4, if_pos rfl, y10]; exact add_minus (m + 1) (by omega)
    have z17 : s4.x 17 = 1 := by rw [x4]; exact y17
    have e4 : MM.step N s4 [] = yes s4 ((4 * 2 : Nat) : Int) [] [] := by
      rw [step_code h4.code (j := 4) rfl (G 4 _ rfl) h4.pc (by omega), show act N s4 [] 33 0 10 0 (-8) = act N s4 [] 33 ((0 : Nat) : Int) ((10 : Nat) : Int) ((0 : Nat) : Int) (-8) from rfl, MS.eq_33, z10, h4.zero, if_pos (by simp [taken]; omega), h4.pc]
      rfl
    have h5 : Ready (loopL l) (setpc s4 ((4 * 2 : Nat) : Int)) 2 := h4.put rfl
    have r4 := fun k => run_one (k := k) h4.go e4
    have w10 : (setpc s4 ((4 * 2 : Nat) : Int)).x 10 = ((m + 1 : Nat) : Int) := z10
    have w17 : (setpc s4 ((4 * 2 : Nat) : Int)).x 17 = 1 := z17
    generalize setpc s4 ((4 * 2 : Nat) : Int) = s5 at *
    obtain ⟨sT, out, q, t1, t2, t3, t4⟩ := ih (by omega) s5 K h5 w10 w17
    refine ⟨sT, (1, ((m + 1 + 1 : Nat) : Int), 0) :: out, ?_, t1, t2, by simp [t3], fun i hi => ?_⟩
    · have q' := chain r2 (chain r3 (chain r4 q))
      rw [show 3 * (m + 1 + 1) + 2 + K = 3 * (m + 1) + 2 + K + 1 + 1 + 1 by omega]
      exact q'
    · cases i with
      | zero => rfl
      | succ i =>
        rw [List.getElem?_cons_succ, t4 i (by omega)]
        have : ((m + 1 : Nat) : Int) - (i : Int) = ((m + 1 + 1 : Nat) : Int) - ((i + 1 : Nat) : Int) := by omega
        rw [this]
end
/-- the whole run -/
theorem loop_run {N : Nat} (hN : 28 ≤ N) (n : Nat) (h0 : 1 ≤ n) (h5 : n ≤ 500) (s : St) (h : Ready (loopL (n : Int)) s 0) (F : Nat) (hF : 4 + 3 * n ≤ F) :
    ∃ sT out, MM.run N F s [] = ⟨sT, [], out, 4 + 3 * n⟩ ∧ sT.state = 1 ∧ sT.x 10 = 0 ∧ out.length = n ∧ ∀ i, i < n → out[i]? = some (1, (n : Int) - i, 0) := by
  have hG := loop_good n h5
  obtain ⟨m, rfl⟩ : ∃ m, n = m + 1 := ⟨n - 1, by omega⟩
  obtain ⟨s1, r0, h1, x1⟩ := addi_at hN h (rd := 10) (r1 := 0) (im := ((m + 1 : Nat) : Int)) (by omega) rfl (hG _ (by simp [loopL]))
  have y10 : s1.x 10 = ((m + 1 : Nat) : Int) := by rw [x1, if_pos rfl, h.zero]; omega
  obtain ⟨s2, r1, h2, x2⟩ := addi_at hN h1 (rd := 17) (r1 := 0) (im := 1) (by omega) rfl (hG _ (by simp [loopL]))
  have z10 : s2.x 10 = ((m + 1 : Nat) : Int) := by rw [x2]; exact y10
  have z17 : s2.x 17 = 1 := by rw [x2, if_pos rfl, h1.zero]; rfl
  obtain ⟨sT, out, q, t1, t2, t3, t4⟩ := loop_tail hN hG m (by omega) s2 (F - (4 + 3 * (m + 1))) h2 z10 z17
  refine ⟨sT, out, ?_, t1, t2, t3, t4⟩
  have q' := chain r0 (chain r1 q)
  rw [show F = 3 * (m + 1) + 2 + (F - (4 + 3 * (m + 1))) + 1 + 1 by omega]
  rw [q']
  simp only [List.nil_append, Rn.mk.injEq, true_and]
  omega
end MY
end Go.Proofs.Ytanlccnhkiibeaa
