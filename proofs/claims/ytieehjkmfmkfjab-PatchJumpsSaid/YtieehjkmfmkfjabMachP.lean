/-
  Programs in the machine's memory, plainly: what a step does whose instruction is known. No condition but those that are written at each.
-/
import Derived.Test.YtieehjkmfmkfjabMachB
import Derived.Test.YtieehjkmfmkfjabMachV
import Derived.Test.YtieehjkmfmkfjabCodeL
namespace Go.Proofs.Ytieehjkmfmkfjab
open Go.RowKit
set_option linter.unusedVariables false
set_option linter.unusedSimpArgs false
namespace MP
open MM MC MB
theorem bts_get (xs : List Int) (j i : Nat) (hi : i < 4) (x : Int) (h : xs[j]? = some x) : (bts xs)[4 * j + i]? = (bs x)[i]? := by
  induction xs generalizing j with
  | nil => simp at h
  | cons y xs ih =>
    have e : bts (y :: xs) = bs y ++ bts xs := rfl
    cases j with
    | zero =>
      simp only [List.getElem?_cons_zero, Option.some.injEq] at h
      subst h
      rw [e, List.getElem?_append_left (by show _ < 4; omega)]
      simp
    | succ j =>
      rw [e, List.getElem?_append_right (by show 4 ≤ _; omega), show 4 * (j + 1) + i - (bs y).length = 4 * j + i by show _ - 4 = _; omega]
      exact ih j (by simpa using h)
/-- the bytes of words, one by one -/
def fb (xs : List Int) : Nat → Int := fun k => (bts xs).getD k 0
/-- this code stands from address 0 on -/
def Code (l : List Ins) (g : Nat → Int) : Prop := ∀ k, k < 4 * l.length → g k = fb (l.map wordOf) k
theorem code_loaded (l : List Ins) (u : Int) (N : Nat) (e : Int) : Code l (MW.loaded (fb (l.map wordOf)) (4 * l.length) u N e).mem := fun k hk => by
  show MW.bytesOf _ _ _ = _
  unfold MW.bytesOf
  rw [if_pos hk]
theorem num_four (g : Nat → Int) (a : Nat) : num g a 4 = g a + g (a + 1) * 256 + g (a + 2) * 65536 + g (a + 3) * 16777216 := by
  show ((((0 + g (a + 0) * 256 ^ 0) + g (a + 1) * 256 ^ 1) + g (a + 2) * 256 ^ 2) + g (a + 3) * 256 ^ 3) = _
  simp
theorem num_code {l : List Ins} {g : Nat → Int} (h : Code l g) {j : Nat} {i : Ins} (hj : l[j]? = some i) (hw : 0 ≤ wordOf i ∧ wordOf i < 4294967296) : num g (4 * j) 4 = wordOf i := by
  have hlt : j < l.length := (List.getElem?_eq_some_iff.1 hj).1
  have hm : (l.map wordOf)[j]? = some (wordOf i) := by rw [List.getElem?_map, hj]; rfl
  have hb : ∀ q, q < 4 → g (4 * j + q) = (bs (wordOf i)).getD q 0 := fun q hq => by
    rw [h _ (by omega)]
    unfold fb
    rw [List.getD_eq_getElem?_getD, bts_get _ j q hq _ hm, ← List.getD_eq_getElem?_getD]
  rw [num_four, show g (4 * j) = _ from hb 0 (by omega), hb 1 (by omega), hb 2 (by omega), hb 3 (by omega)]
  generalize wordOf i = x at *
  show x % 256 + x / 256 % 256 * 256 + x / 65536 % 256 * 65536 + x / 16777216 % 256 * 16777216 = x
  omega
/-- a step at a known instruction -/
theorem step_code {N : Nat} {s : St} {inp : List Int} {l : List Ins} (h : Code l s.mem) {j : Nat} {a b c d e : Int} (hj : l[j]? = some (a, b, c, d, e)) (hg : good (a, b, c, d, e)) (hpc : s.pc = ((4 * j : Nat) : Int)) (hN : 4 * j + 4 ≤ N) :
    MM.step N s inp = act N s inp a b c d e := by
  have he : CE.encE a b c d e = 0 := hg.1
  have hb := CL.enc_bd a b c d e
  have hn := num_code h hj hb
  obtain ⟨d0, d1, d2, d3, d4, d5⟩ := CL.dec_enc he
  obtain ⟨ho, _⟩ := CL.good_of_enc he
  have hop := CM.isOp_yes ho
  have hz : CM.dec (wordOf (a, b, c, d, e)) ≠ 0 := by
    have : CM.dec (CE.encW a b c d e) = a := d1
    show CM.dec (CE.encW a b c d e) ≠ 0
    rw [this]; omega
  have hf : fit N s.pc 4 = true := by
    rw [hpc]
    simp only [fit, decide_eq_true_eq]
    omega
  have hp : s.pc.toNat = 4 * j := by rw [hpc]; rfl
  rw [MT.step_act hf (by rw [hp, hn]; exact hz), hp, hn]
  show act N s inp (CD.dOp (CE.encW a b c d e)) (CD.dRd (CE.encW a b c d e)) (CD.dRs1 (CE.encW a b c d e)) (CD.dRs2 (CE.encW a b c d e)) (CD.dImm (CE.encW a b c d e)) = _
  rw [d1, d2, d3, d4, d5]
theorem yes_mem (s : St) (pc : Int) (i : List Int) (o : List Ev) : (yes s pc i o).s.mem = s.mem := rfl
theorem setx_mem (s : St) (rd v : Int) : (setx s rd v).mem = s.mem := by unfold setx; split <;> rfl
theorem setx_state (s : St) (rd v : Int) : (setx s rd v).state = s.state := by unfold setx; split <;> rfl
theorem setx_pc (s : St) (rd v : Int) : (setx s rd v).pc = s.pc := by unfold setx; split <;> rfl
theorem setx_f (s : St) (rd v : Int) : (setx s rd v).f = s.f := by unfold setx; split <;> rfl
theorem setx_x (s : St) (rd : Nat) (v : Int) (hr : rd ≠ 0) (k : Nat) : (setx s rd v).x k = if k = rd then v else s.x k := by
  unfold setx; rw [if_neg (by omega)]; rfl
/-! ### the statements' own fixed program -/
def awakeL : List Ins := [(18, 17, 0, 0, 3), (42, 0, 0, 0, 0)]
theorem awake_good : ∀ i ∈ awakeL, good i := by
  intro i hi
  simp only [awakeL, List.mem_cons, List.not_mem_nil, or_false] at hi
  rcases hi with rfl | rfl
  · exact ⟨by decide +kernel, by decide, by decide, by decide, by decide⟩
  · exact ⟨by decide +kernel, by decide, by decide, by decide, by decide⟩
theorem awake_run (u : Int) (N : Nat) (hN : 8 ≤ N) : ∃ T, MM.run N 9 (MW.loaded (fb (awakeL.map wordOf)) 8 u N 0) [] = T ∧ T.s.state = 1 ∧ MV.codeOf T.s = 0 ∧ T.n = 2 := by
  refine ⟨_, rfl, ?_⟩
  have hc : Code awakeL (MW.loaded (fb (awakeL.map wordOf)) 8 u N 0).mem := code_loaded awakeL u N 0
  generalize hs : MW.loaded (fb (awakeL.map wordOf)) 8 u N 0 = s0 at *
  have x0 : s0.x 0 = 0 := by subst hs; rfl
  have x10 : s0.x 10 = 0 := by subst hs; rfl
  have p0 : s0.pc = 0 := by subst hs; rfl
  have t0 : s0.state = 0 := by subst hs; rfl
  clear hs
  have s1 : MM.step N s0 [] = yes (setx s0 (17 : Nat) 3) 4 [] [] := by
    rw [step_code hc (j := 0) (a := 18) (b := 17) (c := 0) (d := 0) (e := 3) rfl (awake_good _ (by simp [awakeL])) p0 (by omega)]
    rw [show act N s0 [] 18 17 0 0 3 = act N s0 [] 18 ((17 : Nat) : Int) ((0 : Nat) : Int) ((0 : Nat) : Int) 3 from rfl, MS.eq_18, x0, p0]
    rfl
  have hc1 : Code awakeL (yes (setx s0 (17 : Nat) 3) 4 [] []).s.mem := by rw [yes_mem, setx_mem]; exact hc
  have y17 : (yes (setx s0 (17 : Nat) 3) 4 [] []).s.x 17 = 3 := by show (setx s0 (17 : Nat) 3).x 17 = 3; rw [setx_x _ _ _ (by omega)]; rfl
  have y10 : (yes (setx s0 (17 : Nat) 3) 4 [] []).s.x 10 = 0 := by show (setx s0 (17 : Nat) 3).x 10 = 0; rw [setx_x _ _ _ (by omega)]; simpa using x10
  have t1 : (yes (setx s0 (17 : Nat) 3) 4 [] []).s.state = 0 := by show (setx s0 (17 : Nat) 3).state = 0; rw [setx_state, t0]
  have q1 : (yes (setx s0 (17 : Nat) 3) 4 [] []).s.pc = 4 := rfl
  rw [run_yes N 8 s0 [] t0 _ s1 rfl]
  generalize hs1 : (yes (setx s0 (17 : Nat) 3) 4 [] []).s = s1' at *
  have s2 : MM.step N s1' [] = yes (setst s1' 1) 8 [] [] := by
    rw [step_code hc1 (j := 1) (a := 42) (b := 0) (c := 0) (d := 0) (e := 0) rfl (awake_good _ (by simp [awakeL])) q1 (by omega)]
    rw [show act N s1' [] 42 0 0 0 0 = act N s1' [] 42 ((0 : Nat) : Int) ((0 : Nat) : Int) ((0 : Nat) : Int) 0 from rfl, MS.eq_42, q1]
    unfold ecall
    rw [if_neg (by omega), if_neg (by omega), if_pos y17]
    rfl
  rw [show (yes (setx s0 (17 : Nat) 3) 4 [] []).inp = [] from rfl, run_yes N 7 s1' [] t1 _ s2 rfl, run_stop N 7 _ _ (by show (1 : Int) ≠ 0; decide)]
  refine ⟨rfl, ?_, rfl⟩
  show (if (1 : Int) = 1 then s1'.x 10 else 0) = 0
  rw [if_pos rfl, y10]
end MP
end Go.Proofs.Ytieehjkmfmkfjab
