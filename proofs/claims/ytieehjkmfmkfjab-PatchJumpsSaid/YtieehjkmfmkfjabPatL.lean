/-
  What words that are patched do in the plain machine: an LUI and an ADDI, a jump, a branch, an LUI and an SW. No condition but those that are written at each.
-/
import Derived.Test.YtieehjkmfmkfjabMachX
import Derived.Test.YtieehjkmfmkfjabPatA
namespace Go.Proofs.Ytieehjkmfmkfjab
open Go.RowKit
set_option linter.unusedVariables false
set_option linter.unusedSimpArgs false
namespace PL
open MM MC MB MP MQ MR MX PM OU OPt
theorem pat_enc0 {op rd rs1 rs2 k : Int} (h : CE.encE op rd rs1 rs2 0 = 0) (hk : kindB k op = true) : patB k (CE.encW op rd rs1 rs2 0) = true := by
  obtain ⟨d1, d2, d3, d4, d5, d6⟩ := CL.dec_enc h
  unfold patB
  rw [d1, d2, d6, hk]; rfl
/-- what an instruction's word becomes -/
theorem pat_word {op rd rs1 rs2 k v p : Int} (h : CE.encE op rd rs1 rs2 0 = 0) (hk : kindB k op = true) (h1 : 1 ≤ k) (h2 : k ≤ 5) (b : Bool) (hf : CM.fits (CM.kd op) (immI k v p) = b) :
    pE k (CE.encW op rd rs1 rs2 0) v p = (bif b then 0 else 7) ∧ pW k (CE.encW op rd rs1 rs2 0) v p = (bif b then CE.encW op rd rs1 rs2 (immI k v p) else 0) ∧ CE.encE op rd rs1 rs2 (immI k v p) = (bif b then 0 else 1) := by
  have hp := pat_enc0 h hk
  obtain ⟨d1, d2, d3, d4, d5, d6⟩ := CL.dec_enc h
  have hb := CL.enc_bd op rd rs1 rs2 0
  have he := pat_enc hp hb.1 hb.2 (immI k v p)
  rw [d2, d3, d4, d5, hf] at he
  refine ⟨?_, ?_, he⟩
  · unfold pE fitB
    rw [if_neg (by omega), if_neg (by omega), hp, d2, hf]; rfl
  · unfold pW fitB
    rw [if_neg (by omega), if_neg (by omega), hp, d2, d3, d4, d5, hf]; rfl
theorem wf0 (n : Int) (h : -2147483648 ≤ n ∧ n ≤ 2147483648) : (Lit.int .i64 n).wf = true := WalkArith.wf_i64 (by omega)
theorem mk_good {a b c d e : Int} (h : CE.encE a b c d e = 0) (h1 : -2147483648 ≤ b ∧ b ≤ 2147483648) (h2 : -2147483648 ≤ c ∧ c ≤ 2147483648) (h3 : -2147483648 ≤ d ∧ d ≤ 2147483648) (h4 : -2147483648 ≤ e ∧ e ≤ 2147483648) : good (a, b, c, d, e) := ⟨h, wf0 _ h1, wf0 _ h2, wf0 _ h3, wf0 _ h4⟩
/-! ### an LUI and an ADDI -/
def loadL (rd hi lo : Int) : List Ins := [(38, rd, 0, 0, hi), (18, rd, rd, 0, lo)]
theorem lui0 {rd : Int} (h : 0 ≤ rd ∧ rd ≤ 31) : CE.encE 38 rd 0 0 0 = 0 := by
  have : ∀ n : Fin 32, CE.encE 38 (n.val : Int) 0 0 0 = 0 := by decide +kernel
  have := this ⟨rd.toNat, by omega⟩
  rwa [show ((rd.toNat : Nat) : Int) = rd by omega] at this
theorem addi0 {rd : Int} (h : 0 ≤ rd ∧ rd ≤ 31) : CE.encE 18 rd rd 0 0 = 0 := by
  have : ∀ n : Fin 32, CE.encE 18 (n.val : Int) (n.val : Int) 0 0 = 0 := by decide +kernel
  have := this ⟨rd.toNat, by omega⟩
  rwa [show ((rd.toNat : Nat) : Int) = rd by omega] at this
theorem fit_u (n : Int) (h : 0 ≤ n ∧ n < 1048576) : CM.fits (CM.kd 38) n = true := by
  rw [show CM.kd 38 = 5 by decide]
  simp [CM.fits]; try omega
theorem fit_i (n : Int) (h : -2048 ≤ n ∧ n < 2048) : CM.fits (CM.kd 18) n = true := by
  rw [show CM.kd 18 = 1 by decide]
  simp [CM.fits]; try omega
theorem fit_s (n : Int) (h : -2048 ≤ n ∧ n < 2048) : CM.fits (CM.kd 31) n = true := by
  rw [show CM.kd 31 = 3 by decide]
  simp [CM.fits]; try omega
theorem fit_j (n : Int) : CM.fits (CM.kd 40) n = decide (-1048576 ≤ n ∧ n ≤ 1048574 ∧ n % 2 = 0) := by
  rw [show CM.kd 40 = 6 by decide, Bool.eq_iff_iff]
  simp [CM.fits]; try omega
theorem fit_b (n : Int) : CM.fits (CM.kd 32) n = decide (-4096 ≤ n ∧ n ≤ 4094 ∧ n % 2 = 0) := by
  rw [show CM.kd 32 = 4 by decide, Bool.eq_iff_iff]
  simp [CM.fits]; try omega
theorem load_words {rd v : Int} (h : 0 ≤ rd ∧ rd ≤ 31) : pE 1 (CE.encW 38 rd 0 0 0) v 0 = 0 ∧ pW 1 (CE.encW 38 rd 0 0 0) v 0 = CE.encW 38 rd 0 0 (hiI v) ∧ pE 2 (CE.encW 18 rd rd 0 0) v 4 = 0 ∧ pW 2 (CE.encW 18 rd rd 0 0) v 4 = CE.encW 18 rd rd 0 (loI v) ∧
    (∀ i ∈ loadL rd (hiI v) (loI v), good i) := by
  obtain ⟨a1, a2, a3⟩ := pat_word (v := v) (p := 0) (k := 1) (lui0 h) (by decide) (by omega) (by omega) true (fit_u _ (hi_bd v))
  obtain ⟨b1, b2, b3⟩ := pat_word (v := v) (p := 4) (k := 2) (addi0 h) (by decide) (by omega) (by omega) true (fit_i _ (lo_bd v))
  have e1 := hi_bd v
  have e2 := lo_bd v
  refine ⟨a1, a2, b1, b2, fun i hi => ?_⟩
  simp only [loadL, List.mem_cons, List.not_mem_nil, or_false] at hi
  rcases hi with rfl | rfl
  · exact mk_good a3 (by omega) (by omega) (by omega) (by omega)
  · exact mk_good b3 (by omega) (by omega) (by omega) (by omega)
/-- the run makes the value -/
theorem load_run {rd : Nat} (h1 : 1 ≤ rd) (h2 : rd ≤ 31) {hi lo v : Int} (hg : ∀ i ∈ loadL (rd : Int) hi lo, good i) (hb : 0 ≤ hi ∧ hi < 1048576) (hp : (hi * 4096 % 4294967296 + lo % 4294967296) % 4294967296 = v) (s0 : St) (h0 : Ready (loadL (rd : Int) hi lo) s0 0) :
    ∃ T, MM.run 16 2 s0 [] = T ∧ T.n = 2 ∧ T.s.x rd = v := by
  have G : ∀ (j : Nat) i, (loadL (rd : Int) hi lo)[j]? = some i → good i := fun j i h => hg i (List.mem_of_getElem? h)
  have e := step_code (N := 16) (inp := []) h0.code (j := 0) rfl (G 0 _ rfl) h0.pc (by omega)
  rw [show act 16 s0 [] 38 (rd : Int) 0 0 hi = act 16 s0 [] 38 ((rd : Nat) : Int) ((0 : Nat) : Int) ((0 : Nat) : Int) hi from rfl, MS.eq_38] at e
  obtain ⟨s1, r1, k1, x1, f1, m1⟩ := reg_step h0 (by omega) (pc_next h0 (by omega)) e
  clear e
  have e := step_addi (N := 16) (inp := []) k1 (rd := rd) (r1 := rd) (im := lo) rfl (G 1 _ rfl) (by omega) (by omega)
  have y : s1.x rd = hi % 4294967296 * 4096 % 4294967296 := by rw [x1, if_pos rfl]
  rw [y] at e
  obtain ⟨s2, r2, k2, x2, f2, m2⟩ := reg_step k1 (by omega) rfl e
  clear e
  have q := chain r1 (chain r2 (run_zero 16 s2 []))
  refine ⟨_, q, rfl, ?_⟩
  show s2.x rd = v
  rw [x2, if_pos rfl, ← hp]; omega
/-! ### a jump, and a branch that is taken -/
theorem jal0 : CE.encE 40 1 0 0 0 = 0 := by decide +kernel
theorem beq0 : CE.encE 32 0 0 0 0 = 0 := by decide +kernel
/-- one step at an instruction's word, wherever it lies -/
theorem step_any {N : Nat} {s : St} {inp : List Int} {a b c d e : Int} {n : Nat} (hn : num s.mem n 4 = wordOf (a, b, c, d, e)) (hg : good (a, b, c, d, e)) (hpc : s.pc = (n : Int)) (h4 : n % 4 = 0) (hN : n + 4 ≤ N) : MM.step N s inp = act N s inp a b c d e := by
  obtain ⟨d1, d2, d3, d4, d5, d6⟩ := CL.dec_enc hg.1
  unfold MM.step
  rw [hpc, show ((n : Nat) : Int).toNat = n from rfl, hn]
  rw [if_pos (by simp only [fit, decide_eq_true_eq]; omega)]
  have hz : ¬ CM.dec (wordOf (a, b, c, d, e)) = 0 := by
    intro h0
    have : CD.dE (wordOf (a, b, c, d, e)) = 2 := by unfold CD.dE; rw [if_pos h0]
    have e1 : CD.dE (wordOf (a, b, c, d, e)) = 0 := d1
    omega
  rw [if_neg hz]
  rw [show iOp (wordOf (a, b, c, d, e)) = a from d2, show iRd (wordOf (a, b, c, d, e)) = b from d3, show iRs1 (wordOf (a, b, c, d, e)) = c from d4, show iRs2 (wordOf (a, b, c, d, e)) = d from d5, show iImm (wordOf (a, b, c, d, e)) = e from d6]
theorem jump_run {N n : Nat} {s : St} {im v : Int} (br : Bool) (hn : num s.mem n 4 = wordOf (if br then (32, 0, 0, 0, im) else (40, 1, 0, 0, im))) (hg : good (if br then (32, 0, 0, 0, im) else (40, 1, 0, 0, im))) (hs : s.state = 0) (hpc : s.pc = (n : Int)) (h4 : n % 4 = 0) (hN : n + 4 ≤ N)
    (hv : ((n : Int) + im % 4294967296) % 4294967296 = v) : ∃ T, MM.run N 1 s [] = T ∧ T.n = 1 ∧ T.s.pc = v := by
  cases br
  · simp only [Bool.false_eq_true, if_false] at hn hg
    have e := step_any (inp := []) hn hg hpc h4 hN
    rw [show act N s [] 40 1 0 0 im = act N s [] 40 ((1 : Nat) : Int) ((0 : Nat) : Int) ((0 : Nat) : Int) im from rfl, MS.eq_40] at e
    have r := run_one (k := 0) hs e
    refine ⟨_, r, rfl, ?_⟩
    show (s.pc + im % 4294967296) % 4294967296 = v
    rw [hpc]; exact hv
  · simp only [if_true] at hn hg
    have e := step_any (inp := []) hn hg hpc h4 hN
    rw [show act N s [] 32 0 0 0 im = act N s [] 32 ((0 : Nat) : Int) ((0 : Nat) : Int) ((0 : Nat) : Int) im from rfl, MS.eq_32, if_pos (by simp [taken])] at e
    have r := run_one (k := 0) hs e
    refine ⟨_, r, rfl, ?_⟩
    show (s.pc + im % 4294967296) % 4294967296 = v
    rw [hpc]; exact hv
/-! ### an LUI and an SW -/
def storeL (hi lo : Int) : List Ins := [(18, 17, 0, 0, 2), (42, 0, 0, 0, 0), (38, 5, 0, 0, hi), (31, 0, 5, 10, lo)]
theorem sw0 : CE.encE 31 0 5 10 0 = 0 := by decide +kernel
theorem store_words (v : Int) : pE 1 (CE.encW 38 5 0 0 0) v 8 = 0 ∧ pW 1 (CE.encW 38 5 0 0 0) v 8 = CE.encW 38 5 0 0 (hiI v) ∧ pE 3 (CE.encW 31 0 5 10 0) v 12 = 0 ∧ pW 3 (CE.encW 31 0 5 10 0) v 12 = CE.encW 31 0 5 10 (loI v) ∧
    (∀ i ∈ storeL (hiI v) (loI v), good i) := by
  obtain ⟨a1, a2, a3⟩ := pat_word (v := v) (p := 8) (k := 1) (lui0 (rd := 5) (by omega)) (by decide) (by omega) (by omega) true (fit_u _ (hi_bd v))
  obtain ⟨b1, b2, b3⟩ := pat_word (v := v) (p := 12) (k := 3) sw0 (by decide) (by omega) (by omega) true (fit_s _ (lo_bd v))
  have e1 := hi_bd v
  have e2 := lo_bd v
  refine ⟨a1, a2, b1, b2, fun i hi => ?_⟩
  simp only [storeL, List.mem_cons, List.not_mem_nil, or_false] at hi
  rcases hi with rfl | rfl | rfl | rfl
  · exact ⟨by decide +kernel, by decide, by decide, by decide, by decide⟩
  · exact ⟨by decide +kernel, by decide, by decide, by decide, by decide⟩
  · exact mk_good a3 (by omega) (by omega) (by omega) (by omega)
  · exact mk_good b3 (by omega) (by omega) (by omega) (by omega)
theorem store_run {hi lo : Int} {a N : Nat} (hg : ∀ i ∈ storeL hi lo, good i) (hb : 0 ≤ hi ∧ hi < 1048576) (hp : (hi * 4096 % 4294967296 + lo % 4294967296) % 4294967296 = (a : Int)) (ha : 16 ≤ a) (h4 : a % 4 = 0) (hN : a + 4 ≤ N) (w : Int) (hw : 0 ≤ w ∧ w ≤ 4294967295) (s0 : St) (h0 : Ready (storeL hi lo) s0 0) :
    ∃ T, MM.run N 4 s0 [w] = T ∧ T.n = 4 ∧ num T.s.mem a 4 = w ∧ T.s.mem = lay s0.mem a 4 w := by
  have G : ∀ (j : Nat) i, (storeL hi lo)[j]? = some i → good i := fun j i h => hg i (List.mem_of_getElem? h)
  have hL : 4 * (storeL hi lo).length = 16 := rfl
  have e := step_addi (N := N) (inp := [w]) h0 (rd := 17) (r1 := 0) (im := 2) rfl (G 0 _ rfl) (by omega) (by omega)
  obtain ⟨s1, r1, h1, x1, f1, m1⟩ := reg_step h0 (by omega) rfl e
  clear e
  have e := step_ecall (N := N) (inp := [w]) h1 rfl (G 1 _ rfl) (by omega) (by omega)
  have y : s1.x 17 = 2 := by rw [x1, h0.zero]; rfl
  unfold ecall at e
  rw [if_neg (by omega), if_pos y] at e
  obtain ⟨s2, r2, h2, x2, f2, m2⟩ := reg_step h1 (by omega) rfl e
  clear e y
  have c2 : s2.x 10 = w := by rw [x2]; rfl
  have e := step_code (N := N) (inp := ([w] : List Int).tail) h2.code (j := 2) rfl (G 2 _ rfl) h2.pc (by omega)
  rw [show act N s2 ([w] : List Int).tail 38 5 0 0 hi = act N s2 ([w] : List Int).tail 38 ((5 : Nat) : Int) ((0 : Nat) : Int) ((0 : Nat) : Int) hi from rfl, MS.eq_38] at e
  obtain ⟨s3, r3, h3, x3, f3, m3⟩ := reg_step h2 (by omega) (pc_next h2 (by omega)) e
  clear e
  have c3 : s3.x 10 = w := by rw [x3, if_neg (by omega)]; exact c2
  have b3 : s3.x 5 = hi % 4294967296 * 4096 % 4294967296 := by rw [x3]; rfl
  have eA : (hi % 4294967296 * 4096 % 4294967296 + lo % 4294967296) % 4294967296 = (a : Int) := by omega
  have e := step_code (N := N) (inp := ([w] : List Int).tail) h3.code (j := 3) rfl (G 3 _ rfl) h3.pc (by omega)
  rw [show act N s3 ([w] : List Int).tail 31 0 5 10 lo = act N s3 ([w] : List Int).tail 31 ((0 : Nat) : Int) ((5 : Nat) : Int) ((10 : Nat) : Int) lo from rfl, MS.eq_31, b3, eA, if_pos (fit_at 4 (by omega) (by omega)), c3] at e
  obtain ⟨s4, r4, h4', m4, x4, f4⟩ := mem_step (a := a) h3 (by omega) (pc_next h3 (by omega)) e
  clear e
  have q := chain r1 (chain r2 (chain r3 (chain r4 (run_zero N s4 _))))
  have hm : s4.mem = lay s0.mem a 4 w := by rw [m4, m3, m2, m1]
  refine ⟨_, q, rfl, ?_, hm⟩
  show num s4.mem a 4 = w
  rw [hm, num_lay _ _ _ 4 4 (by omega)]; omega
end PL
end Go.Proofs.Ytieehjkmfmkfjab
