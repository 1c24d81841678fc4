/-
  Plain numbers of relocations: the parts of a value, what is far, what a word becomes. No program.
-/
import Derived.Test.YtieehjkmfmkfjabRels
import Derived.Test.YtieehjkmfmkfjabCodeL
import Derived.Test.YtieehjkmfmkfjabWordG
namespace Go.Proofs.Ytieehjkmfmkfjab
open Go.RowKit
set_option linter.unusedVariables false
set_option linter.unusedSimpArgs false
namespace PM
open OU OPt
def hiI (v : Int) : Int := (v + 2048) % 4294967296 / 4096
def loI (v : Int) : Int := if 2048 ≤ v % 4096 then v % 4096 - 4096 else v % 4096
def farI (v p : Int) : Int := wrap32 ((v - p) % 4294967296)
def immI (k v p : Int) : Int := if k = 1 then hiI v else if k = 2 ∨ k = 3 then loI v else farI v p
def fitB (k x v p : Int) : Bool := CM.fits (CM.kd (CD.dOp x)) (immI k v p)
/-- the error of a relocation, and the word -/
def pE (k x v p : Int) : Int := if k < 1 ∨ 6 < k then 1 else if k = 6 then 0 else bif patB k x then (bif fitB k x v p then 0 else 7) else 2
def pW (k x v p : Int) : Int := if k < 1 ∨ 6 < k then 0 else if k = 6 then v else bif patB k x then (bif fitB k x v p then CE.encW (CD.dOp x) (CD.dRd x) (CD.dRs1 x) (CD.dRs2 x) (immI k v p) else 0) else 0
theorem ext_lo (v : Int) : wrap32 (WM.ext v 12) = loI v := by
  unfold WM.ext loI wrap32
  simp only [show (12 : Int).toNat = 12 from rfl, show (12 : Nat) - 1 = 11 from rfl, show (2 : Int) ^ 11 = 2048 from rfl, show (2 : Int) ^ 12 = 4096 from rfl]
  split <;> omega
theorem hi_bd (v : Int) : 0 ≤ hiI v ∧ hiI v < 1048576 := by unfold hiI; omega
theorem lo_bd (v : Int) : -2048 ≤ loI v ∧ loI v < 2048 := by unfold loI; split <;> omega
theorem far_bd (v p : Int) : -2147483648 ≤ farI v p ∧ farI v p < 2147483648 := by unfold farI wrap32; omega
theorem imm_bd (k v p : Int) : -2147483648 ≤ immI k v p ∧ immI k v p < 2147483648 := by
  have := hi_bd v; have := lo_bd v; have := far_bd v p
  unfold immI; split
  · omega
  · split <;> omega
theorem parts (v : Int) (h : 0 ≤ v ∧ v ≤ 4294967295) : (hiI v * 4096 % 4294967296 + loI v % 4294967296) % 4294967296 = v := by
  unfold hiI loI; split <;> omega
def KI (p : Int) : Prop := p = 38 ∨ (18 ≤ p ∧ p ≤ 23 ∨ 27 ≤ p ∧ p ≤ 29 ∨ p = 41 ∨ p = 43) ∨ (p = 30 ∨ p = 31 ∨ p = 44) ∨ p = 40 ∨ 32 ≤ p ∧ p ≤ 37
instance (p : Int) : Decidable (KI p) := by unfold KI; exact inferInstance
theorem ki_imm {p : Int} (h : CM.isOp p = true) (k : KI p) : CM.uImm (CM.kd p) = true := by
  have := CM.all_ops (fun p => decide (KI p → CM.uImm (CM.kd p) = true)) (by decide +kernel) h
  exact of_decide_eq_true this k
theorem dec_op {x : Int} (h : CM.dec x ≠ 0) : CM.isOp (CM.dec x) = true := by
  unfold CM.dec at h ⊢
  cases e : (List.range 55).find? fun n => CM.hit ((n + 1 : Nat) : Int) x with
  | none => rw [e] at h; exact absurd rfl h
  | some n =>
    have := List.mem_of_find?_eq_some e
    rw [List.mem_range] at this
    unfold CM.isOp
    simp only [decide_eq_true_eq]
    omega
theorem pat_op {k x : Int} (h : patB k x = true) : CM.dec x ≠ 0 ∧ CD.dImm x = 0 ∧ KI (CD.dOp x) := by
  unfold patB kindB at h
  simp only [Bool.and_eq_true, decide_eq_true_eq] at h
  obtain ⟨h1, h2, h3⟩ := h
  refine ⟨?_, h2, ?_⟩
  · intro e; unfold CD.dE at h1; rw [if_pos e] at h1; exact absurd h1 (by decide)
  · unfold KI; omega
theorem pat_enc {k x : Int} (h : patB k x = true) (h0 : 0 ≤ x) (h1 : x < 4294967296) (n : Int) : CE.encE (CD.dOp x) (CD.dRd x) (CD.dRs1 x) (CD.dRs2 x) n = bif CM.fits (CM.kd (CD.dOp x)) n then 0 else 1 := by
  obtain ⟨hd, hi, hk⟩ := pat_op h
  have ho := dec_op hd
  have hu := ki_imm ho hk
  have hg := CM.fault_good (CM.cand_good (CM.ft_row ho) h0 h1)
  have e1 : CD.dRd x = CM.rdOf (CM.kd (CM.dec x)) x := by unfold CD.dRd; rw [if_neg hd]
  have e2 : CD.dRs1 x = CM.rs1Of (CM.kd (CM.dec x)) x := by unfold CD.dRs1; rw [if_neg hd]
  have e3 : CD.dRs2 x = CM.rs2Of (CM.kd (CM.dec x)) x := by unfold CD.dRs2; rw [if_neg hd]
  have e4 : CD.dOp x = CM.dec x := rfl
  rw [← e1, ← e2, ← e3, ← e4] at hg
  rw [← e4] at hu ho
  unfold CE.encE
  rw [if_pos ho]
  generalize CM.kd (CD.dOp x) = q at *
  generalize CM.immOf q x = m at *
  generalize CD.dRd x = a at *
  generalize CD.dRs1 x = b at *
  generalize CD.dRs2 x = c at *
  unfold CM.fault at hg ⊢
  have b2 : CM.bad2 q a b c m = false := by
    cases hb : CM.bad2 q a b c m with
    | false => rfl
    | true => rw [hb] at hg; simp at hg
  have b1 : CM.bad1 q a b c m = false := by
    rw [b2] at hg
    cases hb : CM.bad1 q a b c m with
    | false => rfl
    | true => rw [hb] at hg; simp at hg
  have c2 : CM.bad2 q a b c n = false := by
    unfold CM.bad2 at b2 ⊢
    rw [hu] at b2 ⊢
    simpa using b2
  have c1 : CM.bad1 q a b c n = !CM.fits q n := by
    unfold CM.bad1 at b1 ⊢
    rw [hu] at b1 ⊢
    simp only [Bool.or_eq_false_iff] at b1
    obtain ⟨⟨⟨d1, d2⟩, d3⟩, d4⟩ := b1
    rw [d1, d2, d3]
    simp
  rw [c2, c1]
  cases CM.fits q n <;> rfl
theorem dec_wf (x : Int) (h0 : 0 ≤ x) (h1 : x < 4294967296) : (0 ≤ CD.dOp x ∧ CD.dOp x ≤ 55) ∧ (0 ≤ CD.dRd x ∧ CD.dRd x < 32) ∧ (0 ≤ CD.dRs1 x ∧ CD.dRs1 x < 32) ∧ (0 ≤ CD.dRs2 x ∧ CD.dRs2 x < 32) := by
  refine ⟨?_, ?_, ?_, ?_⟩
  · unfold CD.dOp
    by_cases h : CM.dec x = 0
    · omega
    · have := CM.isOp_yes (dec_op h); omega
  · unfold CD.dRd CM.rdOf; split <;> (try split) <;> omega
  · unfold CD.dRs1 CM.rs1Of; split <;> (try split) <;> omega
  · unfold CD.dRs2 CM.rs2Of; split <;> (try split) <;> omega
theorem pw_bd {k x v p : Int} (hv : 0 ≤ v ∧ v ≤ 4294967295) : 0 ≤ pW k x v p ∧ pW k x v p < 4294967296 := by
  unfold pW
  split
  · omega
  · split
    · omega
    · cases patB k x
      · simp
      · cases fitB k x v p
        · simp
        · exact CL.enc_bd _ _ _ _ _
end PM
end Go.Proofs.Ytieehjkmfmkfjab
