/-
  The statements' own fixed fact, a contract; and plain facts on words and parts. No condition.
-/
import Derived.Test.YtieehjkmfmkfjaaCodeD
namespace Go.Proofs.Ytieehjkmfmkfjaa
open Go.RowKit
set_option linter.unusedVariables false
set_option linter.unusedSimpArgs false
namespace CL
open CW CE CD
/-- what is encoded is decoded -/
theorem good_of_enc {op rd rs1 rs2 imm : Int} (h : encE op rd rs1 rs2 imm = 0) : CM.isOp op = true ∧ CM.fault (CM.kd op) rd rs1 rs2 imm = 0 := by
  unfold encE at h
  cases ho : CM.isOp op with
  | true => rw [ho] at h; exact ⟨rfl, h⟩
  | false => rw [ho] at h; exact absurd h (show ¬ (2 : Int) = 0 by decide)
theorem enc_word {op rd rs1 rs2 imm : Int} (h : encE op rd rs1 rs2 imm = 0) : encW op rd rs1 rs2 imm = CM.word (CM.kd op) (CM.o7 op) (CM.f3 op) (CM.f7 op) rd rs1 rs2 imm := by
  obtain ⟨ho, hf⟩ := good_of_enc h
  unfold encW; rw [ho, hf]; rfl
theorem enc_bd (op rd rs1 rs2 imm : Int) : 0 ≤ encW op rd rs1 rs2 imm ∧ encW op rd rs1 rs2 imm < 4294967296 := by
  by_cases h : encE op rd rs1 rs2 imm = 0
  · obtain ⟨ho, hf⟩ := good_of_enc h
    rw [enc_word h]
    exact CM.word_bd (CM.ft_row ho) (CM.good_of hf)
  · have e : encW op rd rs1 rs2 imm = 0 := by
      unfold encW
      unfold encE at h
      cases ho : CM.isOp op with
      | true => rw [ho] at h; rw [if_neg]; simp; simpa using h
      | false => rfl
    rw [e]; omega
theorem dec_enc {op rd rs1 rs2 imm : Int} (h : encE op rd rs1 rs2 imm = 0) : dE (encW op rd rs1 rs2 imm) = 0 ∧ dOp (encW op rd rs1 rs2 imm) = op ∧ dRd (encW op rd rs1 rs2 imm) = rd ∧ dRs1 (encW op rd rs1 rs2 imm) = rs1 ∧ dRs2 (encW op rd rs1 rs2 imm) = rs2 ∧ dImm (encW op rd rs1 rs2 imm) = imm := by
  obtain ⟨ho, hf⟩ := good_of_enc h
  have hb := enc_bd op rd rs1 rs2 imm
  have g := CM.good_of hf
  have hh := CM.hit_word ho g
  rw [← enc_word h] at hh
  have hd := CM.dec_hit hh hb.1 hb.2
  have hi := CM.isOp_yes ho
  have hz : ¬ op = 0 := by omega
  obtain ⟨b1, b2, b3, b4, -⟩ := CM.back (CM.ft_row ho) g (enc_word h).symm
  simp [dE, dOp, dRd, dRs1, dRs2, dImm, hd, hz, b1, b2, b3, b4]
theorem enc_one {op rd rs1 rs2 imm op' rd' rs1' rs2' imm' : Int} (h : encE op rd rs1 rs2 imm = 0) (h' : encE op' rd' rs1' rs2' imm' = 0) : encW op rd rs1 rs2 imm = encW op' rd' rs1' rs2' imm' ↔ (op = op' ∧ rd = rd' ∧ rs1 = rs1' ∧ rs2 = rs2' ∧ imm = imm') := by
  constructor
  · intro e
    have d1 := dec_enc h
    have d2 := dec_enc h'
    rw [e] at d1
    exact ⟨d1.2.1.symm.trans d2.2.1, d1.2.2.1.symm.trans d2.2.2.1, d1.2.2.2.1.symm.trans d2.2.2.2.1, d1.2.2.2.2.1.symm.trans d2.2.2.2.2.1, d1.2.2.2.2.2.symm.trans d2.2.2.2.2.2⟩
  · rintro ⟨rfl, rfl, rfl, rfl, rfl⟩; rfl
end CL
end Go.Proofs.Ytieehjkmfmkfjaa
