/-
  The document's word of any instruction (package solderref03's Encode), a contract. Conditions: four ints as parts.
-/
import Derived.Test.YtieehjkmfmkfjabCodeB
import Derived.Test.YtieehjkmfmkfjabCodeO
namespace Go.Proofs.Ytieehjkmfmkfjab
open Go.RowKit
set_option linter.unusedVariables false
set_option linter.unusedSimpArgs false
namespace CJ
open CC CW CR CA CE CB CO
set_option maxRecDepth 100000 in
theorem enc_none (op rd rs1 rs2 imm : Int)
    (hOf : ∀ w, Calls Try.prog 46 #[.int .i64 op] w fun e w' => e = .returned (.agg #[.int .u8 0, .int .i64 0, .int .i64 0, .int .i64 0, .int .i64 0]) ∧ Below w.heap.size w w') (w : World) :
    Calls Try.prog 35 #[.agg #[.int .i64 op, .int .i64 rd, .int .i64 rs1, .int .i64 rs2, .int .i64 imm]] w fun e w' => e = .returned (.tuple #[.int .u32 0, .int .i64 2]) ∧ Below w.heap.size w w' := by
  go_enter Try.func35, Try.ntmps35
  go_upto_region 1 with fail
  go_upto_region 2 with (go_at_call 46; refine (hOf _).mono ?_; rintro e w1 ⟨rfl, hb0⟩)
  have hb1 : Below w.heap.size w w1 := (CE.box0 w _).trans (hb0.mono (by simp only [World.size_alloc]; omega))
  clear hb0 hOf
  go_wp2
  go_ret2
  exact ⟨rfl, hb1.alloc hb1.size _⟩
theorem res_yes {op rd rs1 rs2 imm k o a c : Int} (ho : CM.isOp op = true) (hk : CM.kd op = k) (h1 : CM.o7 op = o) (h2 : CM.f3 op = a) (h3 : CM.f7 op = c) :
    CB.res k o a c rd rs1 rs2 imm = .tuple #[.int .u32 (encW op rd rs1 rs2 imm), .int .i64 (encE op rd rs1 rs2 imm)] := by
  subst hk h1 h2 h3
  unfold CB.res encW encE
  rw [ho]
  simp
theorem encode_ (op rd rs1 rs2 imm : Int) (h1 : (Lit.int .i64 rd).wf = true) (h2 : (Lit.int .i64 rs1).wf = true) (h3 : (Lit.int .i64 rs2).wf = true) (h4 : (Lit.int .i64 imm).wf = true) (w : World) :
    Calls Try.prog 35 #[.agg #[.int .i64 op, .int .i64 rd, .int .i64 rs1, .int .i64 rs2, .int .i64 imm]] w fun e w' => e = .returned (.tuple #[.int .u32 (encW op rd rs1 rs2 imm), .int .i64 (encE op rd rs1 rs2 imm)]) ∧ Below w.heap.size w w' := by
  have hOf := fun w => of_ op w
  unfold rowV at hOf
  cases ho : CM.isOp op with
  | false =>
    rw [ho] at hOf
    have e1 : encW op rd rs1 rs2 imm = 0 := by unfold encW; rw [ho]; rfl
    have e2 : encE op rd rs1 rs2 imm = 2 := by unfold encE; rw [ho]; rfl
    rw [e1, e2]
    exact enc_none op rd rs1 rs2 imm hOf w
  | true =>
    rw [ho] at hOf
    have hft := CM.ft_row ho
    have hb := CM.ft_bd hft
    have hk := CM.kinds hft
    have hr := fun k e => res_yes (rd := rd) (rs1 := rs1) (rs2 := rs2) (imm := imm) (k := k) ho e rfl rfl rfl
    have bo : 0 ≤ CM.o7 op ∧ CM.o7 op ≤ 127 := ⟨hb.1, hb.2.1⟩
    have ba : 0 ≤ CM.f3 op ∧ CM.f3 op ≤ 7 := ⟨hb.2.2.1, hb.2.2.2.1⟩
    have bc : 0 ≤ CM.f7 op ∧ CM.f7 op ≤ 127 := ⟨hb.2.2.2.2.1, hb.2.2.2.2.2.1⟩
    rcases hk with h | h | h | h | h | h | h | h | h | h | h
    · rw [← hr 0 h]; rw [h] at hOf; exact enc_R op rd rs1 rs2 imm _ _ _ h1 h2 h3 h4 bo ba bc hOf w
    · rw [← hr 1 h]; rw [h] at hOf; exact enc_I op rd rs1 rs2 imm _ _ _ h1 h2 h3 h4 bo ba bc hOf w
    · rw [← hr 2 h]; rw [h] at hOf; exact enc_H op rd rs1 rs2 imm _ _ _ h1 h2 h3 h4 bo ba bc hOf w
    · rw [← hr 3 h]; rw [h] at hOf; exact enc_S op rd rs1 rs2 imm _ _ _ h1 h2 h3 h4 bo ba bc hOf w
    · rw [← hr 4 h]; rw [h] at hOf; exact enc_B op rd rs1 rs2 imm _ _ _ h1 h2 h3 h4 bo ba bc hOf w
    · rw [← hr 5 h]; rw [h] at hOf; exact enc_U op rd rs1 rs2 imm _ _ _ h1 h2 h3 h4 bo ba bc hOf w
    · rw [← hr 6 h]; rw [h] at hOf; exact enc_J op rd rs1 rs2 imm _ _ _ h1 h2 h3 h4 bo ba bc hOf w
    · rw [← hr 7 h]; rw [h] at hOf; exact enc_E op rd rs1 rs2 imm _ _ _ h1 h2 h3 h4 bo ba bc hOf w
    · rw [← hr 8 h]; rw [h] at hOf; exact enc_P op rd rs1 rs2 imm _ _ _ h1 h2 h3 h4 bo ba bc hOf w
    · rw [← hr 9 h]; rw [h] at hOf; exact enc_T op rd rs1 rs2 imm _ _ _ h1 h2 h3 h4 bo ba bc hOf w
    · rw [← hr 10 h]; rw [h] at hOf; exact enc_Z op rd rs1 rs2 imm _ _ _ h1 h2 h3 h4 bo ba bc hOf w
end CJ
end Go.Proofs.Ytieehjkmfmkfjab
