/-
  Of any two instructions the law CodeOne returns true: if both have words, the words are the same just if the instructions are.
  Conditions: none beyond those of the given statement.
-/
import Derived.Test.YtcchmnilcmnajaaRows
import Derived.Test.YtcchmnilcmnajaaCodeP
import Derived.Laws.StructEq
import Derived.BigGuardPart
import Derived.Deep.DeepCutAuto
import Derived.WalkKit
import Derived.ProofKit
import Derived.OpenShut
namespace Go.Proofs.Ytcchmnilcmnajaa.codeOne
open Go.ChangeShapes Go.WideShapes Go.ChangeAt Go.RowKit
set_option linter.unusedVariables false
set_option linter.unusedSimpArgs false

theorem own : ownKnob Try.prog.godebug = none := by kernel_rfl
open CW CE CD CL

set_option maxRecDepth 100000 in
set_option maxHeartbeats 8000000 in
theorem walk (a0 b0 c0 d0 e0 : Int) (wa0 : (Lit.int .i64 a0).wf = true) (wb0 : (Lit.int .i64 b0).wf = true) (wc0 : (Lit.int .i64 c0).wf = true) (wd0 : (Lit.int .i64 d0).wf = true) (we0 : (Lit.int .i64 e0).wf = true) (a1 b1 c1 d1 e1 : Int) (wa1 : (Lit.int .i64 a1).wf = true) (wb1 : (Lit.int .i64 b1).wf = true) (wc1 : (Lit.int .i64 c1).wf = true) (wd1 : (Lit.int .i64 d1).wf = true) (we1 : (Lit.int .i64 e1).wf = true) (w : World) :
    Calls Try.prog 6 #[.agg #[.int .i64 a0, .int .i64 b0, .int .i64 c0, .int .i64 d0, .int .i64 e0], .agg #[.int .i64 a1, .int .i64 b1, .int .i64 c1, .int .i64 d1, .int .i64 e1]] w fun e w' => e = .returned (.bool true) ∧ Below w.heap.size w w' := by
  have k1 := fun w => encode_ a0 b0 c0 d0 e0 wa0 w
  have k2 := fun w => encode_ a1 b1 c1 d1 e1 wa1 w
  have H1 := Lib.hid (enc_one (op := a0) (rd := b0) (rs1 := c0) (rs2 := d0) (imm := e0) (op' := a1) (rd' := b1) (rs1' := c1) (rs2' := d1) (imm' := e1))
  unfold iv at k1 k2
  generalize encW a0 b0 c0 d0 e0 = W at *
  generalize encE a0 b0 c0 d0 e0 = E at *
  generalize encW a1 b1 c1 d1 e1 = V at *
  generalize encE a1 b1 c1 d1 e1 = F at *
  go_enter Try.func6, Try.ntmps6
  go_upto_region 3 with (go_at_call 9; refine (awake _).mono ?_; rintro e w' ⟨rfl, hb0⟩)
  have T0 := CP.tw hb0
  clear hb0
  obtain ⟨p0, p1, p2, p3, p4⟩ := CP.cells5 T0.hi
  go_upto_region 4 with ((with_reducible refine (k1 _).mono ?_); rintro e w1 ⟨rfl, hb1⟩)
  have T1 := T0.trans hb1
  clear p0 p1 p2 p3 p4 T0 hb1
  obtain ⟨p0, p1, p2, p3, p4⟩ := CP.cells5 T1.hj
  go_upto_region 5 with ((with_reducible refine (k2 _).mono ?_); rintro e w2 ⟨rfl, hb2⟩)
  have T2 := T1.trans hb2
  clear p0 p1 p2 p3 p4 T1 hb2
  obtain ⟨p0, p1, p2, p3, p4⟩ := CP.cells5 T2.hi
  obtain ⟨q0, q1, q2, q3, q4⟩ := CP.cells5 T2.hj
  have hb := T2.below
  clear T2
  by_cases hE : E = 0
  · by_cases hF : F = 0
    · subst hE hF
      have H2 := Lib.hid (H1.out rfl rfl)
      clear H1
      by_cases hs : a0 = a1 ∧ b0 = b1 ∧ c0 = c1 ∧ d0 = d1 ∧ e0 = e1
      · have hW := (H2.out).2 hs
        obtain ⟨rfl, rfl, rfl, rfl, rfl⟩ := hs
        subst hW
        clear H2
        go_wp2
        go_ret
        exact ⟨rfl, hb⟩
      · have hW : ¬ W = V := fun e => hs ((H2.out).1 e)
        have hW' : (W == V) = false := by simp [hW]
        have HS := Lib.hid hs
        clear H2 hW hs
        go_wp2
        all_goals first
          | exact absurd ⟨by assumption, by assumption, by assumption, by assumption, by assumption⟩ HS.out
          | (go_ret; exact ⟨rfl, hb⟩)
    · have hF' : (F != 0) = true := by simp [hF]
      subst hE
      clear H1 hF
      go_wp2
      go_ret
      exact ⟨rfl, hb⟩
  · have hE' : (E != 0) = true := by simp [hE]
    clear H1 hE
    go_wp2
    go_ret
    exact ⟨rfl, hb⟩

set_option maxRecDepth 100000 in
theorem lifted (os : Os) (started : os.Started) (H : Type) (enc : TypeId × Value → H) :
    ReturnsInHanded {} Try.checked os 6 .any (Rows.codeOneSpec.pre6 enc Try.prog Try.f6 Rows.codeOneRow.domain false) (Rows.codeOneSpec.post enc Try.prog Try.f6 false true false false) := by
  refine returnsInHanded_of_change (C := Try.checked) own started (by kernel_rfl) Try.func6
    (ChangeSpec.witness6 (enc := enc) (C := Try.checked) false ⟨#[], #[.agg #[.int .i64 0, .int .i64 0, .int .i64 0, .int .i64 0, .int .i64 0], .agg #[.int .i64 0, .int .i64 0, .int .i64 0, .int .i64 0, .int .i64 0]], []⟩ 8 (by kernel_rfl) (by kernel_rfl) (by kernel_rfl) (by kernel_rfl)) ?_
  intro W base args ds gs before hval0 hW hcnd _
  have hval : ∀ (j : Nat) t v, Try.f6.params[j]? = some t → args[j]? = some v → Value.okWide Try.prog W .any base t v := hval0
  have hW' := hW
  obtain ⟨p, q, hA0, hV, rfl, hfz, hnd⟩ := hW
  have hA : DataW.TrodAll enc Try.prog W 0 (fun _ => true) true Try.f6.params.toList args.toList ds p := hA0
  rw [Try.params6] at hA hval
  obtain ⟨v0, vs0, d0, ds0, p0, q0, hargs, rfl, rfl, h0, r0⟩ := trodAll_cons hA
  obtain ⟨v1, vs1, d1, ds1, p1, q1, rfl, rfl, rfl, h1, r1⟩ := trodAll_cons r0
  obtain ⟨rfl, rfl, rfl⟩ := trodAll_nil r1
  obtain rfl : args = #[v0, v1] := by cases args; simp_all
  obtain ⟨rfl, rfl⟩ := trodVars_none hV
  obtain ⟨a0, b0, c0, d0, e0, rfl, rfl, rfl, wa0, wb0, wc0, wd0, we0⟩ := CP.open_instr (hval 0 23 v0 rfl rfl) h0
  obtain ⟨a1, b1, c1, d1, e1, rfl, rfl, rfl, wa1, wb1, wc1, wd1, we1⟩ := CP.open_instr (hval 1 23 v1 rfl rfl) h1
  clear hA0 hval0
  simp only [List.append_nil] at hW'
  refine (walk a0 b0 c0 d0 e0 wa0 wb0 wc0 wd0 we0 a1 b1 c1 d1 e1 wa1 wb1 wc1 wd1 we1 W).mono fun e W' ⟨he, hg⟩ => ?_
  subst he
  exact ⟨_, rfl, _, _, _, [], [], [], hW', (trodAll_cons_mk (shut_bool Try.underlying4 _) trodAll_mk0), (trodAll_cons_mk (CP.shut_instr wa0 wb0 wc0 wd0 we0) (trodAll_cons_mk (CP.shut_instr wa1 wb1 wc1 wd1 we1) trodAll_mk0)), rfl, hg.frame _, fun h => by cases h⟩

theorem over : Rows.codeOneRow.holds Try.pinned (OpenSpec.ofChange Rows.codeOneSpec) :=
  OpenClaim.holds_of_wide 6 Try.f6 rfl rfl rfl rfl rfl rfl rfl ⟨rfl, rfl, rfl, rfl, rfl⟩ rfl rfl rfl rfl rfl (by kernel_rfl) Try.func6 (by kernel_rfl)
    (of_decide_eq_true (by kernel_rfl)) (by unfold Func.isWrapper; first | (rw [if_pos (by decide +kernel)]; kernel_rfl) | (rw [if_neg (by decide +kernel)]; exact ⟨rfl, rfl⟩))
    (fun os started H enc _ => lifted os started H enc)

/-- The statement. -/
theorem proved : Rows.CodeOneSaid :=
  over
end Go.Proofs.Ytcchmnilcmnajaa.codeOne
