/-
  Of any number of an instruction and every Imm the law CodeFits returns true: the program takes it just if the document's row does.
  Conditions: none beyond those of the given statement.
-/
import Derived.Test.YtcchmnilcmnajaaRows
import Derived.Test.YtcchmnilcmnajaaCodeP
import Derived.Test.YtcchmnilcmnajaaCodeO
import Derived.Test.YtcchmnilcmnajaaCodeA
import Derived.BigGuardPart
import Derived.Deep.DeepCutAuto
import Derived.WalkKit
import Derived.ProofKit
import Derived.OpenShut
namespace Go.Proofs.Ytcchmnilcmnajaa.codeFits
open Go.ChangeShapes Go.WideShapes Go.ChangeAt Go.RowKit
set_option linter.unusedVariables false
set_option linter.unusedSimpArgs false

theorem own : ownKnob Try.prog.godebug = none := by kernel_rfl
open CW CE CD CL CO CA
theorem row_fits (op n : Int) : ∃ c, (rowV op)[0]? = some (.int .u8 c) ∧ fl c n = (CM.isOp op && CM.fits (CM.kd op) n) := by
  cases h : CM.isOp op with
  | false => exact ⟨0, by unfold rowV; rw [h]; rfl, by simp [fl]⟩
  | true =>
    refine ⟨rk (CM.kd op), by unfold rowV; rw [h]; rfl, ?_⟩
    have hk := CM.kinds (CM.ft_row h)
    generalize CM.kd op = k at *
    rcases hk with h | h | h | h | h | h | h | h | h | h | h <;> subst h <;> simp [fl, rk, CM.fits, Bool.and_assoc]
    all_goals try (rw [Bool.eq_iff_iff]; simp; omega)

set_option maxRecDepth 100000 in
set_option maxHeartbeats 8000000 in
theorem walk (a0 : Int) (wa0 : (Lit.int .i64 a0).wf = true) (a1 : Int) (wa1 : (Lit.int .i64 a1).wf = true) (w : World) :
    Calls Try.prog 5 #[.int .i64 a0, .int .i64 a1] w fun e w' => e = .returned (.bool true) ∧ Below w.heap.size w w' := by
  obtain ⟨c, hc, hf⟩ := row_fits a0 a1
  have k1 := fun w => CE.fits_ a0 a1 wa0 w
  have k2 := fun w => CO.of_ a0 w
  have k3 := fun w => CA.fits_ (rowV a0) c a1 hc w
  rw [hf] at k3
  clear hf hc
  generalize (CM.isOp a0 && CM.fits (CM.kd a0) a1) = B at *
  generalize rowV a0 = V at *
  go_enter Try.func5, Try.ntmps5
  go_wp2_with (first
    | (go_at_call 9; refine (awake _).mono ?_; rintro e w1 ⟨rfl, hb0⟩)
    | (go_at_call 14; refine (k1 _).mono ?_; rintro e w2 ⟨rfl, hb1⟩)
    | (go_at_call 16; refine (k2 _).mono ?_; rintro e w3 ⟨rfl, hb2⟩)
    | (go_at_call 15; refine (k3 _).mono ?_; rintro e w4 ⟨rfl, hb3⟩))
  have T1 := hb0.trans (hb1.mono hb0.size)
  have T2 := T1.trans (hb2.mono T1.size)
  have T3 := T2.trans (hb3.mono T2.size)
  go_ret
  exact ⟨rfl, T3⟩

set_option maxRecDepth 100000 in
theorem lifted (os : Os) (started : os.Started) (H : Type) (enc : TypeId × Value → H) :
    ReturnsInHanded {} Try.checked os 5 .any (Rows.codeFitsSpec.pre6 enc Try.prog Try.f5 Rows.codeFitsRow.domain false) (Rows.codeFitsSpec.post enc Try.prog Try.f5 false true false false) := by
  refine returnsInHanded_of_change (C := Try.checked) own started (by kernel_rfl) Try.func5
    (ChangeSpec.witness6 (enc := enc) (C := Try.checked) false ⟨#[], #[.int .i64 0, .int .i64 0], []⟩ 8 (by kernel_rfl) (by kernel_rfl) (by kernel_rfl) (by kernel_rfl)) ?_
  intro W base args ds gs before hval0 hW hcnd _
  have hval : ∀ (j : Nat) t v, Try.f5.params[j]? = some t → args[j]? = some v → Value.okWide Try.prog W .any base t v := hval0
  have hW' := hW
  obtain ⟨p, q, hA0, hV, rfl, hfz, hnd⟩ := hW
  have hA : DataW.TrodAll enc Try.prog W 0 (fun _ => true) true Try.f5.params.toList args.toList ds p := hA0
  rw [Try.params5] at hA hval
  obtain ⟨v0, vs0, d0, ds0, p0, q0, hargs, rfl, rfl, h0, r0⟩ := trodAll_cons hA
  obtain ⟨v1, vs1, d1, ds1, p1, q1, rfl, rfl, rfl, h1, r1⟩ := trodAll_cons r0
  obtain ⟨rfl, rfl, rfl⟩ := trodAll_nil r1
  obtain rfl : args = #[v0, v1] := by cases args; simp_all
  obtain ⟨rfl, rfl⟩ := trodVars_none hV
  obtain ⟨a0, rfl, rfl, rfl, wa0⟩ := open_int Try.underlying3 (hval 0 3 v0 rfl rfl) h0
  obtain ⟨a1, rfl, rfl, rfl, wa1⟩ := open_int Try.underlying3 (hval 1 3 v1 rfl rfl) h1
  clear hA0 hval0
  simp only [List.append_nil] at hW'
  refine (walk a0 wa0 a1 wa1 W).mono fun e W' ⟨he, hg⟩ => ?_
  subst he
  exact ⟨_, rfl, _, _, _, [], [], [], hW', (trodAll_cons_mk (shut_bool Try.underlying4 _) trodAll_mk0), (trodAll_cons_mk (shut_int Try.underlying3 wa0) (trodAll_cons_mk (shut_int Try.underlying3 wa1) trodAll_mk0)), rfl, hg.frame _, fun h => by cases h⟩

theorem over : Rows.codeFitsRow.holds Try.pinned (OpenSpec.ofChange Rows.codeFitsSpec) :=
  OpenClaim.holds_of_wide 5 Try.f5 rfl rfl rfl rfl rfl rfl rfl ⟨rfl, rfl, rfl, rfl, rfl⟩ rfl rfl rfl rfl rfl (by kernel_rfl) Try.func5 (by kernel_rfl)
    (of_decide_eq_true (by kernel_rfl)) (by unfold Func.isWrapper; first | (rw [if_pos (by decide +kernel)]; kernel_rfl) | (rw [if_neg (by decide +kernel)]; exact ⟨rfl, rfl⟩))
    (fun os started H enc _ => lifted os started H enc)

/-- The statement. -/
theorem proved : Rows.CodeFitsSaid :=
  over
end Go.Proofs.Ytcchmnilcmnajaa.codeFits
