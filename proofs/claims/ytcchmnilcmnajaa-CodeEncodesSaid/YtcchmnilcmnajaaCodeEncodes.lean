/-
  Of any instruction the law CodeEncodes returns true: its word is the one that the document's tables make, or what is wrong is theirs, and a word is read back.
  Conditions: none beyond those of the given statement.
-/
import Derived.Test.YtcchmnilcmnajaaRows
import Derived.Test.YtcchmnilcmnajaaCodeP
import Derived.Test.YtcchmnilcmnajaaCodeJ
import Derived.Laws.StructEq
import Derived.BigGuardPart
import Derived.Deep.DeepCutAuto
import Derived.WalkKit
import Derived.ProofKit
import Derived.OpenShut
namespace Go.Proofs.Ytcchmnilcmnajaa.codeEncodes
open Go.ChangeShapes Go.WideShapes Go.ChangeAt Go.RowKit
set_option linter.unusedVariables false
set_option linter.unusedSimpArgs false

theorem own : ownKnob Try.prog.godebug = none := by kernel_rfl
open CW CE CD CL
theorem row0 {w w1 : World} {I : Array Value} (hb : Below (w.alloc (.cells I 23)).heap.size (w.alloc (.cells I 23)) w1) : w1.heap[w.heap.size]? = some (.cells I 23 (0, 0)) ∧ Below w.heap.size w w1 := by
  refine ⟨?_, (box0 w _).trans (hb.mono (by simp only [World.size_alloc]; omega))⟩
  rw [hb.block _ (by simp only [World.size_alloc]; omega)]
  exact newAt _ _ _ rfl
theorem hand {w w1 : World} {b : Nat} {o : Obj} (h : w.heap[b]? = some o) (hb : Below w.heap.size w w1) : w1.heap[b]? = some o := (hb.block _ (lt_of_get h)).trans h

set_option maxRecDepth 100000 in
set_option maxHeartbeats 8000000 in
theorem walk (a0 b0 c0 d0 e0 : Int) (wa0 : (Lit.int .i64 a0).wf = true) (wb0 : (Lit.int .i64 b0).wf = true) (wc0 : (Lit.int .i64 c0).wf = true) (wd0 : (Lit.int .i64 d0).wf = true) (we0 : (Lit.int .i64 e0).wf = true) (w : World) :
    Calls Try.prog 3 #[.agg #[.int .i64 a0, .int .i64 b0, .int .i64 c0, .int .i64 d0, .int .i64 e0]] w fun e w' => e = .returned (.bool true) ∧ Below w.heap.size w w' := by
  have k1 := fun w => encode_ a0 b0 c0 d0 e0 wa0 w
  have k2 := fun w => CJ.encode_ a0 b0 c0 d0 e0 wb0 wc0 wd0 we0 w
  have hbd := enc_bd a0 b0 c0 d0 e0
  have k3 := fun w => decode_ (encW a0 b0 c0 d0 e0) hbd.1 hbd.2 w
  have H1 := Lib.hid (dec_enc (op := a0) (rd := b0) (rs1 := c0) (rs2 := d0) (imm := e0))
  unfold iv at k1 k2 k3
  generalize encW a0 b0 c0 d0 e0 = W at *
  generalize encE a0 b0 c0 d0 e0 = E at *
  clear hbd
  go_enter Try.func3, Try.ntmps3
  go_upto_region 3 with (go_at_call 9; refine (awake _).mono ?_; rintro e w1 ⟨rfl, hb0⟩)
  obtain ⟨hi, hb⟩ := row0 hb0
  have HI := Lib.hid hi
  obtain ⟨p0, p1, p2, p3, p4⟩ := CP.cells5 hi
  clear hi hb0
  go_upto_region 4 with ((with_reducible refine (k1 _).mono ?_); rintro e w2 ⟨rfl, hb1⟩)
  have HJ := Lib.hid (hand HI.out hb1)
  have B1 := hb.trans (hb1.mono hb.size)
  clear p0 p1 p2 p3 p4 HI hb hb1
  obtain ⟨p0, p1, p2, p3, p4⟩ := CP.cells5 HJ.out
  go_upto_region 5 with ((with_reducible refine (k2 _).mono ?_); rintro e w3 ⟨rfl, hb2⟩)
  have HK := Lib.hid (hand HJ.out hb2)
  have B2 := B1.trans (hb2.mono B1.size)
  clear p0 p1 p2 p3 p4 HJ B1 hb2
  by_cases hE : E = 0
  · subst hE
    obtain ⟨e1, e2, e3, e4, e5, e6⟩ := H1.out rfl
    rw [e1, e2, e3, e4, e5, e6] at k3
    clear H1 e1 e2 e3 e4 e5 e6
    go_upto_region 10 with ((with_reducible refine (k3 _).mono ?_); rintro e w4 ⟨rfl, hb3⟩)
    have HL := Lib.hid (hand HK.out hb3)
    have B3 := B2.trans (hb3.mono B2.size)
    have B4 := B3.alloc B3.size (.cells #[.int .i64 a0, .int .i64 b0, .int .i64 c0, .int .i64 d0, .int .i64 e0] 23)
    have hlt := lt_of_get HL.out
    clear HK B2 hb3
    obtain ⟨p0, p1, p2, p3, p4⟩ := CP.cells5 HL.out
    clear B3
    go_wp2
    go_ret
    exact ⟨rfl, B4⟩
  · have hE' : (E != 0) = true := by simp [hE]
    clear H1 hE
    go_wp2
    go_ret
    exact ⟨rfl, B2⟩

set_option maxRecDepth 100000 in
theorem lifted (os : Os) (started : os.Started) (H : Type) (enc : TypeId × Value → H) :
    ReturnsInHanded {} Try.checked os 3 .any (Rows.codeEncodesSpec.pre6 enc Try.prog Try.f3 Rows.codeEncodesRow.domain false) (Rows.codeEncodesSpec.post enc Try.prog Try.f3 false true false false) := by
  refine returnsInHanded_of_change (C := Try.checked) own started (by kernel_rfl) Try.func3
    (ChangeSpec.witness6 (enc := enc) (C := Try.checked) false ⟨#[], #[.agg #[.int .i64 0, .int .i64 0, .int .i64 0, .int .i64 0, .int .i64 0]], []⟩ 8 (by kernel_rfl) (by kernel_rfl) (by kernel_rfl) (by kernel_rfl)) ?_
  intro W base args ds gs before hval0 hW hcnd _
  have hval : ∀ (j : Nat) t v, Try.f3.params[j]? = some t → args[j]? = some v → Value.okWide Try.prog W .any base t v := hval0
  have hW' := hW
  obtain ⟨p, q, hA0, hV, rfl, hfz, hnd⟩ := hW
  have hA : DataW.TrodAll enc Try.prog W 0 (fun _ => true) true Try.f3.params.toList args.toList ds p := hA0
  rw [Try.params3] at hA hval
  obtain ⟨v0, vs0, d0, ds0, p0, q0, hargs, rfl, rfl, h0, r0⟩ := trodAll_cons hA
  obtain ⟨rfl, rfl, rfl⟩ := trodAll_nil r0
  obtain rfl : args = #[v0] := by cases args; simp_all
  obtain ⟨rfl, rfl⟩ := trodVars_none hV
  obtain ⟨a0, b0, c0, d0, e0, rfl, rfl, rfl, wa0, wb0, wc0, wd0, we0⟩ := CP.open_instr (hval 0 23 v0 rfl rfl) h0
  clear hA0 hval0
  simp only [List.append_nil] at hW'
  refine (walk a0 b0 c0 d0 e0 wa0 wb0 wc0 wd0 we0 W).mono fun e W' ⟨he, hg⟩ => ?_
  subst he
  exact ⟨_, rfl, _, _, _, [], [], [], hW', (trodAll_cons_mk (shut_bool Try.underlying4 _) trodAll_mk0), (trodAll_cons_mk (CP.shut_instr wa0 wb0 wc0 wd0 we0) trodAll_mk0), rfl, hg.frame _, fun h => by cases h⟩

theorem over : Rows.codeEncodesRow.holds Try.pinned (OpenSpec.ofChange Rows.codeEncodesSpec) :=
  OpenClaim.holds_of_wide 3 Try.f3 rfl rfl rfl rfl rfl rfl rfl ⟨rfl, rfl, rfl, rfl, rfl⟩ rfl rfl rfl rfl rfl (by kernel_rfl) Try.func3 (by kernel_rfl)
    (of_decide_eq_true (by kernel_rfl)) (by unfold Func.isWrapper; first | (rw [if_pos (by decide +kernel)]; kernel_rfl) | (rw [if_neg (by decide +kernel)]; exact ⟨rfl, rfl⟩))
    (fun os started H enc _ => lifted os started H enc)

/-- The statement. -/
theorem proved : Rows.CodeEncodesSaid :=
  over
end Go.Proofs.Ytcchmnilcmnajaa.codeEncodes
