/-
  Of any word the law CodeDecodes returns true: its instruction is the one that the document's tables make, or there is none for both, and an instruction has this word.
  Conditions: none beyond those of the given statement.
-/
import Derived.Test.YtcchmnilcmnajaaRows
import Derived.Test.YtcchmnilcmnajaaCodeP
import Derived.Test.YtcchmnilcmnajaaCodeT
import Derived.Laws.StructEq
import Derived.BigGuardPart
import Derived.Deep.DeepCutAuto
import Derived.WalkKit
import Derived.ProofKit
import Derived.OpenShut
namespace Go.Proofs.Ytcchmnilcmnajaa.codeDecodes
open Go.ChangeShapes Go.WideShapes Go.ChangeAt Go.RowKit
set_option linter.unusedVariables false
set_option linter.unusedSimpArgs false

theorem own : ownKnob Try.prog.godebug = none := by kernel_rfl
open CW CE CD CL
theorem dec_is {x : Int} (h0 : 0 ≤ x) (h1 : x < 4294967296) (h : ¬ CM.dec x = 0) : CM.hit (CM.dec x) x = true := by
  rcases Classical.em (∃ op, CM.hit op x = true) with ⟨op, ho⟩ | hn
  · rw [CM.dec_hit ho h0 h1]; exact ho
  · refine absurd (CM.dec_none fun op => ?_) h
    cases hh : CM.hit op x with
    | true => exact absurd ⟨op, hh⟩ hn
    | false => rfl
theorem enc_dec {x : Int} (h0 : 0 ≤ x) (h1 : x < 4294967296) (h : ¬ CM.dec x = 0) : encE (dOp x) (dRd x) (dRs1 x) (dRs2 x) (dImm x) = 0 ∧ encW (dOp x) (dRd x) (dRs1 x) (dRs2 x) (dImm x) = x := by
  have hh := CM.hit_op (dec_is h0 h1 h)
  have hf := CM.fault_good (CM.cand_good (CM.ft_row hh.1) h0 h1)
  have h2 := hh.2
  unfold CM.again at h2
  simp only [encE, encW, dOp, dRd, dRs1, dRs2, dImm, if_neg h, hh.1, hf, h2]
  simp
theorem dec_nil {x : Int} (h : CM.dec x = 0) : dE x = 2 := by simp [dE, h]
theorem dec_ok {x : Int} (h : ¬ CM.dec x = 0) : dE x = 0 := by simp [dE, h]
theorem wf_dec {x : Int} (h0 : 0 ≤ x) (h1 : x < 4294967296) : (Lit.int .i64 (dOp x)).wf = true := by
  by_cases h : CM.dec x = 0
  · rw [dOp, h]; decide
  · have hi := CM.isOp_yes (CM.hit_op (dec_is h0 h1 h)).1
    exact WalkArith.wf_i64 (by rw [dOp]; omega)
theorem row1 {w1 w2 : World} {I : Array Value} (hb : Below (w1.alloc (.cells I 23)).heap.size (w1.alloc (.cells I 23)) w2) : w2.heap[w1.heap.size]? = some (.cells I 23 (0, 0)) ∧ Below w1.heap.size w1 w2 := by
  refine ⟨?_, (box0 w1 _).trans (hb.mono (by simp only [World.size_alloc]; omega))⟩
  rw [hb.block _ (by simp only [World.size_alloc]; omega)]
  exact newAt _ _ _ rfl
theorem hand {w w1 : World} {b : Nat} {o : Obj} (h : w.heap[b]? = some o) (hb : Below w.heap.size w w1) : w1.heap[b]? = some o := (hb.block _ (lt_of_get h)).trans h

set_option maxRecDepth 100000 in
set_option maxHeartbeats 8000000 in
theorem walk (a0 : Int) (wa0 : (Lit.int .u32 a0).wf = true) (w : World) :
    Calls Try.prog 4 #[.int .u32 a0] w fun e w' => e = .returned (.bool true) ∧ Below w.heap.size w w' := by
  have hx := bounds_u32 wa0
  have hx0 : 0 ≤ a0 := hx.1
  have hx1 : a0 < 4294967296 := by omega
  have k1 := fun w => decode_ a0 hx0 hx1 w
  have k2 := fun w => CT.decode_ a0 hx0 hx1 w
  have k3 := fun w => encode_ (dOp a0) (dRd a0) (dRs1 a0) (dRs2 a0) (dImm a0) (wf_dec hx0 hx1) w
  have H1 := Lib.hid (enc_dec hx0 hx1)
  have H2 := Lib.hid (dec_nil (x := a0))
  have H3 := Lib.hid (dec_ok (x := a0))
  clear hx
  unfold iv at k1 k2 k3
  generalize encW (dOp a0) (dRd a0) (dRs1 a0) (dRs2 a0) (dImm a0) = W at *
  generalize encE (dOp a0) (dRd a0) (dRs1 a0) (dRs2 a0) (dImm a0) = E at *
  generalize dE a0 = D at *
  generalize dOp a0 = p at *
  generalize dRd a0 = q at *
  generalize dRs1 a0 = r at *
  generalize dRs2 a0 = s at *
  generalize dImm a0 = t at *
  obtain ⟨c, hc⟩ : ∃ c : Bool, (!(CM.dec a0 == 0)) = c := ⟨_, rfl⟩
  rw [hc] at k2
  have H4 : Hid (c = true → E = 0 ∧ W = a0 ∧ D = 0) := Lib.hid (fun h => by
    have h2 : ¬ CM.dec a0 = 0 := by rw [h] at hc; simpa using hc
    exact ⟨(H1.out h2).1, (H1.out h2).2, H3.out h2⟩)
  have H5 : Hid (c = false → D = 2) := Lib.hid (fun h => H2.out (by rw [h] at hc; simpa using hc))
  clear hc H1 H2 H3
  go_enter Try.func4, Try.ntmps4
  go_upto_region 3 with (go_at_call 9; refine (awake _).mono ?_; rintro e w1 ⟨rfl, hb0⟩)
  go_upto_region 4 with ((with_reducible refine (k1 _).mono ?_); rintro e w2 ⟨rfl, hb1⟩)
  go_upto_region 5 with ((with_reducible refine (k2 _).mono ?_); rintro e w3 ⟨rfl, hb2⟩)
  obtain ⟨h2, hb3⟩ := row1 hb2
  have HI := Lib.hid h2
  have B1 := hb0.trans (hb1.mono hb0.size)
  have B2 := B1.trans (hb3.mono B1.size)
  obtain ⟨p0, p1, p2, p3, p4⟩ := CP.cells5 h2
  have hlt := lt_of_get h2
  clear h2 hb0 hb1 hb2 hb3 B1
  cases c with
  | true =>
    obtain ⟨rfl, rfl, rfl⟩ := H4.out rfl
    clear H4 H5
    go_upto_region 7 with fail
    go_upto_region 8 with ((with_reducible refine (k3 _).mono ?_); rintro e w4 ⟨rfl, hb4⟩)
    have B3 := (B2.alloc B2.size (.cells #[.int .i64 p, .int .i64 q, .int .i64 r, .int .i64 s, .int .i64 t] 23))
    have B4 := B3.trans (hb4.mono B3.size)
    clear B3 hb4
    go_wp2
    go_ret
    exact ⟨rfl, B4⟩
  | false =>
    obtain rfl := H5.out rfl
    clear H4 H5
    go_upto_region 7 with fail
    go_upto_region 8 with ((with_reducible refine (k3 _).mono ?_); rintro e w4 ⟨rfl, hb4⟩)
    have B3 := (B2.alloc B2.size (.cells #[.int .i64 p, .int .i64 q, .int .i64 r, .int .i64 s, .int .i64 t] 23))
    have B4 := B3.trans (hb4.mono B3.size)
    clear B3 hb4
    go_wp2
    go_ret
    exact ⟨rfl, B4⟩

set_option maxRecDepth 100000 in
theorem lifted (os : Os) (started : os.Started) (H : Type) (enc : TypeId × Value → H) :
    ReturnsInHanded {} Try.checked os 4 .any (Rows.codeDecodesSpec.pre6 enc Try.prog Try.f4 Rows.codeDecodesRow.domain false) (Rows.codeDecodesSpec.post enc Try.prog Try.f4 false true false false) := by
  refine returnsInHanded_of_change (C := Try.checked) own started (by kernel_rfl) Try.func4
    (ChangeSpec.witness6 (enc := enc) (C := Try.checked) false ⟨#[], #[.int .u32 0], []⟩ 8 (by kernel_rfl) (by kernel_rfl) (by kernel_rfl) (by kernel_rfl)) ?_
  intro W base args ds gs before hval0 hW hcnd _
  have hval : ∀ (j : Nat) t v, Try.f4.params[j]? = some t → args[j]? = some v → Value.okWide Try.prog W .any base t v := hval0
  have hW' := hW
  obtain ⟨p, q, hA0, hV, rfl, hfz, hnd⟩ := hW
  have hA : DataW.TrodAll enc Try.prog W 0 (fun _ => true) true Try.f4.params.toList args.toList ds p := hA0
  rw [Try.params4] at hA hval
  obtain ⟨v0, vs0, d0, ds0, p0, q0, hargs, rfl, rfl, h0, r0⟩ := trodAll_cons hA
  obtain ⟨rfl, rfl, rfl⟩ := trodAll_nil r0
  obtain rfl : args = #[v0] := by cases args; simp_all
  obtain ⟨rfl, rfl⟩ := trodVars_none hV
  obtain ⟨a0, rfl, rfl, rfl, wa0⟩ := open_int Try.underlying25 (hval 0 25 v0 rfl rfl) h0
  clear hA0 hval0
  simp only [List.append_nil] at hW'
  refine (walk a0 wa0 W).mono fun e W' ⟨he, hg⟩ => ?_
  subst he
  exact ⟨_, rfl, _, _, _, [], [], [], hW', (trodAll_cons_mk (shut_bool Try.underlying4 _) trodAll_mk0), (trodAll_cons_mk (shut_int Try.underlying25 wa0) trodAll_mk0), rfl, hg.frame _, fun h => by cases h⟩

theorem over : Rows.codeDecodesRow.holds Try.pinned (OpenSpec.ofChange Rows.codeDecodesSpec) :=
  OpenClaim.holds_of_wide 4 Try.f4 rfl rfl rfl rfl rfl rfl rfl ⟨rfl, rfl, rfl, rfl, rfl⟩ rfl rfl rfl rfl rfl (by kernel_rfl) Try.func4 (by kernel_rfl)
    (of_decide_eq_true (by kernel_rfl)) (by unfold Func.isWrapper; first | (rw [if_pos (by decide +kernel)]; kernel_rfl) | (rw [if_neg (by decide +kernel)]; exact ⟨rfl, rfl⟩))
    (fun os started H enc _ => lifted os started H enc)

/-- The statement. -/
theorem proved : Rows.CodeDecodesSaid :=
  over
end Go.Proofs.Ytcchmnilcmnajaa.codeDecodes
