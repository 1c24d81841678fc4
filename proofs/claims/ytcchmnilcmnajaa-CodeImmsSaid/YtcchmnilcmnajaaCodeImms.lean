/-
  Of eight instructions and every Imm the law CodeImms returns true: what fits is encoded and read back, what doesn't is not taken.
  Conditions: none beyond those of the given statement.
-/
import Derived.Test.YtcchmnilcmnajaaRows
import Derived.Test.YtcchmnilcmnajaaCodeP
import Derived.Laws.StructEq
import Derived.BigGuardPart
import Derived.Deep.DeepCutAuto
import Derived.WalkKit
import Derived.ProofKit
import Derived.OpenShut
namespace Go.Proofs.Ytcchmnilcmnajaa.codeImms
open Go.ChangeShapes Go.WideShapes Go.ChangeAt Go.RowKit
set_option linter.unusedVariables false
set_option linter.unusedSimpArgs false

theorem own : ownKnob Try.prog.godebug = none := by kernel_rfl
open CW CE CD CL
def om (m : Int) : Int := [18, 24, 31, 32, 38, 40, 43, 27].getD m.toNat 0
def lm (m : Int) : Int := [-2048, 0, -2048, -4096, 0, -1048576, -2048, -2048].getD m.toNat 0
def um (m : Int) : Int := [2047, 31, 2047, 4094, 1048575, 1048574, 2047, 2047].getD m.toNat 0
def em (m : Int) : Bool := [false, false, false, true, false, true, false, false].getD m.toNat false
theorem om_op {m : Int} (h0 : 0 ≤ m) (h1 : m ≤ 7) : CM.isOp (om m) = true ∧ CM.uImm (CM.kd (om m)) = true := by
  rcases (show m = 0 ∨ m = 1 ∨ m = 2 ∨ m = 3 ∨ m = 4 ∨ m = 5 ∨ m = 6 ∨ m = 7 by omega) with h | h | h | h | h | h | h | h <;> subst h <;> decide +kernel
theorem encE_imm (op imm : Int) (ho : CM.isOp op = true) (h1 : CM.uImm (CM.kd op) = true) : encE op 0 0 0 imm = if CM.fits (CM.kd op) imm then 0 else 1 := by
  have e0 : CM.isReg 0 = true := rfl
  rw [encE, ho, CM.fault, CM.bad2, CM.bad1, h1, e0]
  cases CM.fits (CM.kd op) imm <;> simp
theorem fits_m {m : Int} (h0 : 0 ≤ m) (h1 : m ≤ 7) (x : Int) : CM.fits (CM.kd (om m)) x = (decide (lm m ≤ x) && decide (x ≤ um m) && (!em m || decide (x % 2 = 0))) := by
  rcases (show m = 0 ∨ m = 1 ∨ m = 2 ∨ m = 3 ∨ m = 4 ∨ m = 5 ∨ m = 6 ∨ m = 7 by omega) with h | h | h | h | h | h | h | h <;> subst h
  · rw [show CM.kd (om 0) = 1 by decide +kernel]; simp [CM.fits, lm, um, em]
  · rw [show CM.kd (om 1) = 2 by decide +kernel]; simp [CM.fits, lm, um, em]
  · rw [show CM.kd (om 2) = 3 by decide +kernel]; simp [CM.fits, lm, um, em]
  · rw [show CM.kd (om 3) = 4 by decide +kernel]; simp [CM.fits, lm, um, em, Bool.and_assoc]
  · rw [show CM.kd (om 4) = 5 by decide +kernel]; simp [CM.fits, lm, um, em]
  · rw [show CM.kd (om 5) = 6 by decide +kernel]; simp [CM.fits, lm, um, em, Bool.and_assoc]
  · rw [show CM.kd (om 6) = 1 by decide +kernel]; simp [CM.fits, lm, um, em]
  · rw [show CM.kd (om 7) = 1 by decide +kernel]; simp [CM.fits, lm, um, em]
theorem stp {wc w1 : World} {o : Obj} (h : Below (wc.alloc o).heap.size (wc.alloc o) w1) : Below wc.heap.size wc w1 := (box0 wc o).trans (h.mono (by simp only [World.size_alloc]; omega))
theorem kept {wc w1 : World} {I : Array Value} {T : TypeId} (h : Below (wc.alloc (.cells I T)).heap.size (wc.alloc (.cells I T)) w1) : w1.heap[wc.heap.size]? = some (.cells I T (0, 0)) := by
  rw [h.block _ (by simp only [World.size_alloc]; omega)]
  exact newAt _ _ _ rfl
theorem hand {w w1 : World} {b : Nat} {o : Obj} (h : w.heap[b]? = some o) (hb : Below w.heap.size w w1) : w1.heap[b]? = some o := (hb.block _ (lt_of_get h)).trans h

set_option maxRecDepth 100000 in
set_option maxHeartbeats 8000000 in
theorem walk (a0 : Int) (wa0 : (Lit.int .u8 a0).wf = true) (a1 : Int) (wa1 : (Lit.int .i64 a1).wf = true) (w : World) :
    Calls Try.prog 8 #[.int .u8 a0, .int .i64 a1] w fun e w' => e = .returned (.bool true) ∧ Below w.heap.size w w' := by
  have hm0 : 0 ≤ a0 % 8 ∧ a0 % 8 ≤ 7 := by omega
  have hw0 : 0 ≤ a0 := (bounds_u8 wa0).1
  obtain ⟨ho, hu⟩ := om_op hm0.1 hm0.2
  have HF := Lib.hid (fits_m hm0.1 hm0.2 a1)
  have hcases : Hid (a0 % 8 = 0 ∨ a0 % 8 = 1 ∨ a0 % 8 = 2 ∨ a0 % 8 = 3 ∨ a0 % 8 = 4 ∨ a0 % 8 = 5 ∨ a0 % 8 = 6 ∨ a0 % 8 = 7) := Lib.hid (by omega)
  have hlx : ∀ w, (Instr.index 46 (.agg #[.int .i64 (-2048), .int .i64 0, .int .i64 (-2048), .int .i64 (-4096), .int .i64 0, .int .i64 (-1048576), .int .i64 (-2048), .int .i64 (-2048)]) (.int .u8 (a0 % 8))).run Try.prog w = .ok (.int .i64 (lm (a0 % 8))) w := fun w => by
    rcases hcases.out with h | h | h | h | h | h | h | h <;> rw [h] <;> kernel_rfl
  have hux : ∀ w, (Instr.index 46 (.agg #[.int .i64 2047, .int .i64 31, .int .i64 2047, .int .i64 4094, .int .i64 1048575, .int .i64 1048574, .int .i64 2047, .int .i64 2047]) (.int .u8 (a0 % 8))).run Try.prog w = .ok (.int .i64 (um (a0 % 8))) w := fun w => by
    rcases hcases.out with h | h | h | h | h | h | h | h <;> rw [h] <;> kernel_rfl
  go_enter Try.func8, Try.ntmps8
  go_upto_region 4 with (go_at_call 9; refine (awake _).mono ?_; rintro e w' ⟨rfl, hb0⟩)
  have hb := (hb0.alloc hb0.size (.cells #[.int .i64 18, .int .i64 24, .int .i64 31, .int .i64 32, .int .i64 38, .int .i64 40, .int .i64 43, .int .i64 27] 46))
  clear hb0
  go_cut [6] from 16 (fun s6 wx => s6 = .int .i64 (om (a0 % 8)) ∧ Below w.heap.size w wx)
  case first =>
    rcases hcases.out with h | h | h | h | h | h | h | h
    all_goals
      go_wp2
      go_meet
      exact ⟨by rw [h]; rfl, hb⟩
  case rest =>
  obtain ⟨rfl, hb'⟩ := hcut
  clear hb
  have hb := hb'
  clear hb'
  go_upto_region 7 with fail
  go_cut [9] from 16 (fun s9 wx => s9 = .bool (em (a0 % 8)) ∧ Below w.heap.size w wx)
  case first =>
    rcases hcases.out with h | h | h | h | h | h | h | h
    all_goals
      have h2 : om (a0 % 8) = om (a0 % 8) := rfl
      rw (occs := .pos [2]) [h] at h2
      first
        | rw [show om 0 = 18 from rfl] at h2 | rw [show om 1 = 24 from rfl] at h2 | rw [show om 2 = 31 from rfl] at h2 | rw [show om 3 = 32 from rfl] at h2 | rw [show om 4 = 38 from rfl] at h2 | rw [show om 5 = 40 from rfl] at h2 | rw [show om 6 = 43 from rfl] at h2 | rw [show om 7 = 27 from rfl] at h2
      have H := Lib.hid h
      clear h hlx hux
      go_wp2
      go_meet
      exact ⟨by rw [H.out]; rfl, hb⟩
  case rest =>
  obtain ⟨rfl, hb'⟩ := hcut
  clear hb
  have hb := hb'
  clear hb'
  go_upto_region 8 with fail
  have hE := Lib.hid (encE_imm (om (a0 % 8)) a1 ho hu)
  have hD := Lib.hid (dec_enc (op := om (a0 % 8)) (rd := 0) (rs1 := 0) (rs2 := 0) (imm := a1))
  have hopb := CM.isOp_yes ho
  have k1 := fun w => encode_ (om (a0 % 8)) 0 0 0 a1 (WalkArith.wf_i64 (by omega)) w
  have k2 := fun w => decode_ (encW (om (a0 % 8)) 0 0 0 a1) (enc_bd _ _ _ _ _).1 (enc_bd _ _ _ _ _).2 w
  have k3 := fun w => fits_ (om (a0 % 8)) a1 (WalkArith.wf_i64 (by omega)) w
  rw [ho, Bool.true_and] at k3
  unfold iv at k1 k2
  clear hlx hux hcases ho hu hm0 hopb
  rw [← CX.tmod2] at HF
  generalize encW (om (a0 % 8)) 0 0 0 a1 = W at *
  generalize encE (om (a0 % 8)) 0 0 0 a1 = E at *
  generalize CM.fits (CM.kd (om (a0 % 8))) a1 = G at *
  generalize om (a0 % 8) = op at *
  generalize lm (a0 % 8) = L at *
  generalize um (a0 % 8) = U at *
  generalize em (a0 % 8) = Ev at *
  go_cut [10] from 16 (fun s10 wx => s10 = .bool G ∧ Below w.heap.size w wx)
  case first =>
    by_cases c1 : L ≤ a1
    · by_cases c2 : a1 ≤ U
      · cases Ev with
        | true =>
          have H := Lib.hid (show G = (a1.tmod 2 == 0) by rw [HF.out]; simp [c1, c2])
          clear HF
          go_wp2
          go_meet
          exact ⟨by rw [H.out], hb⟩
        | false =>
          have H := Lib.hid (show G = true by rw [HF.out]; simp [c1, c2])
          clear HF
          go_wp2
          go_meet
          exact ⟨by rw [H.out], hb⟩
      · have H := Lib.hid (show G = false by rw [HF.out]; simp [c1, c2])
        have d : decide (a1 ≤ U) = false := by simpa using c2
        clear HF
        go_wp2
        go_meet
        exact ⟨by rw [H.out], hb⟩
    · have H := Lib.hid (show G = false by rw [HF.out]; simp [c1])
      have d : decide (L ≤ a1) = false := by simpa using c1
      clear HF
      go_wp2
      go_meet
      exact ⟨by rw [H.out], hb⟩
  case rest =>
  obtain ⟨rfl, hb'⟩ := hcut
  clear hb HF
  have hb := hb'
  clear hb'
  cases G with
  | true =>
    have e0 : E = 0 := hE.out
    subst e0
    obtain ⟨d0, d1, d2, d3, d4, d5⟩ := hD.out rfl
    rw [d0, d1, d2, d3, d4, d5] at k2
    clear hE hD d0 d1 d2 d3 d4 d5
    go_upto_region 12 with (first
      | ((with_reducible refine (k1 _).mono ?_); rintro e w1 ⟨rfl, hb1⟩)
      | ((with_reducible refine (k2 _).mono ?_); rintro e w2 ⟨rfl, hb2⟩))
    have i1 := kept hb1
    have i2 := hand i1 hb2
    have b2 := hb.trans (((stp hb1).trans (hb2.mono (stp hb1).size)).mono hb.size)
    clear hb1 hb2 i1
    go_upto_region 14 with ((with_reducible refine (k3 _).mono ?_); rintro e w3 ⟨rfl, hb3⟩)
    have i3 := hand i2 (stp hb3)
    have j3 := kept hb3
    have b3 := b2.trans ((stp hb3).mono b2.size)
    obtain ⟨p0, p1, p2, p3, p4⟩ := CP.cells5 i3
    obtain ⟨q0, q1, q2, q3, q4⟩ := CP.cells5 j3
    clear i2 i3 j3 hb3 b2
    go_wp2
    go_ret
    exact ⟨rfl, b3⟩
  | false =>
    have e0 : E = 1 := hE.out
    subst e0
    clear hE hD
    go_wp2_with (first
      | ((with_reducible refine (k1 _).mono ?_); rintro e w1 ⟨rfl, hb1⟩)
      | ((with_reducible refine (k2 _).mono ?_); rintro e w2 ⟨rfl, hb2⟩)
      | ((with_reducible refine (k3 _).mono ?_); rintro e w3 ⟨rfl, hb3⟩))
    go_ret
    have b2 := hb.trans (((stp hb1).trans (hb2.mono (stp hb1).size)).mono hb.size)
    exact ⟨rfl, b2.trans ((stp hb3).mono b2.size)⟩

set_option maxRecDepth 100000 in
theorem lifted (os : Os) (started : os.Started) (H : Type) (enc : TypeId × Value → H) :
    ReturnsInHanded {} Try.checked os 8 .any (Rows.codeImmsSpec.pre6 enc Try.prog Try.f8 Rows.codeImmsRow.domain false) (Rows.codeImmsSpec.post enc Try.prog Try.f8 false true false false) := by
  refine returnsInHanded_of_change (C := Try.checked) own started (by kernel_rfl) Try.func8
    (ChangeSpec.witness6 (enc := enc) (C := Try.checked) false ⟨#[], #[.int .u8 0, .int .i64 0], []⟩ 8 (by kernel_rfl) (by kernel_rfl) (by kernel_rfl) (by kernel_rfl)) ?_
  intro W base args ds gs before hval0 hW hcnd _
  have hval : ∀ (j : Nat) t v, Try.f8.params[j]? = some t → args[j]? = some v → Value.okWide Try.prog W .any base t v := hval0
  have hW' := hW
  obtain ⟨p, q, hA0, hV, rfl, hfz, hnd⟩ := hW
  have hA : DataW.TrodAll enc Try.prog W 0 (fun _ => true) true Try.f8.params.toList args.toList ds p := hA0
  rw [Try.params8] at hA hval
  obtain ⟨v0, vs0, d0, ds0, p0, q0, hargs, rfl, rfl, h0, r0⟩ := trodAll_cons hA
  obtain ⟨v1, vs1, d1, ds1, p1, q1, rfl, rfl, rfl, h1, r1⟩ := trodAll_cons r0
  obtain ⟨rfl, rfl, rfl⟩ := trodAll_nil r1
  obtain rfl : args = #[v0, v1] := by cases args; simp_all
  obtain ⟨rfl, rfl⟩ := trodVars_none hV
  obtain ⟨a0, rfl, rfl, rfl, wa0⟩ := open_int Try.underlying5 (hval 0 5 v0 rfl rfl) h0
  obtain ⟨a1, rfl, rfl, rfl, wa1⟩ := open_int Try.underlying3 (hval 1 3 v1 rfl rfl) h1
  clear hA0 hval0
  simp only [List.append_nil] at hW'
  refine (walk a0 wa0 a1 wa1 W).mono fun e W' ⟨he, hg⟩ => ?_
  subst he
  exact ⟨_, rfl, _, _, _, [], [], [], hW', (trodAll_cons_mk (shut_bool Try.underlying4 _) trodAll_mk0), (trodAll_cons_mk (shut_int Try.underlying5 wa0) (trodAll_cons_mk (shut_int Try.underlying3 wa1) trodAll_mk0)), rfl, hg.frame _, fun h => by cases h⟩

theorem over : Rows.codeImmsRow.holds Try.pinned (OpenSpec.ofChange Rows.codeImmsSpec) :=
  OpenClaim.holds_of_wide 8 Try.f8 rfl rfl rfl rfl rfl rfl rfl ⟨rfl, rfl, rfl, rfl, rfl⟩ rfl rfl rfl rfl rfl (by kernel_rfl) Try.func8 (by kernel_rfl)
    (of_decide_eq_true (by kernel_rfl)) (by unfold Func.isWrapper; first | (rw [if_pos (by decide +kernel)]; kernel_rfl) | (rw [if_neg (by decide +kernel)]; exact ⟨rfl, rfl⟩))
    (fun os started H enc _ => lifted os started H enc)

/-- The statement. -/
theorem proved : Rows.CodeImmsSaid :=
  over
end Go.Proofs.Ytcchmnilcmnajaa.codeImms
