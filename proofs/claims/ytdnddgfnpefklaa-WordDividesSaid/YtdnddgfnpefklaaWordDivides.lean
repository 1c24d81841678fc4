/-
  Of every two words the law WordDivides returns true: a quotient times the divisor, and what is left, make what was divided.
  Conditions: none beyond those of the given statement.
-/
import Derived.Test.YtdnddgfnpefklaaRows
import Derived.Test.YtdnddgfnpefklaaWordF
import Derived.Test.YtdnddgfnpefklaaWordN
import Derived.Deep.QuietTactic
import Derived.BigQuiet
import Derived.WalkKit
import Derived.ProofKit
import Derived.OpenShut
namespace Go.Proofs.Ytdnddgfnpefklaa.wordDivides
open Go.ChangeShapes Go.WideShapes Go.ChangeAt Go.RowKit
set_option linter.unusedVariables false      -- a walk need not use every 'w<i>' (that an integer argument fits its kind)

theorem own : ownKnob Try.prog.godebug = none := by kernel_rfl

/-! ### STEP 1: THE WALK: the Go text returns true. 'Grown w w'': the world has at most new blocks (Derived/RowKit3.lean). Part the cases AHEAD of 'go_enter' where a test parts the walk; take each callee by a contract of your own. -/
theorem walk (a0 : Int) (a1 : Int) (w0 : (Lit.int .u32 a0).wf = true) (w1 : (Lit.int .u32 a1).wf = true) (w : World) :
    Calls Try.prog 7 #[.int .u32 a0, .int .u32 a1] w fun e w' => e = .returned (.bool true) ∧ Grown w w' := by
  have ha : WM.Ok a0 := bounds_u32 w0
  have hb : WM.Ok a1 := bounds_u32 w1
  have s1 := WM.quo_s a0 a1 ha hb
  have s2 := WM.quo_u a0 a1 ha
  have s3 := WM.rem_lt a0 a1 hb
  have d1 := fun w => WL.do_ 14 a0 a1 rfl ha hb w
  have d2 := fun w => WL.do_ 16 a0 a1 rfl ha hb w
  have d3 := fun w => WL.do_ 15 a0 a1 rfl ha hb w
  have d4 := fun w => WL.do_ 17 a0 a1 rfl ha hb w
  have d5 := fun w => WL.do_ 11 (WM.val 14 a0 a1) a1 rfl (WM.val_ok 14 a0 a1 ha hb) hb w
  have d6 := fun w => WL.do_ 11 (WM.val 15 a0 a1) a1 rfl (WM.val_ok 15 a0 a1 ha hb) hb w
  have d7 := fun w => WL.do_ 1 (WM.val 11 (WM.val 14 a0 a1) a1) (WM.val 16 a0 a1) rfl (WM.val_ok 11 _ a1 (WM.val_ok 14 a0 a1 ha hb) hb) (WM.val_ok 16 a0 a1 ha hb) w
  have d8 := fun w => WL.do_ 1 (WM.val 11 (WM.val 15 a0 a1) a1) (WM.val 17 a0 a1) rfl (WM.val_ok 11 _ a1 (WM.val_ok 15 a0 a1 ha hb) hb) (WM.val_ok 17 a0 a1 ha hb) w
  rw [s1] at d7
  rw [s2] at d8
  clear s1 s2
  generalize WM.val 11 (WM.val 14 a0 a1) a1 = p1 at *
  generalize WM.val 11 (WM.val 15 a0 a1) a1 = p2 at *
  generalize WM.val 14 a0 a1 = q1 at *
  generalize WM.val 15 a0 a1 = q2 at *
  generalize WM.val 16 a0 a1 = r1 at *
  generalize WM.val 17 a0 a1 = r2 at *
  have i0 : ∀ w, (Instr.index 37 (.agg #[.int .i64 14, .int .i64 16, .int .i64 15, .int .i64 17]) (.int .i64 0)).run Try.prog w = .ok (.agg #[.int .i64 14, .int .i64 16]) w := fun _ => by kernel_rfl
  have i1 : ∀ w, (Instr.index 37 (.agg #[.int .i64 14, .int .i64 16, .int .i64 15, .int .i64 17]) (.int .i64 1)).run Try.prog w = .ok (.agg #[.int .i64 15, .int .i64 17]) w := fun _ => by kernel_rfl
  have i00 : ∀ w, (Instr.index 36 (.agg #[.int .i64 14, .int .i64 16]) (.int .i64 0)).run Try.prog w = .ok (.int .i64 14) w := fun _ => by kernel_rfl
  have i01 : ∀ w, (Instr.index 36 (.agg #[.int .i64 14, .int .i64 16]) (.int .i64 1)).run Try.prog w = .ok (.int .i64 16) w := fun _ => by kernel_rfl
  have i10 : ∀ w, (Instr.index 36 (.agg #[.int .i64 15, .int .i64 17]) (.int .i64 0)).run Try.prog w = .ok (.int .i64 15) w := fun _ => by kernel_rfl
  have i11 : ∀ w, (Instr.index 36 (.agg #[.int .i64 15, .int .i64 17]) (.int .i64 1)).run Try.prog w = .ok (.int .i64 17) w := fun _ => by kernel_rfl
  have hend : (a1 == 0) = false → r2 < a1 := fun h => s3 (by simpa using h)
  go_enter Try.func7, Try.ntmps7
  go_wp2_with (go_at_call 11; refine (WL.awake _).mono ?_; rintro e w' ⟨rfl, rfl⟩)
  go_loopw [14] (fun i wr => ∃ k : Int, 0 ≤ k ∧ k ≤ 2 ∧ i = .int .i64 k ∧ Grown w' wr) (fun i _ => (2 - intOf i).toNat)
  case atStart => exact ⟨0, by omega, by omega, rfl, Grown.refl _⟩
  case round =>
    obtain ⟨k, hk1, hk2, rfl, hg⟩ := hrel
    obtain rfl | rfl | rfl : k = 0 ∨ k = 1 ∨ k = 2 := by omega
    · go_wp2
      go_quiet ((go_at_call 20; first | with_reducible exact Calls.quiet_of_same (d1 _) | with_reducible exact Calls.quiet_of_same (d2 _) | with_reducible exact Calls.quiet_of_same (d5 _) | with_reducible exact Calls.quiet_of_same (d7 _)))
      go_wp2_with (go_at_call 20; (first | (with_reducible refine (d1 _).mono ?_) | (with_reducible refine (d2 _).mono ?_) | (with_reducible refine (d5 _).mono ?_) | (with_reducible refine (d7 _).mono ?_)); rintro e wr ⟨rfl, rfl⟩)
      go_roundw
      case rel => exact ⟨1, by omega, by omega, rfl, hg.alloc _ _⟩
      case measure => simp [intOf]
    · go_wp2
      go_quiet ((go_at_call 20; first | with_reducible exact Calls.quiet_of_same (d3 _) | with_reducible exact Calls.quiet_of_same (d4 _) | with_reducible exact Calls.quiet_of_same (d6 _) | with_reducible exact Calls.quiet_of_same (d8 _)))
      go_wp2_with (go_at_call 20; (first | (with_reducible refine (d3 _).mono ?_) | (with_reducible refine (d4 _).mono ?_) | (with_reducible refine (d6 _).mono ?_) | (with_reducible refine (d8 _).mono ?_)); rintro e wr ⟨rfl, rfl⟩)
      go_roundw
      case rel => exact ⟨2, by omega, by omega, rfl, hg.alloc _ _⟩
      case measure => simp [intOf]
    · cases h0 : (a1 == 0)
      · have h1 := hend h0
        clear hend s3
        go_wp2_with (go_at_call 20; refine (d4 _).mono ?_; rintro e wr ⟨rfl, rfl⟩)
        go_ret
        exact ⟨rfl, hg⟩
      · clear hend s3
        go_wp2_with (go_at_call 20; refine (d4 _).mono ?_; rintro e wr ⟨rfl, rfl⟩)
        go_ret
        exact ⟨rfl, hg⟩

/-! ### THE ROW's STEP: WRITTEN OUT: LEAVE IT -/
set_option maxRecDepth 100000 in
theorem lifted (os : Os) (started : os.Started) (H : Type) (enc : TypeId × Value → H) :
    ReturnsInHanded {} Try.checked os 7 .any (Rows.wordDividesSpec.pre6 enc Try.prog Try.f7 Rows.wordDividesRow.domain false) (Rows.wordDividesSpec.post enc Try.prog Try.f7 false true false false) := by
  refine returnsInHanded_of_change (C := Try.checked) own started (by kernel_rfl) Try.func7
    (ChangeSpec.witness6 (enc := enc) (C := Try.checked) false ⟨#[], #[.int .u32 0, .int .u32 0], []⟩ 8 (by kernel_rfl) (by kernel_rfl) (by kernel_rfl) (by kernel_rfl)) ?_
  intro W base args ds gs before hval0 hW hcnd _
  have hval : ∀ (j : Nat) t v, Try.f7.params[j]? = some t → args[j]? = some v → Value.okWide Try.prog W .any base t v := hval0
  have hW' := hW
  obtain ⟨p, q, hA0, hV, rfl, hfz, hnd⟩ := hW
  have hA : DataW.TrodAll enc Try.prog W 0 (fun _ => true) true Try.f7.params.toList args.toList ds p := hA0
  rw [Try.params7] at hA hval
  obtain ⟨v0, vs0, d0, ds0, p0, q0, hargs, rfl, rfl, h0, r0⟩ := trodAll_cons hA
  obtain ⟨v1, vs1, d1, ds1, p1, q1, rfl, rfl, rfl, h1, r1⟩ := trodAll_cons r0
  obtain ⟨rfl, rfl, rfl⟩ := trodAll_nil r1
  obtain rfl : args = #[v0, v1] := by cases args; simp_all
  obtain ⟨rfl, rfl⟩ := trodVars_none hV
  obtain ⟨a0, rfl, rfl, rfl, w0⟩ := open_int Try.underlying22 (hval 0 22 v0 rfl rfl) h0
  obtain ⟨a1, rfl, rfl, rfl, w1⟩ := open_int Try.underlying22 (hval 1 22 v1 rfl rfl) h1
  clear hA0 hval0
  simp only [List.append_nil] at hW'
  refine (walk a0 a1 w0 w1 W).mono fun e W' ⟨he, hg⟩ => ?_
  subst he
  exact ⟨_, rfl, post_of_same (pa := []) (pv := []) hW' (fun _ _ _ => (trodAll_cons_mk (shut_bool Try.underlying4 _) trodAll_mk0)) (fun sp _ => (trodAll_cons_mk (shut_int Try.underlying22 w0) (trodAll_cons_mk (shut_int Try.underlying22 w1) trodAll_mk0))) (fun _ _ => rfl) rfl
    (hg.frame _) hg.2.1 (ok_one (by kernel_rfl) rfl (okWide_bool_mk Try.underlying4 _))⟩

theorem over : Rows.wordDividesRow.holds Try.pinned (OpenSpec.ofChange Rows.wordDividesSpec) :=
  OpenClaim.holds_of_wide 7 Try.f7 rfl rfl rfl rfl rfl rfl rfl ⟨rfl, rfl, rfl, rfl, rfl⟩ rfl rfl rfl rfl rfl (by kernel_rfl) Try.func7 (by kernel_rfl)
    (of_decide_eq_true (by kernel_rfl)) (by unfold Func.isWrapper; first | (rw [if_pos (by decide +kernel)]; kernel_rfl) | (rw [if_neg (by decide +kernel)]; exact ⟨rfl, rfl⟩))
    (fun os started H enc _ => lifted os started H enc)

/-- ████ THE STATEMENT ████ -/
theorem proved : Rows.WordDividesSaid :=
  over
end Go.Proofs.Ytdnddgfnpefklaa.wordDivides
