/-
  Of every three words the law WordLaws returns true: sums and products don't hang on the order, SUB undoes ADD, XOR undoes itself, moves lose just what falls off.
  Conditions: none beyond those of the given statement.
-/
import Derived.Test.YtdnddgfnpefklaaRows
import Derived.Test.YtdnddgfnpefklaaWordF
import Derived.Test.YtdnddgfnpefklaaWordN
import Derived.WalkKit
import Derived.ProofKit
import Derived.OpenShut
namespace Go.Proofs.Ytdnddgfnpefklaa.wordLaws
open Go.ChangeShapes Go.WideShapes Go.ChangeAt Go.RowKit
set_option linter.unusedVariables false      -- a walk need not use every 'w<i>' (that an integer argument fits its kind)

theorem own : ownKnob Try.prog.godebug = none := by kernel_rfl

/-! ### STEP 1: THE WALK: the Go text returns true. 'Grown w w'': the world has at most new blocks (Derived/RowKit3.lean). Part the cases AHEAD of 'go_enter' where a test parts the walk; take each callee by a contract of your own. -/
theorem walk (a0 : Int) (a1 : Int) (a2 : Int) (w0 : (Lit.int .u32 a0).wf = true) (w1 : (Lit.int .u32 a1).wf = true) (w2 : (Lit.int .u32 a2).wf = true) (w : World) :
    Calls Try.prog 9 #[.int .u32 a0, .int .u32 a1, .int .u32 a2] w fun e w' => e = .returned (.bool true) ∧ Grown w w' := by
  have ha : WM.Ok a0 := bounds_u32 w0
  have hb : WM.Ok a1 := bounds_u32 w1
  have hc : WM.Ok a2 := bounds_u32 w2
  have oA := WM.val_ok 1 a0 a1 ha hb
  have oX := WM.val_ok 6 a0 a1 ha hb
  have oB := WM.val_ok 1 a1 a2 hb hc
  have oP := WM.val_ok 11 a0 a1 ha hb
  have oQ := WM.val_ok 11 a0 a2 ha hc
  have oS := WM.val_ok 3 a0 a2 ha hc
  have c1 := fun w => WL.do_ 1 a0 a1 rfl ha hb w
  have c2 := fun w => WL.do_ 1 a1 a0 rfl hb ha w
  have c3 := fun w => WL.do_ 11 a0 a1 rfl ha hb w
  have c4 := fun w => WL.do_ 11 a1 a0 rfl hb ha w
  have c5 := fun w => WL.do_ 2 (WM.val 1 a0 a1) a1 rfl oA hb w
  have c6 := fun w => WL.do_ 6 a0 a1 rfl ha hb w
  have c7 := fun w => WL.do_ 6 (WM.val 6 a0 a1) a1 rfl oX hb w
  have c8 := fun w => WL.do_ 1 a1 a2 rfl hb hc w
  have c9 := fun w => WL.do_ 11 a0 (WM.val 1 a1 a2) rfl ha oB w
  have c10 := fun w => WL.do_ 11 a0 a2 rfl ha hc w
  have c11 := fun w => WL.do_ 1 (WM.val 11 a0 a1) (WM.val 11 a0 a2) rfl oP oQ w
  have c12 := fun w => WL.do_ 3 a0 a2 rfl ha hc w
  have c13 := fun w => WL.do_ 7 (WM.val 3 a0 a2) a2 rfl oS hc w
  have hn : (a2 % 32).toNat ≤ 31 := by omega
  have p1 := WM.pow_pos32 (32 - (a2 % 32).toNat)
  have p2 := WM.pow_le32 (32 - (a2 % 32).toNat) (by omega)
  have hmask : WM.Ok (2 ^ (32 - (a2 % 32).toNat) - 1) := ⟨by omega, by omega⟩
  have c14 := fun v w (hv : v = 2 ^ (32 - (a2 % 32).toNat) - 1) => WL.do_ 10 a0 v rfl ha (by rw [hv]; exact hmask) w
  have c15 := fun w => WL.do_ 4 a0 a1 rfl ha hb w
  have c16 := fun w => WL.do_ 4 a1 a0 rfl hb ha w
  have c17 := fun w => WL.do_ 5 a0 a1 rfl ha hb w
  rw [WM.add_comm' a1 a0] at c2
  rw [WM.mul_comm' a1 a0] at c4
  rw [WM.sub_add a0 a1 ha] at c5
  rw [WM.xor_xor a0 a1 ha hb] at c7
  rw [WM.distrib a0 a1 a2] at c9
  rw [WM.v7, WM.v3, WM.shl_shr a0 _ (by omega)] at c13
  rw [← WM.v3] at c13
  have c18 : ∀ v w, v = 2 ^ (32 - (a2 % 32).toNat) - 1 → Calls Try.prog 20 #[.int .i64 10, .int .u32 a0, .int .u32 v] w fun e w' => e = .returned (.int .u32 (a0 % 2 ^ (32 - (a2 % 32).toNat))) ∧ w' = w := by
    intro v w hv
    have := c14 v w hv
    rw [hv, WM.and_mask a0 _ ha (by omega)] at this
    rw [hv]
    exact this
  clear c14
  have e32 : 32 - (a2 % 32).toNat = (32 - a2 % 32).toNat := by omega
  rw [e32] at c13 c18 p1 p2
  clear e32
  have u1 : IntKind.u64.wrap (2 ^ (32 - a2 % 32).toNat) = 2 ^ (32 - a2 % 32).toNat := IntWalk.u64_in _ (by omega)
  have u2 : IntKind.u64.wrap (2 ^ (32 - a2 % 32).toNat - 1) = 2 ^ (32 - a2 % 32).toNat - 1 := IntWalk.u64_in _ (by omega)
  have s1 := WM.slt_sum a0 a1
  have e5 := WM.v5 a0 a1
  generalize WM.val 1 a0 a1 = s at *
  generalize WM.val 11 a0 a1 = p at *
  generalize WM.val 6 a0 a1 = x at *
  generalize WM.val 1 a1 a2 = t at *
  generalize WM.val 11 a0 a2 = q at *
  generalize WM.val 1 p q = u at *
  generalize WM.val 3 a0 a2 = m at *
  generalize a0 % 2 ^ (32 - a2 % 32).toNat = r at *
  generalize WM.val 4 a0 a1 = l at *
  generalize WM.val 4 a1 a0 = k at *
  generalize WM.val 5 a0 a1 = g at *
  obtain ⟨ha1, ha2⟩ := ha
  obtain ⟨hb1, hb2⟩ := hb
  obtain ⟨hc1, hc2⟩ := hc
  clear oA oX oB oP oQ oS hmask
  unfold WM.one at e5
  by_cases hlt : a0 < a1
  all_goals
    first | rw [if_pos hlt] at e5 | rw [if_neg hlt] at e5
    subst e5
    go_enter Try.func9, Try.ntmps9
    go_wp2_with (first
      | (go_at_call 11; refine (WL.awake _).mono ?_; rintro e w' ⟨rfl, rfl⟩)
      | (go_at_call 20; (first| (with_reducible refine (c1 _).mono ?_) | (with_reducible refine (c2 _).mono ?_) | (with_reducible refine (c3 _).mono ?_) | (with_reducible refine (c4 _).mono ?_) | (with_reducible refine (c5 _).mono ?_) | (with_reducible refine (c6 _).mono ?_) | (with_reducible refine (c7 _).mono ?_) | (with_reducible refine (c8 _).mono ?_) | (with_reducible refine (c9 _).mono ?_) | (with_reducible refine (c10 _).mono ?_) | (with_reducible refine (c11 _).mono ?_) | (with_reducible refine (c12 _).mono ?_) | (with_reducible refine (c13 _).mono ?_) | (with_reducible refine (c18 _ _ (by omega)).mono ?_) | (with_reducible refine (c15 _).mono ?_) | (with_reducible refine (c16 _).mono ?_) | (with_reducible refine (c17 _).mono ?_)); rintro e w' ⟨rfl, rfl⟩))
    go_ret
    refine ⟨?_, Grown.refl _⟩
    first | rfl | (show Ending.returned (.bool (!decide (a0 < a1))) = _; rw [decide_eq_false (by omega)]; rfl)

/-! ### THE ROW's STEP: WRITTEN OUT: LEAVE IT -/
set_option maxRecDepth 100000 in
theorem lifted (os : Os) (started : os.Started) (H : Type) (enc : TypeId × Value → H) :
    ReturnsInHanded {} Try.checked os 9 .any (Rows.wordLawsSpec.pre6 enc Try.prog Try.f9 Rows.wordLawsRow.domain false) (Rows.wordLawsSpec.post enc Try.prog Try.f9 false true false false) := by
  refine returnsInHanded_of_change (C := Try.checked) own started (by kernel_rfl) Try.func9
    (ChangeSpec.witness6 (enc := enc) (C := Try.checked) false ⟨#[], #[.int .u32 0, .int .u32 0, .int .u32 0], []⟩ 8 (by kernel_rfl) (by kernel_rfl) (by kernel_rfl) (by kernel_rfl)) ?_
  intro W base args ds gs before hval0 hW hcnd _
  have hval : ∀ (j : Nat) t v, Try.f9.params[j]? = some t → args[j]? = some v → Value.okWide Try.prog W .any base t v := hval0
  have hW' := hW
  obtain ⟨p, q, hA0, hV, rfl, hfz, hnd⟩ := hW
  have hA : DataW.TrodAll enc Try.prog W 0 (fun _ => true) true Try.f9.params.toList args.toList ds p := hA0
  rw [Try.params9] at hA hval
  obtain ⟨v0, vs0, d0, ds0, p0, q0, hargs, rfl, rfl, h0, r0⟩ := trodAll_cons hA
  obtain ⟨v1, vs1, d1, ds1, p1, q1, rfl, rfl, rfl, h1, r1⟩ := trodAll_cons r0
  obtain ⟨v2, vs2, d2, ds2, p2, q2, rfl, rfl, rfl, h2, r2⟩ := trodAll_cons r1
  obtain ⟨rfl, rfl, rfl⟩ := trodAll_nil r2
  obtain rfl : args = #[v0, v1, v2] := by cases args; simp_all
  obtain ⟨rfl, rfl⟩ := trodVars_none hV
  obtain ⟨a0, rfl, rfl, rfl, w0⟩ := open_int Try.underlying22 (hval 0 22 v0 rfl rfl) h0
  obtain ⟨a1, rfl, rfl, rfl, w1⟩ := open_int Try.underlying22 (hval 1 22 v1 rfl rfl) h1
  obtain ⟨a2, rfl, rfl, rfl, w2⟩ := open_int Try.underlying22 (hval 2 22 v2 rfl rfl) h2
  clear hA0 hval0
  simp only [List.append_nil] at hW'
  refine (walk a0 a1 a2 w0 w1 w2 W).mono fun e W' ⟨he, hg⟩ => ?_
  subst he
  exact ⟨_, rfl, post_of_same (pa := []) (pv := []) hW' (fun _ _ _ => (trodAll_cons_mk (shut_bool Try.underlying4 _) trodAll_mk0)) (fun sp _ => (trodAll_cons_mk (shut_int Try.underlying22 w0) (trodAll_cons_mk (shut_int Try.underlying22 w1) (trodAll_cons_mk (shut_int Try.underlying22 w2) trodAll_mk0)))) (fun _ _ => rfl) rfl
    (hg.frame _) hg.2.1 (ok_one (by kernel_rfl) rfl (okWide_bool_mk Try.underlying4 _))⟩

theorem over : Rows.wordLawsRow.holds Try.pinned (OpenSpec.ofChange Rows.wordLawsSpec) :=
  OpenClaim.holds_of_wide 9 Try.f9 rfl rfl rfl rfl rfl rfl rfl ⟨rfl, rfl, rfl, rfl, rfl⟩ rfl rfl rfl rfl rfl (by kernel_rfl) Try.func9 (by kernel_rfl)
    (of_decide_eq_true (by kernel_rfl)) (by unfold Func.isWrapper; first | (rw [if_pos (by decide +kernel)]; kernel_rfl) | (rw [if_neg (by decide +kernel)]; exact ⟨rfl, rfl⟩))
    (fun os started H enc _ => lifted os started H enc)

/-- ████ THE STATEMENT ████ -/
theorem proved : Rows.WordLawsSaid :=
  over
end Go.Proofs.Ytdnddgfnpefklaa.wordLaws
