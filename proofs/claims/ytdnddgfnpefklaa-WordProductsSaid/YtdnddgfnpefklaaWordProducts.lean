/-
  Of every two words the law WordProducts returns true: MULH, MULHU and MUL make the whole product.
  Conditions: none beyond those of the given statement.
-/
import Derived.Test.YtdnddgfnpefklaaRows
import Derived.Test.YtdnddgfnpefklaaWordF
import Derived.Test.YtdnddgfnpefklaaWordN
import Derived.WalkKit
import Derived.ProofKit
import Derived.OpenShut
namespace Go.Proofs.Ytdnddgfnpefklaa.wordProducts
open Go.ChangeShapes Go.WideShapes Go.ChangeAt Go.RowKit
set_option linter.unusedVariables false      -- a walk need not use every 'w<i>' (that an integer argument fits its kind)

theorem own : ownKnob Try.prog.godebug = none := by kernel_rfl

/-! ### STEP 1: THE WALK: the Go text returns true. 'Grown w w'': the world has at most new blocks (Derived/RowKit3.lean). Part the cases AHEAD of 'go_enter' where a test parts the walk; take each callee by a contract of your own. -/
theorem walk (a0 : Int) (a1 : Int) (w0 : (Lit.int .u32 a0).wf = true) (w1 : (Lit.int .u32 a1).wf = true) (w : World) :
    Calls Try.prog 8 #[.int .u32 a0, .int .u32 a1] w fun e w' => e = .returned (.bool true) ∧ Grown w w' := by
  have ha : WM.Ok a0 := bounds_u32 w0
  have hb : WM.Ok a1 := bounds_u32 w1
  have c1 := fun w => WL.do_ 11 a0 a1 rfl ha hb w
  have c2 := fun w => WL.do_ 12 a0 a1 rfl ha hb w
  have c3 := fun w => WL.do_ 13 a0 a1 rfl ha hb w
  have e1 := WM.prod_u a0 a1
  have e2 := WM.prod_s a0 a1
  have b3 := WM.val_ok 13 a0 a1 ha hb
  have b1 := WM.val_ok 11 a0 a1 ha hb
  have b4 := WM.wrap32_bd (WM.val 12 a0 a1)
  have b5 := WM.umul_bd a0 a1 ha hb
  have b6 := WM.wrap32_bd a0
  have b7 := WM.wrap32_bd a1
  have b8 := WM.mul_bd (wrap32 a0) (wrap32 a1) (by omega) (by omega)
  generalize WM.val 13 a0 a1 = hi at *
  generalize WM.val 12 a0 a1 = hs at *
  generalize WM.val 11 a0 a1 = lo at *
  obtain ⟨b31, b32⟩ := b3
  obtain ⟨b11, b12⟩ := b1
  obtain ⟨ha1, ha2⟩ := ha
  obtain ⟨hb1, hb2⟩ := hb
  have f1 : (hi * 4294967296 + lo == a0 * a1) = true := by rw [e1]; simp
  have f2 : (wrap32 hs * 4294967296 + lo == wrap32 a0 * wrap32 a1) = true := by rw [e2]; simp
  have g1 : hi * 4294967296 ≤ 18446744065119617025 := by omega
  have g2 : -4611686018427387904 - 4294967295 ≤ wrap32 hs * 4294967296 := by omega
  have g3 : wrap32 hs * 4294967296 ≤ 4611686018427387904 := by omega
  clear e1 e2
  go_enter Try.func8, Try.ntmps8
  go_wp2_with (first
      | (go_at_call 11; refine (WL.awake _).mono ?_; rintro e w' ⟨rfl, rfl⟩)
      | (go_at_call 20; with_reducible refine (c1 _).mono ?_; rintro e w' ⟨rfl, rfl⟩)
      | (go_at_call 20; with_reducible refine (c2 _).mono ?_; rintro e w' ⟨rfl, rfl⟩)
      | (go_at_call 20; with_reducible refine (c3 _).mono ?_; rintro e w' ⟨rfl, rfl⟩))
  go_ret
  exact ⟨rfl, Grown.refl _⟩

/-! ### THE ROW's STEP: WRITTEN OUT: LEAVE IT -/
set_option maxRecDepth 100000 in
theorem lifted (os : Os) (started : os.Started) (H : Type) (enc : TypeId × Value → H) :
    ReturnsInHanded {} Try.checked os 8 .any (Rows.wordProductsSpec.pre6 enc Try.prog Try.f8 Rows.wordProductsRow.domain false) (Rows.wordProductsSpec.post enc Try.prog Try.f8 false true false false) := by
  refine returnsInHanded_of_change (C := Try.checked) own started (by kernel_rfl) Try.func8
    (ChangeSpec.witness6 (enc := enc) (C := Try.checked) false ⟨#[], #[.int .u32 0, .int .u32 0], []⟩ 8 (by kernel_rfl) (by kernel_rfl) (by kernel_rfl) (by kernel_rfl)) ?_
  intro W base args ds gs before hval0 hW hcnd _
  have hval : ∀ (j : Nat) t v, Try.f8.params[j]? = some t → args[j]? = some v → Value.okWide Try.prog W .any base t v := hval0
  have hW' := hW
  obtain ⟨p, q, hA0, hV, rfl, hfz, hnd⟩ := hW
  have hA : DataW.TrodAll enc Try.prog W 0 (fun _ => true) true Try.f8.params.toList args.toList ds p := hA0
  rw [Try.params8] at hA hval
  obtain ⟨v0, vs0, d0, ds0, p0, q0, hargs, rfl, rfl, h0, r0⟩ := trodAll_cons hA
  obtain ⟨v1, vs1, d1, ds1, p1, q1, rfl, rfl, rfl, h1, r1⟩ := trodAll_cons r0
  obtain ⟨rfl, rfl, rfl⟩ := trodAll_nil r1
  obtain rfl : args = #[v0, v1] := by cases args; simp_all
  obtain ⟨rfl, rfl⟩ := trodVars_none hV
  obtain ⟨a0, rfl, rfl, rfl, w0⟩ := open_int Try.underlying22 (hval 0 22 v0 rfl rfl) h0
  obtain ⟨a1, rfl, rfl, rfl, w1⟩ := open_int Try.underlying22 (hval 1 22 v1 rfl rfl) h1
  clear hA0 hval0
  simp only [List.append_nil] at hW'
  refine (walk a0 a1 w0 w1 W).mono fun e W' ⟨he, hg⟩ => ?_
  subst he
  exact ⟨_, rfl, post_of_same (pa := []) (pv := []) hW' (fun _ _ _ => (trodAll_cons_mk (shut_bool Try.underlying4 _) trodAll_mk0)) (fun sp _ => (trodAll_cons_mk (shut_int Try.underlying22 w0) (trodAll_cons_mk (shut_int Try.underlying22 w1) trodAll_mk0))) (fun _ _ => rfl) rfl
    (hg.frame _) hg.2.1 (ok_one (by kernel_rfl) rfl (okWide_bool_mk Try.underlying4 _))⟩

theorem over : Rows.wordProductsRow.holds Try.pinned (OpenSpec.ofChange Rows.wordProductsSpec) :=
  OpenClaim.holds_of_wide 8 Try.f8 rfl rfl rfl rfl rfl rfl rfl ⟨rfl, rfl, rfl, rfl, rfl⟩ rfl rfl rfl rfl rfl (by kernel_rfl) Try.func8 (by kernel_rfl)
    (of_decide_eq_true (by kernel_rfl)) (by unfold Func.isWrapper; first | (rw [if_pos (by decide +kernel)]; kernel_rfl) | (rw [if_neg (by decide +kernel)]; exact ⟨rfl, rfl⟩))
    (fun os started H enc _ => lifted os started H enc)

/-- ████ THE STATEMENT ████ -/
theorem proved : Rows.WordProductsSaid :=
  over
end Go.Proofs.Ytdnddgfnpefklaa.wordProducts
