/-
  Of every word and every relocation the law PatchWords returns true: what the word becomes, or what is wrong, is the document's.
  Conditions: none beyond those of the given statement.
-/
import Derived.Test.YtieehjkmfmkfjaaRows
import Derived.Test.YtieehjkmfmkfjaaPatR
import Derived.Test.YtieehjkmfmkfjaaPatA
import Derived.Test.YtieehjkmfmkfjaaPatW
import Derived.WalkKit
import Derived.ProofKit
import Derived.OpenShut
namespace Go.Proofs.Ytieehjkmfmkfjaa.patchWords
open Go.ChangeShapes Go.WideShapes Go.ChangeAt Go.RowKit
set_option linter.unusedVariables false
set_option linter.unusedSimpArgs false

theorem own : ownKnob Try.prog.godebug = none := by kernel_rfl
open PM PC PR PA

set_option maxRecDepth 100000 in
set_option maxHeartbeats 8000000 in
theorem walk (a0 : Int) (wa0 : (Lit.int .i64 a0).wf = true) (a1 : Int) (wa1 : (Lit.int .u32 a1).wf = true) (a2 b2 : Int) (wa2 : (Lit.int .u32 a2).wf = true) (wb2 : (Lit.int .u32 b2).wf = true) (w : World) :
    Calls Try.prog 9 #[.int .i64 a0, .int .u32 a1, .agg #[.int .u32 a2, .int .u32 b2]] w fun e w' => e = .returned (.bool true) ∧ Below w.heap.size w w' := by
  have h1 := bounds_u32 wa1
  have h2 := bounds_u32 wa2
  have h3 := bounds_u32 wb2
  have c1 := fun w => patch_ a0 a1 a2 b2 ⟨h1.1, by omega⟩ h2 h3 w
  have c2 := fun w => rpatch_ a0 a1 a2 b2 ⟨h1.1, by omega⟩ h2 h3 w
  generalize pW a0 a1 a2 b2 = X at *
  generalize pE a0 a1 a2 b2 = E at *
  have hB := (Below.refl w.heap.size w).alloc (Nat.le_refl _) (.cells #[.int .u32 a2, .int .u32 b2] 55)
  have HB := Lib.hid hB
  have y0 := heap_alloc_new w (.cells #[.int .u32 a2, .int .u32 b2] 55)
  go_enter Try.func9, Try.ntmps9
  go_upto_region 1 with fail
  have HY := Lib.hid y0
  clear y0 hB
  generalize w.alloc (.cells #[.int .u32 a2, .int .u32 b2] 55) = W at *
  have KC := Lib.hid (fun (W' : World) (hb : Below W.heap.size W W') => (⟨Lib.cell_of_heap ((hb.block _ (Array.getElem?_eq_some_iff.1 HY.out).1).trans HY.out) 0, Lib.cell_of_heap ((hb.block _ (Array.getElem?_eq_some_iff.1 HY.out).1).trans HY.out) 1⟩ : W'.cell? ⟨w.heap.size, 0, none⟩ = some (.int .u32 a2) ∧ W'.cell? ⟨w.heap.size, 1, none⟩ = some (.int .u32 b2)))
  go_wp2_with (first
    | (go_at_call 21; (with_reducible refine (awake_ _).mono ?_); rintro e w1 ⟨rfl, hb1⟩; obtain ⟨k0, k1⟩ := KC.out _ hb1; have H1 := Lib.hid hb1; clear hb1)
    | (go_at_call 22; (with_reducible refine (c1 _).mono ?_); rintro e w2 ⟨rfl, hb2⟩; have H2 := Lib.hid (H1.out.trans (hb2.mono H1.out.size)); obtain ⟨m0, m1⟩ := KC.out _ H2.out; clear hb2)
    | (go_at_call 23; (with_reducible refine (c2 _).mono ?_); rintro e w3 ⟨rfl, hb3⟩; have H3 := Lib.hid (H2.out.trans (hb3.mono H2.out.size)); clear hb3))
  go_ret
  exact ⟨rfl, HB.out.trans (H3.out.mono HB.out.size)⟩

set_option maxRecDepth 100000 in
theorem lifted (os : Os) (started : os.Started) (H : Type) (enc : TypeId × Value → H) :
    ReturnsInHanded {} Try.checked os 9 .any (Rows.patchWordsSpec.pre6 enc Try.prog Try.f9 Rows.patchWordsRow.domain false) (Rows.patchWordsSpec.post enc Try.prog Try.f9 false true false false) := by
  refine returnsInHanded_of_change (C := Try.checked) own started (by kernel_rfl) Try.func9
    (ChangeSpec.witness6 (enc := enc) (C := Try.checked) false ⟨#[], #[.int .i64 0, .int .u32 0, .agg #[.int .u32 0, .int .u32 0]], []⟩ 8 (by kernel_rfl) (by kernel_rfl) (by kernel_rfl) (by kernel_rfl)) ?_
  intro W base args ds gs before hval0 hW hcnd _
  have hval : ∀ (j : Nat) t v, Try.f9.params[j]? = some t → args[j]? = some v → Value.okWide Try.prog W .any base t v := hval0
  have hW' := hW
  obtain ⟨p, q, hA0, hV, rfl, hfz, hnd⟩ := hW
  have hA : DataW.TrodAll enc Try.prog W 0 (fun _ => true) true Try.f9.params.toList args.toList ds p := hA0
  rw [Try.params9] at hA hval
  obtain ⟨v0, vs0, d0, ds0, p0, q0, hargs, rfl, rfl, h0, r0⟩ := trodAll_cons hA
  obtain ⟨v1, vs1, d1, ds1, p1, q1, rfl, rfl, rfl, h1, r1⟩ := trodAll_cons r0
  obtain ⟨v2, vs2, d2, ds2, p2, q2, rfl, rfl, rfl, h2, r2⟩ := trodAll_cons r1
  obtain ⟨rfl, rfl, rfl⟩ := trodAll_nil r2
  obtain rfl : args = #[v0, v1, v2] := by cases args; simp_all
  obtain ⟨rfl, rfl⟩ := trodVars_none hV
  obtain ⟨a0, rfl, rfl, rfl, wa0⟩ := open_int Try.underlying3 (hval 0 3 v0 rfl rfl) h0
  obtain ⟨a1, rfl, rfl, rfl, wa1⟩ := open_int Try.underlying53 (hval 1 53 v1 rfl rfl) h1
  obtain ⟨a2, b2, rfl, rfl, rfl, wa2, wb2⟩ := PW.open_two (hval 2 55 v2 rfl rfl) h2
  clear hA0 hval0
  simp only [List.append_nil] at hW'
  refine (walk a0 wa0 a1 wa1 a2 b2 wa2 wb2 W ).mono fun e W' ⟨he, hg⟩ => ?_
  subst he
  exact ⟨_, rfl, _, _, _, [], [], [], hW', (trodAll_cons_mk (shut_bool Try.underlying4 _) trodAll_mk0), (trodAll_cons_mk (shut_int Try.underlying3 wa0) (trodAll_cons_mk (shut_int Try.underlying53 wa1) (trodAll_cons_mk (PW.shut_two wa2 wb2) trodAll_mk0))), rfl, hg.frame _, fun h => by cases h⟩

theorem over : Rows.patchWordsRow.holds Try.pinned (OpenSpec.ofChange Rows.patchWordsSpec) :=
  OpenClaim.holds_of_wide 9 Try.f9 rfl rfl rfl rfl rfl rfl rfl ⟨rfl, rfl, rfl, rfl, rfl⟩ rfl rfl rfl rfl rfl (by kernel_rfl) Try.func9 (by kernel_rfl)
    (of_decide_eq_true (by kernel_rfl)) (by unfold Func.isWrapper; first | (rw [if_pos (by decide +kernel)]; kernel_rfl) | (rw [if_neg (by decide +kernel)]; exact ⟨rfl, rfl⟩))
    (fun os started H enc _ => lifted os started H enc)

/-- The statement. -/
theorem proved : Rows.PatchWordsSaid :=
  over
end Go.Proofs.Ytieehjkmfmkfjaa.patchWords
