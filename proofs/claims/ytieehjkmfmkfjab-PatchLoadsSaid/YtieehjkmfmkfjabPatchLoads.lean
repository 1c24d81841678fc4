/-
  Of every value and every register the law PatchLoads returns true: an LUI and an ADDI that are patched with the value make it in the machine.
  Conditions: none beyond those of the given statement.
-/
import Derived.Test.YtieehjkmfmkfjabRows
import Derived.Test.YtieehjkmfmkfjabPatL
import Derived.Test.YtieehjkmfmkfjabMachO
import Derived.Laws.StructEq
import Derived.BigGuardPart
import Derived.Deep.DeepCutAuto
import Derived.WalkKit
import Derived.ProofKit
import Derived.OpenShut
namespace Go.Proofs.Ytieehjkmfmkfjab.patchLoads
open Go.ChangeShapes Go.WideShapes Go.ChangeAt Go.RowKit
set_option linter.unusedVariables false
set_option linter.unusedSimpArgs false

theorem own : ownKnob Try.prog.godebug = none := by kernel_rfl
open PM PC PA PL MM MC MB MP MQ MK MR MX
theorem ws_two (w : World) (x y : Int) : Ws (w.alloc (.cells #[.int .u32 x, .int .u32 y] 22)) (.slice (some ⟨w.heap.size, 0, none⟩) 2 2) [x, y] := by
  have hg := heap_alloc_new w (.cells #[.int .u32 x, .int .u32 y] 22)
  refine .inr ⟨w.heap.size, 0, 2, rfl, by simp, fun j z hj => ?_⟩
  match j, hj with
  | 0, hj => cases hj; exact cell_of_row _ w.heap.size 0 _ _ _ hg
  | 1, hj => cases hj; exact cell_of_row _ w.heap.size 1 _ _ _ hg
  | j + 2, hj => simp at hj
theorem rd_is (r : Int) (h : 0 ≤ r ∧ r ≤ 255) : ∃ rd : Nat, 1 ≤ rd ∧ rd ≤ 31 ∧ r % 31 + 1 = (rd : Int) := ⟨(r % 31 + 1).toNat, by omega, by omega, by omega⟩
theorem field_n (a b n : Int) (p : Option Addr) (l c : Nat) (w : World) : (Instr.field 43 (.agg #[.int .i64 a, .int .u32 b, .slice p l c, .int .i64 n]) 3).run Try.prog w = .ok (.int .i64 n) w := by kernel_rfl

set_option maxRecDepth 100000 in
set_option maxHeartbeats 8000000 in
theorem walk (a0 : Int) (wa0 : (Lit.int .u32 a0).wf = true) (a1 : Int) (wa1 : (Lit.int .u8 a1).wf = true) (w : World) :
    Calls Try.prog 4 #[.int .u32 a0, .int .u8 a1] w fun e w' => e = .returned (.bool true) ∧ Below w.heap.size w w' := by
  have hv := bounds_u32 wa0
  have hr := bounds_u8 wa1
  obtain ⟨rd, rd1, rd2, hrd⟩ := rd_is a1 hr
  go_enter Try.func4, Try.ntmps4
  have hrd1 : 0 ≤ (rd : Int) ∧ (rd : Int) ≤ 31 := by omega
  obtain ⟨p1, p2, p3, p4, HG⟩ := load_words (v := a0) hrd1
  have c1 := fun w => CE.encode_ 38 (rd : Int) 0 0 0 (by decide) w
  have c2 := fun w => CE.encode_ 18 (rd : Int) (rd : Int) 0 0 (by decide) w
  have c3 := fun w => patch_ 1 (CE.encW 38 (rd : Int) 0 0 0) a0 0 (CL.enc_bd _ _ _ _ _) hv (by omega) w
  have c4 := fun w => patch_ 2 (CE.encW 18 (rd : Int) (rd : Int) 0 0) a0 4 (CL.enc_bd _ _ _ _ _) hv (by omega) w
  rw [lui0 hrd1] at c1
  rw [addi0 hrd1] at c2
  rw [p1, p2] at c3
  rw [p3, p4] at c4
  unfold CW.iv at c1 c2
  have hhi := hi_bd a0
  obtain ⟨T, hT, t1, t2⟩ := load_run rd1 rd2 HG hhi (parts a0 hv) (MW.loaded (fb ((loadL (rd : Int) (hiI a0) (loI a0)).map wordOf)) 8 (MW.up 8) 16 0) ⟨code_loaded (loadL _ _ _) _ _ _, rfl, rfl, rfl⟩
  have cb := fun (w : World) v (h : Ws w v ((loadL (rd : Int) (hiI a0) (loI a0)).map wordOf)) => bytes_ w v _ (by show 2 ≤ 100000; omega) h
  have hws := fun w => ws_two w (CE.encW 38 (rd : Int) 0 0 (hiI a0)) (CE.encW 18 (rd : Int) (rd : Int) 0 (loI a0))
  have hx : (loadL (rd : Int) (hiI a0) (loI a0)).map wordOf = [CE.encW 38 (rd : Int) 0 0 (hiI a0), CE.encW 18 (rd : Int) (rd : Int) 0 (loI a0)] := rfl
  have hF := fine_loaded (fb_bd ((loadL (rd : Int) (hiI a0) (loI a0)).map wordOf)) 8 16 (MW.up 8) 0 (by decide) (by omega) (by omega)
  rw [hx] at cb hT hF
  generalize CE.encW 38 (rd : Int) 0 0 (hiI a0) = X at *
  generalize CE.encW 18 (rd : Int) (rd : Int) 0 (loI a0) = Y at *
  generalize CE.encW 38 (rd : Int) 0 0 0 = X0 at *
  generalize CE.encW 18 (rd : Int) (rd : Int) 0 0 = Y0 at *
  have HT := Lib.hid hT
  have HT1 := Lib.hid t1
  have HT2 := Lib.hid t2
  have HFI := Lib.hid hF
  have cbb := fun w => cb _ _ (hws w)
  have hrz : ¬ (rd : Int) = 0 := by omega
  have hr32 : rd < 32 := by omega
  have hfl := field_n T.s.state (MV.codeOf T.s) 2
  clear hT t1 t2 hF cb hws hx HG p1 p2 p3 p4 hhi hrd1
  go_wp2_with (first
    | (go_at_call 9; (with_reducible refine (awake_ _).mono ?_); rintro e w1 ⟨rfl, hb0⟩; have H0 := Lib.hid hb0; clear hb0)
    | (go_at_call 12; (with_reducible refine (c1 _).mono ?_); rintro e w2 ⟨rfl, hb2⟩; have H1 := Lib.hid (H0.out.trans (hb2.mono H0.out.size)); clear hb2)
    | (go_at_call 12; (with_reducible refine (c2 _).mono ?_); rintro e w3 ⟨rfl, hb2⟩; have H2 := Lib.hid (H1.out.trans (hb2.mono H1.out.size)); clear hb2)
    | (go_at_call 13; (with_reducible refine (c3 _).mono ?_); rintro e w4 ⟨rfl, hb2⟩; have H3 := Lib.hid (H2.out.trans (hb2.mono H2.out.size)); clear hb2)
    | (go_at_call 13; (with_reducible refine (c4 _).mono ?_); rintro e w5 ⟨rfl, hb2⟩; have H4 := Lib.hid (H3.out.trans (hb2.mono H3.out.size)); clear hb2)
    | (go_at_call 15; (with_reducible refine (cbb _).mono ?_); rintro e w6 ⟨v2, rfl, ho2, hb2⟩; obtain ⟨g, cap, rfl, hg, hcell⟩ := image_of ho2 (by simp) 8 rfl; have HC := Lib.hid hcell; have H5 := Lib.hid ((H4.out.alloc H4.out.size _).trans (hb2.mono (by have := H4.out.size; simp only [World.size_alloc]; omega))); clear ho2 hb2 hcell)
    | (go_at_call 14; (with_reducible refine (MW.load_ok 0 (by omega) g 0 8 cap 0 (by omega) (by omega) (by decide) 16 (by decide) _ _ hg HC.out).mono ?_); rintro e w7 ⟨b, bm, rfl, A, hb, hbm, hb3⟩; have cg := MV.run_ A (inp_nil _ _ _ _) HFI.out (fun y hy => by simp at hy) (by omega) 2 (by omega) T HT.out (by have := HT1.out; omega); have H6 := Lib.hid (H5.out.trans (hb3.mono H5.out.size)); clear A hb3)
    | (go_at_call 16; (with_reducible refine cg.mono ?_); rintro e w8 ⟨p5, l5, c5, he, R⟩; rw [HT1.out] at he; subst he; have cwd := word_ R.at_ rd hr32; rw [HT2.out] at cwd; have HR := Lib.hid R; clear R cg)
    | (go_at_call 17; (with_reducible refine cwd.mono ?_); rintro e w' ⟨rfl, rfl⟩))
  go_ret
  refine ⟨rfl, ?_⟩
  have l1 := H6.out.size
  have l2 := H5.out.size
  exact H6.out.trans (HR.out.own.below (by omega) (by omega) (by omega))

set_option maxRecDepth 100000 in
theorem lifted (os : Os) (started : os.Started) (H : Type) (enc : TypeId × Value → H) :
    ReturnsInHanded {} Try.checked os 4 .any (Rows.patchLoadsSpec.pre6 enc Try.prog Try.f4 Rows.patchLoadsRow.domain false) (Rows.patchLoadsSpec.post enc Try.prog Try.f4 false true false false) := by
  refine returnsInHanded_of_change (C := Try.checked) own started (by kernel_rfl) Try.func4
    (ChangeSpec.witness6 (enc := enc) (C := Try.checked) false ⟨#[], #[.int .u32 0, .int .u8 0], []⟩ 8 (by kernel_rfl) (by kernel_rfl) (by kernel_rfl) (by kernel_rfl)) ?_
  intro W base args ds gs before hval0 hW hcnd _
  have hval : ∀ (j : Nat) t v, Try.f4.params[j]? = some t → args[j]? = some v → Value.okWide Try.prog W .any base t v := hval0
  have hW' := hW
  obtain ⟨p, q, hA0, hV, rfl, hfz, hnd⟩ := hW
  have hA : DataW.TrodAll enc Try.prog W 0 (fun _ => true) true Try.f4.params.toList args.toList ds p := hA0
  rw [Try.params4] at hA hval
  obtain ⟨v0, vs0, d0, ds0, p0, q0, hargs, rfl, rfl, h0, r0⟩ := trodAll_cons hA
  obtain ⟨v1, vs1, d1, ds1, p1, q1, rfl, rfl, rfl, h1, r1⟩ := trodAll_cons r0
  obtain ⟨rfl, rfl, rfl⟩ := trodAll_nil r1
  obtain rfl : args = #[v0, v1] := by cases args; simp_all
  obtain ⟨rfl, rfl⟩ := trodVars_none hV
  obtain ⟨a0, rfl, rfl, rfl, wa0⟩ := open_int Try.underlying22 (hval 0 22 v0 rfl rfl) h0
  obtain ⟨a1, rfl, rfl, rfl, wa1⟩ := open_int Try.underlying5 (hval 1 5 v1 rfl rfl) h1
  clear hA0 hval0
  simp only [List.append_nil] at hW'
  refine (walk a0 wa0 a1 wa1 W ).mono fun e W' ⟨he, hg⟩ => ?_
  subst he
  exact ⟨_, rfl, _, _, _, [], [], [], hW', (trodAll_cons_mk (shut_bool Try.underlying4 _) trodAll_mk0), (trodAll_cons_mk (shut_int Try.underlying22 wa0) (trodAll_cons_mk (shut_int Try.underlying5 wa1) trodAll_mk0)), rfl, hg.frame _, fun h => by cases h⟩

theorem over : Rows.patchLoadsRow.holds Try.pinned (OpenSpec.ofChange Rows.patchLoadsSpec) :=
  OpenClaim.holds_of_wide 4 Try.f4 rfl rfl rfl rfl rfl rfl rfl ⟨rfl, rfl, rfl, rfl, rfl⟩ rfl rfl rfl rfl rfl (by kernel_rfl) Try.func4 (by kernel_rfl)
    (of_decide_eq_true (by kernel_rfl)) (by unfold Func.isWrapper; first | (rw [if_pos (by decide +kernel)]; kernel_rfl) | (rw [if_neg (by decide +kernel)]; exact ⟨rfl, rfl⟩))
    (fun os started H enc _ => lifted os started H enc)

/-- The statement. -/
theorem proved : Rows.PatchLoadsSaid :=
  over
end Go.Proofs.Ytieehjkmfmkfjab.patchLoads
