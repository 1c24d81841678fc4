/-
  The document's Patch: a contract. Conditions: words lie from 0 to below 2^32.
-/
import Derived.Test.YtieehjkmfmkfjaaPatC
import Derived.Test.YtieehjkmfmkfjaaSolA
namespace Go.Proofs.Ytieehjkmfmkfjaa
open Go.RowKit
set_option linter.unusedVariables false
set_option linter.unusedSimpArgs false
namespace PR
open PM PC OU OPt
set_option maxRecDepth 100000 in
set_option maxHeartbeats 8000000 in
theorem rpatch_ (k x v p : Int) (hx : 0 ≤ x ∧ x < 4294967296) (hv : 0 ≤ v ∧ v ≤ 4294967295) (hp : 0 ≤ p ∧ p ≤ 4294967295) (w : World) :
    Calls Try.prog 23 #[.int .i64 k, .int .u32 x, .int .u32 v, .int .u32 p] w fun e w' => e = .returned (.tuple #[.int .u32 (pW k x v p), .int .i64 (pE k x v p)]) ∧ Below w.heap.size w w' := by
  by_cases r0 : k < 1 ∨ 6 < k
  · have HW := Lib.hid (show pW k x v p = 0 by unfold pW; rw [if_pos r0])
    have HE := Lib.hid (show pE k x v p = 1 by unfold pE; rw [if_pos r0])
    by_cases r1 : k < 1
    all_goals by_cases r2 : 6 < k
    all_goals try (exfalso; omega)
    all_goals
      clear r0
      go_enter Try.func23, Try.ntmps23
      go_wp2
      go_ret2
      exact ⟨ret_two HW.out.symm HE.out.symm, Below.refl _ _⟩
  · by_cases r6 : k = 6
    · subst r6
      have HW := Lib.hid (show pW 6 x v p = v by unfold pW; rw [if_neg (by omega), if_pos rfl])
      have HE := Lib.hid (show pE 6 x v p = 0 by unfold pE; rw [if_neg (by omega), if_pos rfl])
      clear r0
      go_enter Try.func23, Try.ntmps23
      go_wp2
      go_ret2
      exact ⟨ret_two HW.out.symm HE.out.symm, Below.refl _ _⟩
    · have c1 := fun w => SA.of_ k x hx.1 hx.2 w
      have q1 : ¬ k < 1 := by omega
      have q2 : ¬ 6 < k := by omega
      cases hb : patB k x with
      | false =>
        have HW := Lib.hid (show pW k x v p = 0 by unfold pW; rw [if_neg r0, if_neg r6, hb]; rfl)
        have HE := Lib.hid (show pE k x v p = 2 by unfold pE; rw [if_neg r0, if_neg r6, hb]; rfl)
        rw [hb] at c1
        clear r0 hb hx hv hp
        go_enter Try.func23, Try.ntmps23
        go_wp2_with (go_at_call 46; (with_reducible refine (c1 _).mono ?_); rintro e w1 ⟨rfl, hb1⟩; have HB := Lib.hid hb1; clear hb1)
        go_ret2
        exact ⟨ret_two HW.out.symm HE.out.symm, HB.out⟩
      | true =>
        obtain ⟨⟨o1, o2⟩, ⟨o3, o4⟩, ⟨o5, o6⟩, o7, o8⟩ := dec_wf x hx.1 hx.2
        have him := imm_bd k v p
        have c2 := fun w => CT.decode_ x hx.1 hx.2 w
        have c3 := fun w => WR.of (v - p) (by omega) (by omega) w
        have c4 := fun w => WR.signed ((v - p) % 4294967296) ⟨by omega, by omega⟩ w
        have c5 := fun w => rhi_ v hv w
        have c6 := fun w => rlo_ v hv w
        rw [show wrap32 ((v - p) % 4294967296) = farI v p from rfl] at c4
        have c7 := fun w => CJ.encode_ (CD.dOp x) (CD.dRd x) (CD.dRs1 x) (CD.dRs2 x) (immI k v p) (WalkArith.wf_i64 (by omega)) (WalkArith.wf_i64 (by omega)) (WalkArith.wf_i64 (by omega)) (WalkArith.wf_i64 (by omega)) w
        rw [pat_enc hb hx.1 hx.2] at c7
        have HI := Lib.hid (show immI k v p = if k = 1 then hiI v else if k = 2 ∨ k = 3 then loI v else farI v p from rfl)
        rw [hb] at c1
        unfold CW.iv at c2
        have hq : 0 ≤ v ∧ v ≤ 4294967295 ∧ 0 ≤ p ∧ p ≤ 4294967295 := ⟨hv.1, hv.2, hp.1, hp.2⟩
        obtain ⟨v0, v1, p0, p1⟩ := hq
        by_cases e1 : k = 1
        all_goals by_cases e2 : k = 2
        all_goals by_cases e3 : k = 3
        all_goals try (exfalso; omega)
        all_goals cases hf : CM.fits (CM.kd (CD.dOp x)) (immI k v p)
        all_goals
          have HW := Lib.hid (show pW k x v p = bif CM.fits (CM.kd (CD.dOp x)) (immI k v p) then CE.encW (CD.dOp x) (CD.dRd x) (CD.dRs1 x) (CD.dRs2 x) (immI k v p) else 0 by unfold pW; rw [if_neg r0, if_neg r6, hb]; rfl)
          have HE := Lib.hid (show pE k x v p = bif CM.fits (CM.kd (CD.dOp x)) (immI k v p) then 0 else 7 by unfold pE; rw [if_neg r0, if_neg r6, hb]; rfl)
          rw [hf] at c7 HW HE
          have hi : immI k v p = (if k = 1 then hiI v else if k = 2 ∨ k = 3 then loI v else farI v p) := rfl
          first
            | rw [if_pos e1] at hi
            | rw [if_neg e1, if_pos (by omega)] at hi
            | rw [if_neg e1, if_neg (by omega)] at hi
          rw [hi] at c7 HW
          generalize CE.encW (CD.dOp x) (CD.dRd x) (CD.dRs1 x) (CD.dRs2 x) _ = ew at *
          clear him r0 hb hx hv hp hf hi HI
          generalize farI v p = fr at *
          generalize hiI v = hi at *
          generalize loI v = lo at *
          generalize CD.dOp x = d0 at *
          generalize CD.dRd x = d1 at *
          generalize CD.dRs1 x = d2 at *
          generalize CD.dRs2 x = d3 at *
          generalize CD.dImm x = d4 at *
          clear o1 o2 o3 o4 o5 o6 o7 o8
          try subst e1
          try subst e2
          try subst e3
          go_enter Try.func23, Try.ntmps23
          go_wp2_with (first
            | (go_at_call 46; (with_reducible refine (c1 _).mono ?_); rintro e w1 ⟨rfl, hb1⟩; have HB1 := Lib.hid hb1; clear hb1)
            | (go_at_call 47; (with_reducible refine (c2 _).mono ?_); rintro e w2 ⟨rfl, hb2⟩; have HB2 := Lib.hid (HB1.out.trans (hb2.mono HB1.out.size)); clear hb2)
            | (go_at_call 49; (with_reducible refine (c3 _).mono ?_); rintro e w3 ⟨rfl, rfl⟩)
            | (go_at_call 48; (with_reducible refine (c4 _).mono ?_); rintro e w3 ⟨rfl, rfl⟩)
            | (go_at_call 50; (with_reducible refine (c5 _).mono ?_); rintro e w3 ⟨rfl, rfl⟩)
            | (go_at_call 51; (with_reducible refine (c6 _).mono ?_); rintro e w3 ⟨rfl, rfl⟩)
            | (go_at_call 52; (with_reducible refine (c7 _).mono ?_); rintro e w4 ⟨rfl, hb4⟩; have HB4 := Lib.hid hb4; clear hb4))
          go_ret2
          exact ⟨ret_two HW.out.symm HE.out.symm, HB2.out.trans ((inst5 HB4.out).2.mono HB2.out.size)⟩
end PR
end Go.Proofs.Ytieehjkmfmkfjaa
