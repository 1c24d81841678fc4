/-
  Package patch, and its document's: contracts. Conditions: words lie from 0 to below 2^32.
-/
import Derived.Test.YtieehjkmfmkfjabPatM
namespace Go.Proofs.Ytieehjkmfmkfjab
open Go.RowKit
set_option linter.unusedVariables false
set_option linter.unusedSimpArgs false
namespace PC
open PM OU OPt
theorem ret_int {k : IntKind} {a b : Int} (h : a = b) : Ending.returned (.int k a) = .returned (.int k b) := by rw [h]
theorem ret_two {k l : IntKind} {a b c d : Int} (h : a = b) (h2 : c = d) : Ending.returned (.tuple #[.int k a, .int l c]) = .returned (.tuple #[.int k b, .int l d]) := by rw [h, h2]
set_option maxRecDepth 100000 in
theorem hi_ (v : Int) (h : 0 ≤ v ∧ v ≤ 4294967295) (w : World) : Calls Try.prog 7 #[.int .u32 v] w fun e w' => e = .returned (.int .i64 (hiI v)) ∧ w = w' := by
  go_enter Try.func7, Try.ntmps7
  go_wp2
  go_ret
  exact ⟨ret_int (by unfold hiI; omega), rfl⟩
set_option maxRecDepth 100000 in
theorem lo_ (v : Int) (h : 0 ≤ v ∧ v ≤ 4294967295) (w : World) : Calls Try.prog 8 #[.int .u32 v] w fun e w' => e = .returned (.int .i64 (loI v)) ∧ w = w' := by
  have c1 := fun w => WG.extend_yes v 12 h (by omega) (by omega) w
  have c2 := fun w => WC.signed (WM.ext v 12) (WM.ext_ok v 12 (by omega) (by omega)) w
  rw [ext_lo] at c2
  generalize WM.ext v 12 = x at *
  generalize loI v = y at *
  go_enter Try.func8, Try.ntmps8
  go_wp2_with (first
    | (go_at_call 21; (with_reducible refine (c1 _).mono ?_); rintro e w' ⟨rfl, rfl⟩)
    | (go_at_call 22; (with_reducible refine (c2 _).mono ?_); rintro e w' ⟨rfl, rfl⟩))
  go_ret
  exact ⟨rfl, rfl⟩
set_option maxRecDepth 100000 in
set_option maxHeartbeats 1000000 in
theorem imm_ (k v p : Int) (hv : 0 ≤ v ∧ v ≤ 4294967295) (hp : 0 ≤ p ∧ p ≤ 4294967295) (w : World) : Calls Try.prog 30 #[.int .i64 k, .int .u32 v, .int .u32 p] w fun e w' => e = .returned (.int .i64 (immI k v p)) ∧ w = w' := by
  have c1 := fun w => hi_ v hv w
  have c2 := fun w => lo_ v hv w
  have c3 := fun w => WC.signed ((v - p) % 4294967296) ⟨by omega, by omega⟩ w
  rw [show wrap32 ((v - p) % 4294967296) = farI v p from rfl] at c3
  have HI := Lib.hid (show immI k v p = if k = 1 then hiI v else if k = 2 ∨ k = 3 then loI v else farI v p from rfl)
  generalize immI k v p = im at *
  generalize hiI v = a at *
  generalize loI v = b at *
  generalize farI v p = c at *
  clear hv hp
  by_cases e1 : k = 1
  all_goals by_cases e2 : k = 2
  all_goals by_cases e3 : k = 3
  all_goals try (exfalso; omega)
  all_goals
    have HE := Lib.hid (⟨e1, e2, e3⟩ : _ ∧ _ ∧ _)
    go_enter Try.func30, Try.ntmps30
    go_wp2_with (first
      | (go_at_call 7; (with_reducible refine (c1 _).mono ?_); rintro e w' ⟨rfl, rfl⟩)
      | (go_at_call 8; (with_reducible refine (c2 _).mono ?_); rintro e w' ⟨rfl, rfl⟩)
      | (go_at_call 22; (with_reducible refine (c3 _).mono ?_); rintro e w' ⟨rfl, rfl⟩))
    go_ret
    exact ⟨ret_int (by rw [HI.out]; have := HE.out; simp [this]), rfl⟩
set_option maxRecDepth 100000 in
theorem rhi_ (v : Int) (h : 0 ≤ v ∧ v ≤ 4294967295) (w : World) : Calls Try.prog 10 #[.int .u32 v] w fun e w' => e = .returned (.int .i64 (hiI v)) ∧ w = w' := by
  have c1 := fun w => WR.of (v + 2048) (by omega) (by omega) w
  have ht : (v + 2048) % 4294967296 / 4096 = hiI v := rfl
  have hb : 0 ≤ (v + 2048) % 4294967296 ∧ (v + 2048) % 4294967296 ≤ 4294967295 := by omega
  generalize (v + 2048) % 4294967296 = x at *
  have HT := Lib.hid ht
  clear ht
  go_enter Try.func10, Try.ntmps10
  go_wp2_with (go_at_call 24; (with_reducible refine (c1 _).mono ?_); rintro e w' ⟨rfl, rfl⟩)
  go_ret
  exact ⟨ret_int HT.out, rfl⟩
set_option maxRecDepth 100000 in
theorem rlo_ (v : Int) (h : 0 ≤ v ∧ v ≤ 4294967295) (w : World) : Calls Try.prog 11 #[.int .u32 v] w fun e w' => e = .returned (.int .i64 (loI v)) ∧ w = w' := by
  have ht : v.tmod 4096 = v % 4096 := Int.tmod_eq_emod_of_nonneg h.1
  by_cases e : 2048 ≤ v % 4096
  all_goals
    have HE := Lib.hid e
    have HL := Lib.hid (show loI v = if 2048 ≤ v % 4096 then v % 4096 - 4096 else v % 4096 from rfl)
    go_enter Try.func11, Try.ntmps11
    go_wp2
    go_ret
    exact ⟨ret_int (by rw [HL.out]; have := HE.out; split <;> omega), rfl⟩
theorem inst5 {w1 w3 : World} {I : Array Value} {T : TypeId} (hb : Below (w1.alloc (.cells I T)).heap.size (w1.alloc (.cells I T)) w3) :
    w3.heap[w1.heap.size]? = some (.cells I T (0, 0)) ∧ Below w1.heap.size w1 w3 := by
  refine ⟨?_, ?_⟩
  · rw [hb.block _ (by rw [World.size_alloc]; omega)]
    exact heap_alloc_new w1 _
  · exact ((Below.refl _ _).alloc (Nat.le_refl _) _).trans (hb.mono (by rw [World.size_alloc]; omega))
set_option maxRecDepth 100000 in
set_option maxHeartbeats 4000000 in
theorem patch_ (k x v p : Int) (hx : 0 ≤ x ∧ x < 4294967296) (hv : 0 ≤ v ∧ v ≤ 4294967295) (hp : 0 ≤ p ∧ p ≤ 4294967295) (w : World) :
    Calls Try.prog 13 #[.int .i64 k, .int .u32 x, .int .u32 v, .int .u32 p] w fun e w' => e = .returned (.tuple #[.int .u32 (pW k x v p), .int .i64 (pE k x v p)]) ∧ Below w.heap.size w w' := by
  by_cases r0 : k < 1 ∨ 6 < k
  · have HW := Lib.hid (show pW k x v p = 0 by unfold pW; rw [if_pos r0])
    have HE := Lib.hid (show pE k x v p = 1 by unfold pE; rw [if_pos r0])
    by_cases r1 : k < 1
    all_goals by_cases r2 : 6 < k
    all_goals try (exfalso; omega)
    all_goals
      clear r0
      go_enter Try.func13, Try.ntmps13
      go_wp2
      go_ret2
      exact ⟨ret_two HW.out.symm HE.out.symm, Below.refl _ _⟩
  · by_cases r6 : k = 6
    · subst r6
      have HW := Lib.hid (show pW 6 x v p = v by unfold pW; rw [if_neg (by omega), if_pos rfl])
      have HE := Lib.hid (show pE 6 x v p = 0 by unfold pE; rw [if_neg (by omega), if_pos rfl])
      clear r0
      go_enter Try.func13, Try.ntmps13
      go_wp2
      go_ret2
      exact ⟨ret_two HW.out.symm HE.out.symm, Below.refl _ _⟩
    · have c1 := fun w => at_ k x hx.1 hx.2 w
      have c2 := fun w => imm_ k v p hv hp w
      have q1 : ¬ k < 1 := by omega
      have q2 : ¬ 6 < k := by omega
      cases hb : patB k x with
      | false =>
        have HW := Lib.hid (show pW k x v p = 0 by unfold pW; rw [if_neg r0, if_neg r6, hb]; rfl)
        have HE := Lib.hid (show pE k x v p = 2 by unfold pE; rw [if_neg r0, if_neg r6, hb]; rfl)
        rw [show atI k x = #[.int .i64 0, .int .i64 0, .int .i64 0, .int .i64 0, .int .i64 0] by unfold atI; rw [hb]; rfl, hb] at c1
        clear r0 hb hx hv hp
        go_enter Try.func13, Try.ntmps13
        go_wp2_with (go_at_call 29; (with_reducible refine (c1 _).mono ?_); rintro e w1 ⟨rfl, hb1⟩; have HB := Lib.hid hb1; clear hb1)
        go_ret2
        exact ⟨ret_two HW.out.symm HE.out.symm, HB.out.alloc HB.out.size _⟩
      | true =>
        obtain ⟨⟨o1, o2⟩, ⟨o3, o4⟩, ⟨o5, o6⟩, o7, o8⟩ := dec_wf x hx.1 hx.2
        have him := imm_bd k v p
        have hop : CM.isOp (CD.dOp x) = true := PM.dec_op (pat_op hb).1
        have c3 := fun w => CE.fits_ (CD.dOp x) (immI k v p) (WalkArith.wf_i64 (by omega)) w
        have c4 := fun w => CE.encode_ (CD.dOp x) (CD.dRd x) (CD.dRs1 x) (CD.dRs2 x) (immI k v p) (WalkArith.wf_i64 (by omega)) w
        rw [pat_enc hb hx.1 hx.2] at c4
        rw [hop, Bool.true_and] at c3
        unfold CW.iv at c4
        rw [show atI k x = #[.int .i64 (CD.dOp x), .int .i64 (CD.dRd x), .int .i64 (CD.dRs1 x), .int .i64 (CD.dRs2 x), .int .i64 (CD.dImm x)] by unfold atI; rw [hb]; rfl, hb] at c1
        cases hf : CM.fits (CM.kd (CD.dOp x)) (immI k v p) with
        | false =>
          have HW := Lib.hid (show pW k x v p = 0 by unfold pW; rw [if_neg r0, if_neg r6, hb]; unfold fitB; rw [hf]; rfl)
          have HE := Lib.hid (show pE k x v p = 7 by unfold pE; rw [if_neg r0, if_neg r6, hb]; unfold fitB; rw [hf]; rfl)
          rw [hf] at c3
          clear c4 hop him r0 hb hx hv hp hf
          generalize immI k v p = im at *
          generalize CD.dOp x = d0 at *
          generalize CD.dRd x = d1 at *
          generalize CD.dRs1 x = d2 at *
          generalize CD.dRs2 x = d3 at *
          generalize CD.dImm x = d4 at *
          clear o1 o2 o3 o4 o5 o6 o7 o8
          go_enter Try.func13, Try.ntmps13
          go_wp2_with (first
            | (go_at_call 29; (with_reducible refine (c1 _).mono ?_); rintro e w1 ⟨rfl, hb1⟩; have HB := Lib.hid hb1; clear hb1)
            | (go_at_call 30; (with_reducible refine (c2 _).mono ?_); rintro e w2 ⟨rfl, rfl⟩)
            | (go_at_call 31; (with_reducible refine (c3 _).mono ?_); rintro e w3 ⟨rfl, hb3⟩; have HB3 := Lib.hid hb3; clear hb3))
          go_ret2
          exact ⟨ret_two HW.out.symm HE.out.symm, HB.out.trans ((inst5 HB3.out).2.mono HB.out.size)⟩
        | true =>
          have HW := Lib.hid (show pW k x v p = CE.encW (CD.dOp x) (CD.dRd x) (CD.dRs1 x) (CD.dRs2 x) (immI k v p) by unfold pW; rw [if_neg r0, if_neg r6, hb]; unfold fitB; rw [hf]; rfl)
          have HE := Lib.hid (show pE k x v p = 0 by unfold pE; rw [if_neg r0, if_neg r6, hb]; unfold fitB; rw [hf]; rfl)
          rw [hf] at c3 c4
          generalize CE.encW (CD.dOp x) (CD.dRd x) (CD.dRs1 x) (CD.dRs2 x) (immI k v p) = ew at *
          clear hop him r0 hb hx hv hp hf
          generalize immI k v p = im at *
          generalize CD.dOp x = d0 at *
          generalize CD.dRd x = d1 at *
          generalize CD.dRs1 x = d2 at *
          generalize CD.dRs2 x = d3 at *
          generalize CD.dImm x = d4 at *
          clear o1 o2 o3 o4 o5 o6 o7 o8
          go_enter Try.func13, Try.ntmps13
          go_wp2_with (first
            | (go_at_call 29; (with_reducible refine (c1 _).mono ?_); rintro e w1 ⟨rfl, hb1⟩; have HB := Lib.hid hb1; clear hb1)
            | (go_at_call 30; (with_reducible refine (c2 _).mono ?_); rintro e w2 ⟨rfl, rfl⟩)
            | (go_at_call 31; (with_reducible refine (c3 _).mono ?_); rintro e w3 ⟨rfl, hb3⟩; obtain ⟨h5, hb5⟩ := inst5 hb3; have HB3 := Lib.hid hb5; have z0 := Lib.cell_of_heap h5 0; have z1 := Lib.cell_of_heap h5 1; have z2 := Lib.cell_of_heap h5 2; have z3 := Lib.cell_of_heap h5 3; have z4 := Lib.cell_of_heap h5 4; simp only [List.getElem?_toArray, List.getElem?_cons_zero, List.getElem?_cons_succ] at z0 z1 z2 z3 z4; clear hb3 hb5 h5)
            | (go_at_call 12; (with_reducible refine (c4 _).mono ?_); rintro e w4 ⟨rfl, hb4⟩; have HB4 := Lib.hid hb4; clear hb4))
          go_ret2
          have hz := HB.out.trans (HB3.out.mono HB.out.size)
          exact ⟨ret_two HW.out.symm HE.out.symm, hz.trans (HB4.out.mono hz.size)⟩
end PC
end Go.Proofs.Ytieehjkmfmkfjab
