/-
  Plain numbers of relocations: the parts of a value, what is far, what a word becomes. No program.
  Package patch, and its document's: contracts. Conditions: words lie from 0 to below 2^32.
-/
import Derived.Test.YtlmblfkcmhgdaaaGreatObjQc
import Derived.Test.YtlmblfkcmhgdaaaGreatCodeQd
import Derived.Test.YtlmblfkcmhgdaaaGreatWordQ
namespace Go.Proofs.YtlmblfkcmhgdaaaGreat
open Go.RowKit
set_option linter.unusedVariables false
set_option linter.unusedSimpArgs false
namespace PM
open OU OPt
def hiI (v : Int) : Int := (v + 2048) % 4294967296 / 4096
def loI (v : Int) : Int := if 2048 ≤ v % 4096 then v % 4096 - 4096 else v % 4096
def farI (v p : Int) : Int := wrap32 ((v - p) % 4294967296)
def immI (k v p : Int) : Int := if k = 1 then hiI v else if k = 2 ∨ k = 3 then loI v else farI v p
def fitB (k x v p : Int) : Bool := CM.fits (CM.kd (CD.dOp x)) (immI k v p)
/-- the error of a relocation, and the word -/
def pE (k x v p : Int) : Int := if k < 1 ∨ 6 < k then 1 else if k = 6 then 0 else bif patB k x then (bif fitB k x v p then 0 else 7) else 2
def pW (k x v p : Int) : Int := if k < 1 ∨ 6 < k then 0 else if k = 6 then v else bif patB k x then (bif fitB k x v p then CE.encW (CD.dOp x) (CD.dRd x) (CD.dRs1 x) (CD.dRs2 x) (immI k v p) else 0) else 0
theorem ext_lo (v : Int) : wrap32 (WM.ext v 12) = loI v := by
  unfold WM.ext loI wrap32
  simp only [show (12 : Int).toNat = 12 from rfl, show (12 : Nat) - 1 = 11 from rfl, show (2 : Int) ^ 11 = 2048 from rfl, show (2 : Int) ^ 12 = 4096 from rfl]
  split <;> omega
theorem hi_bd (v : Int) : 0 ≤ hiI v ∧ hiI v < 1048576 := by unfold hiI; omega
theorem lo_bd (v : Int) : -2048 ≤ loI v ∧ loI v < 2048 := by unfold loI; split <;> omega
theorem far_bd (v p : Int) : -2147483648 ≤ farI v p ∧ farI v p < 2147483648 := by unfold farI wrap32; omega
theorem imm_bd (k v p : Int) : -2147483648 ≤ immI k v p ∧ immI k v p < 2147483648 := by
  have := hi_bd v; have := lo_bd v; have := far_bd v p
  unfold immI; split
  · omega
  · split <;> omega
theorem parts (v : Int) (h : 0 ≤ v ∧ v ≤ 4294967295) : (hiI v * 4096 % 4294967296 + loI v % 4294967296) % 4294967296 = v := by
  unfold hiI loI; split <;> omega
def KI (p : Int) : Prop := p = 38 ∨ (18 ≤ p ∧ p ≤ 23 ∨ 27 ≤ p ∧ p ≤ 29 ∨ p = 41 ∨ p = 43) ∨ (p = 30 ∨ p = 31 ∨ p = 44) ∨ p = 40 ∨ 32 ≤ p ∧ p ≤ 37
instance (p : Int) : Decidable (KI p) := by unfold KI; exact inferInstance
theorem ki_imm {p : Int} (h : CM.isOp p = true) (k : KI p) : CM.uImm (CM.kd p) = true := by
  have := CM.all_ops (fun p => decide (KI p → CM.uImm (CM.kd p) = true)) (by decide +kernel) h
  exact of_decide_eq_true this k
theorem dec_op {x : Int} (h : CM.dec x ≠ 0) : CM.isOp (CM.dec x) = true := by
  unfold CM.dec at h ⊢
  cases e : (List.range 55).find? fun n => CM.hit ((n + 1 : Nat) : Int) x with
  | none => rw [e] at h; exact absurd rfl h
  | some n =>
    have := List.mem_of_find?_eq_some e
    rw [List.mem_range] at this
    unfold CM.isOp
    simp only [decide_eq_true_eq]
    omega
theorem pat_op {k x : Int} (h : patB k x = true) : CM.dec x ≠ 0 ∧ CD.dImm x = 0 ∧ KI (CD.dOp x) := by
  unfold patB kindB at h
  simp only [Bool.and_eq_true, decide_eq_true_eq] at h
  obtain ⟨h1, h2, h3⟩ := h
  refine ⟨?_, h2, ?_⟩
  · intro e; unfold CD.dE at h1; rw [if_pos e] at h1; exact absurd h1 (by decide)
  · unfold KI; omega
theorem pat_enc {k x : Int} (h : patB k x = true) (h0 : 0 ≤ x) (h1 : x < 4294967296) (n : Int) : CE.encE (CD.dOp x) (CD.dRd x) (CD.dRs1 x) (CD.dRs2 x) n = bif CM.fits (CM.kd (CD.dOp x)) n then 0 else 1 := by
  obtain ⟨hd, hi, hk⟩ := pat_op h
  have ho := dec_op hd
  have hu := ki_imm ho hk
  have hg := CM.fault_good (CM.cand_good (CM.ft_row ho) h0 h1)
  have e1 : CD.dRd x = CM.rdOf (CM.kd (CM.dec x)) x := by unfold CD.dRd; rw [if_neg hd]
  have e2 : CD.dRs1 x = CM.rs1Of (CM.kd (CM.dec x)) x := by unfold CD.dRs1; rw [if_neg hd]
  have e3 : CD.dRs2 x = CM.rs2Of (CM.kd (CM.dec x)) x := by unfold CD.dRs2; rw [if_neg hd]
  have e4 : CD.dOp x = CM.dec x := rfl
  rw [← e1, ← e2, ← e3, ← e4] at hg
  rw [← e4] at hu ho
  unfold CE.encE
  rw [if_pos ho]
  generalize CM.kd (CD.dOp x) = q at *
  generalize CM.immOf q x = m at *
  generalize CD.dRd x = a at *
  generalize CD.dRs1 x = b at *
  generalize CD.dRs2 x = c at *
  unfold CM.fault at hg ⊢
  have b2 : CM.bad2 q a b c m = false := by
    cases hb : CM.bad2 q a b c m with
    | false => rfl
    | true => rw [hb] at hg; simp at hg
  have b1 : CM.bad1 q a b c m = false := by
    rw [b2] at hg
    cases hb : CM.bad1 q a b c m with
    | false => rfl
    | true => rw [hb] at hg; simp at hg
  have c2 : CM.bad2 q a b c n = false := by
    unfold CM.bad2 at b2 ⊢
    rw [hu] at b2 ⊢
    simpa using b2
  have c1 : CM.bad1 q a b c n = !CM.fits q n := by
    unfold CM.bad1 at b1 ⊢
    rw [hu] at b1 ⊢
    simp only [Bool.or_eq_false_iff] at b1
    obtain ⟨⟨⟨d1, d2⟩, d3⟩, d4⟩ := b1
    rw [d1, d2, d3]
    simp
  rw [c2, c1]
  cases CM.fits q n <;> rfl
theorem dec_wf (x : Int) (h0 : 0 ≤ x) (h1 : x < 4294967296) : (0 ≤ CD.dOp x ∧ CD.dOp x ≤ 55) ∧ (0 ≤ CD.dRd x ∧ CD.dRd x < 32) ∧ (0 ≤ CD.dRs1 x ∧ CD.dRs1 x < 32) ∧ (0 ≤ CD.dRs2 x ∧ CD.dRs2 x < 32) := by
  refine ⟨?_, ?_, ?_, ?_⟩
  · unfold CD.dOp
    by_cases h : CM.dec x = 0
    · omega
    · have := CM.isOp_yes (dec_op h); omega
  · unfold CD.dRd CM.rdOf; split <;> (try split) <;> omega
  · unfold CD.dRs1 CM.rs1Of; split <;> (try split) <;> omega
  · unfold CD.dRs2 CM.rs2Of; split <;> (try split) <;> omega
theorem pw_bd {k x v p : Int} (hv : 0 ≤ v ∧ v ≤ 4294967295) : 0 ≤ pW k x v p ∧ pW k x v p < 4294967296 := by
  unfold pW
  split
  · omega
  · split
    · omega
    · cases patB k x
      · simp
      · cases fitB k x v p
        · simp
        · exact CL.enc_bd _ _ _ _ _
end PM
end Go.Proofs.YtlmblfkcmhgdaaaGreat
namespace Go.Proofs.YtlmblfkcmhgdaaaGreat
open Go.RowKit
set_option linter.unusedVariables false
set_option linter.unusedSimpArgs false
namespace PC
open PM OU OPt
theorem ret_int {k : IntKind} {a b : Int} (h : a = b) : Ending.returned (.int k a) = .returned (.int k b) := by rw [h]
theorem ret_two {k l : IntKind} {a b c d : Int} (h : a = b) (h2 : c = d) : Ending.returned (.tuple #[.int k a, .int l c]) = .returned (.tuple #[.int k b, .int l d]) := by rw [h, h2]
set_option maxRecDepth 100000 in
theorem hi_ (v : Int) (h : 0 ≤ v ∧ v ≤ 4294967295) (w : World) : Calls Tryz.prog 148 #[.int .u32 v] w fun e w' => e = .returned (.int .i64 (hiI v)) ∧ w = w' := by
  go_enter Tryz.func148, Tryz.ntmps148
  go_wp2
  go_ret
  exact ⟨ret_int (by unfold hiI; omega), rfl⟩
set_option maxRecDepth 100000 in
theorem lo_ (v : Int) (h : 0 ≤ v ∧ v ≤ 4294967295) (w : World) : Calls Tryz.prog 149 #[.int .u32 v] w fun e w' => e = .returned (.int .i64 (loI v)) ∧ w = w' := by
  have c1 := fun w => WG.extend_yes v 12 h (by omega) (by omega) w
  have c2 := fun w => WC.signed (WM.ext v 12) (WM.ext_ok v 12 (by omega) (by omega)) w
  rw [ext_lo] at c2
  generalize WM.ext v 12 = x at *
  generalize loI v = y at *
  go_enter Tryz.func149, Tryz.ntmps149
  go_wp2_with (first
    | (go_at_call 127; (with_reducible refine (c1 _).mono ?_); rintro e w' ⟨rfl, rfl⟩)
    | (go_at_call 130; (with_reducible refine (c2 _).mono ?_); rintro e w' ⟨rfl, rfl⟩))
  go_ret
  exact ⟨rfl, rfl⟩
set_option maxRecDepth 100000 in
set_option maxHeartbeats 1000000 in
theorem imm_ (k v p : Int) (hv : 0 ≤ v ∧ v ≤ 4294967295) (hp : 0 ≤ p ∧ p ≤ 4294967295) (w : World) : Calls Tryz.prog 124 #[.int .i64 k, .int .u32 v, .int .u32 p] w fun e w' => e = .returned (.int .i64 (immI k v p)) ∧ w = w' := by
  have c1 := fun w => hi_ v hv w
  have c2 := fun w => lo_ v hv w
  have c3 := fun w => WC.signed ((v - p) % 4294967296) ⟨by omega, by omega⟩ w
  rw [show wrap32 ((v - p) % 4294967296) = farI v p from rfl] at c3
  have HI := Lib.hid (show immI k v p = if k = 1 then hiI v else if k = 2 ∨ k = 3 then loI v else farI v p from rfl)
  generalize immI k v p = im at *
  generalize hiI v = a at *
  generalize loI v = b at *
  generalize farI v p = c at *
  clear hv hp
  by_cases e1 : k = 1
  all_goals by_cases e2 : k = 2
  all_goals by_cases e3 : k = 3
  all_goals try (exfalso; omega)
  all_goals
    have HE := Lib.hid (⟨e1, e2, e3⟩ : _ ∧ _ ∧ _)
    go_enter Tryz.func124, Tryz.ntmps124
    go_wp2_with (first
      | (go_at_call 148; (with_reducible refine (c1 _).mono ?_); rintro e w' ⟨rfl, rfl⟩)
      | (go_at_call 149; (with_reducible refine (c2 _).mono ?_); rintro e w' ⟨rfl, rfl⟩)
      | (go_at_call 130; (with_reducible refine (c3 _).mono ?_); rintro e w' ⟨rfl, rfl⟩))
    go_ret
    exact ⟨ret_int (by rw [HI.out]; have := HE.out; simp [this]), rfl⟩
theorem inst5 {w1 w3 : World} {I : Array Value} {T : TypeId} (hb : Below (w1.alloc (.cells I T)).heap.size (w1.alloc (.cells I T)) w3) :
    w3.heap[w1.heap.size]? = some (.cells I T (0, 0)) ∧ Below w1.heap.size w1 w3 := by
  refine ⟨?_, ?_⟩
  · rw [hb.block _ (by rw [World.size_alloc]; omega)]
    exact heap_alloc_new w1 _
  · exact ((Below.refl _ _).alloc (Nat.le_refl _) _).trans (hb.mono (by rw [World.size_alloc]; omega))
set_option maxRecDepth 100000 in
set_option maxHeartbeats 4000000 in
theorem patch_ (k x v p : Int) (hx : 0 ≤ x ∧ x < 4294967296) (hv : 0 ≤ v ∧ v ≤ 4294967295) (hp : 0 ≤ p ∧ p ≤ 4294967295) (w : World) :
    Calls Tryz.prog 101 #[.int .i64 k, .int .u32 x, .int .u32 v, .int .u32 p] w fun e w' => e = .returned (.tuple #[.int .u32 (pW k x v p), .int .i64 (pE k x v p)]) ∧ Below w.heap.size w w' := by
  by_cases r0 : k < 1 ∨ 6 < k
  · have HW := Lib.hid (show pW k x v p = 0 by unfold pW; rw [if_pos r0])
    have HE := Lib.hid (show pE k x v p = 1 by unfold pE; rw [if_pos r0])
    by_cases r1 : k < 1
    all_goals by_cases r2 : 6 < k
    all_goals try (exfalso; omega)
    all_goals
      clear r0
      go_enter Tryz.func101, Tryz.ntmps101
      go_wp2
      go_ret2
      exact ⟨ret_two HW.out.symm HE.out.symm, Below.refl _ _⟩
  · by_cases r6 : k = 6
    · subst r6
      have HW := Lib.hid (show pW 6 x v p = v by unfold pW; rw [if_neg (by omega), if_pos rfl])
      have HE := Lib.hid (show pE 6 x v p = 0 by unfold pE; rw [if_neg (by omega), if_pos rfl])
      clear r0
      go_enter Tryz.func101, Tryz.ntmps101
      go_wp2
      go_ret2
      exact ⟨ret_two HW.out.symm HE.out.symm, Below.refl _ _⟩
    · have c1 := fun w => at_ k x hx.1 hx.2 w
      have c2 := fun w => imm_ k v p hv hp w
      have q1 : ¬ k < 1 := by omega
      have q2 : ¬ 6 < k := by omega
      cases hb : patB k x with
      | false =>
        have HW := Lib.hid (show pW k x v p = 0 by unfold pW; rw [if_neg r0, if_neg r6, hb]; rfl)
        have HE := Lib.hid (show pE k x v p = 2 by unfold pE; rw [if_neg r0, if_neg r6, hb]; rfl)
        rw [show atI k x = #[.int .i64 0, .int .i64 0, .int .i64 0, .int .i64 0, .int .i64 0] by unfold atI; rw [hb]; rfl, hb] at c1
        clear r0 hb hx hv hp
        go_enter Tryz.func101, Tryz.ntmps101
        go_wp2_with (go_at_call 123; (with_reducible refine (c1 _).mono ?_); rintro e w1 ⟨rfl, hb1⟩; have HB := Lib.hid hb1; clear hb1)
        go_ret2
        exact ⟨ret_two HW.out.symm HE.out.symm, HB.out.alloc HB.out.size _⟩
      | true =>
        obtain ⟨⟨o1, o2⟩, ⟨o3, o4⟩, ⟨o5, o6⟩, o7, o8⟩ := dec_wf x hx.1 hx.2
        have him := imm_bd k v p
        have hop : CM.isOp (CD.dOp x) = true := PM.dec_op (pat_op hb).1
        have c3 := fun w => CE.fits_ (CD.dOp x) (immI k v p) (WalkArith.wf_i64 (by omega)) w
        have c4 := fun w => CE.encode_ (CD.dOp x) (CD.dRd x) (CD.dRs1 x) (CD.dRs2 x) (immI k v p) (WalkArith.wf_i64 (by omega)) w
        rw [pat_enc hb hx.1 hx.2] at c4
        rw [hop, Bool.true_and] at c3
        unfold CW.iv at c4
        rw [show atI k x = #[.int .i64 (CD.dOp x), .int .i64 (CD.dRd x), .int .i64 (CD.dRs1 x), .int .i64 (CD.dRs2 x), .int .i64 (CD.dImm x)] by unfold atI; rw [hb]; rfl, hb] at c1
        cases hf : CM.fits (CM.kd (CD.dOp x)) (immI k v p) with
        | false =>
          have HW := Lib.hid (show pW k x v p = 0 by unfold pW; rw [if_neg r0, if_neg r6, hb]; unfold fitB; rw [hf]; rfl)
          have HE := Lib.hid (show pE k x v p = 7 by unfold pE; rw [if_neg r0, if_neg r6, hb]; unfold fitB; rw [hf]; rfl)
          rw [hf] at c3
          clear c4 hop him r0 hb hx hv hp hf
          generalize immI k v p = im at *
          generalize CD.dOp x = d0 at *
          generalize CD.dRd x = d1 at *
          generalize CD.dRs1 x = d2 at *
          generalize CD.dRs2 x = d3 at *
          generalize CD.dImm x = d4 at *
          clear o1 o2 o3 o4 o5 o6 o7 o8
          go_enter Tryz.func101, Tryz.ntmps101
          go_wp2_with (first
            | (go_at_call 123; (with_reducible refine (c1 _).mono ?_); rintro e w1 ⟨rfl, hb1⟩; have HB := Lib.hid hb1; clear hb1)
            | (go_at_call 124; (with_reducible refine (c2 _).mono ?_); rintro e w2 ⟨rfl, rfl⟩)
            | (go_at_call 125; (with_reducible refine (c3 _).mono ?_); rintro e w3 ⟨rfl, hb3⟩; have HB3 := Lib.hid hb3; clear hb3))
          go_ret2
          exact ⟨ret_two HW.out.symm HE.out.symm, HB.out.trans ((inst5 HB3.out).2.mono HB.out.size)⟩
        | true =>
          have HW := Lib.hid (show pW k x v p = CE.encW (CD.dOp x) (CD.dRd x) (CD.dRs1 x) (CD.dRs2 x) (immI k v p) by unfold pW; rw [if_neg r0, if_neg r6, hb]; unfold fitB; rw [hf]; rfl)
          have HE := Lib.hid (show pE k x v p = 0 by unfold pE; rw [if_neg r0, if_neg r6, hb]; unfold fitB; rw [hf]; rfl)
          rw [hf] at c3 c4
          generalize CE.encW (CD.dOp x) (CD.dRd x) (CD.dRs1 x) (CD.dRs2 x) (immI k v p) = ew at *
          clear hop him r0 hb hx hv hp hf
          generalize immI k v p = im at *
          generalize CD.dOp x = d0 at *
          generalize CD.dRd x = d1 at *
          generalize CD.dRs1 x = d2 at *
          generalize CD.dRs2 x = d3 at *
          generalize CD.dImm x = d4 at *
          clear o1 o2 o3 o4 o5 o6 o7 o8
          go_enter Tryz.func101, Tryz.ntmps101
          go_wp2_with (first
            | (go_at_call 123; (with_reducible refine (c1 _).mono ?_); rintro e w1 ⟨rfl, hb1⟩; have HB := Lib.hid hb1; clear hb1)
            | (go_at_call 124; (with_reducible refine (c2 _).mono ?_); rintro e w2 ⟨rfl, rfl⟩)
            | (go_at_call 125; (with_reducible refine (c3 _).mono ?_); rintro e w3 ⟨rfl, hb3⟩; obtain ⟨h5, hb5⟩ := inst5 hb3; have HB3 := Lib.hid hb5; have z0 := Lib.cell_of_heap h5 0; have z1 := Lib.cell_of_heap h5 1; have z2 := Lib.cell_of_heap h5 2; have z3 := Lib.cell_of_heap h5 3; have z4 := Lib.cell_of_heap h5 4; simp only [List.getElem?_toArray, List.getElem?_cons_zero, List.getElem?_cons_succ] at z0 z1 z2 z3 z4; clear hb3 hb5 h5)
            | (go_at_call 100; (with_reducible refine (c4 _).mono ?_); rintro e w4 ⟨rfl, hb4⟩; have HB4 := Lib.hid hb4; clear hb4))
          go_ret2
          have hz := HB.out.trans (HB3.out.mono HB.out.size)
          exact ⟨ret_two HW.out.symm HE.out.symm, hz.trans (HB4.out.mono hz.size)⟩
end PC
end Go.Proofs.YtlmblfkcmhgdaaaGreat
