/-
  From every place to every place the law PatchJumps returns true: a jump, and a branch that is taken, that are patched come to the value, if it is not too far, and it is told just so.
  Conditions: none beyond those of the given statement.
-/
import Derived.Test.YtieehjkmfmkfjabRows
import Derived.Test.YtieehjkmfmkfjabPatJ
import Derived.BigGuardPart
import Derived.Laws.CopyOwn
import Derived.Deep.RegionHeld3
import Derived.WalkSpells
import Derived.WalkKit
import Derived.ProofKit
import Derived.OpenShut
namespace Go.Proofs.Ytieehjkmfmkfjab.patchJumps
open Go.ChangeShapes Go.WideShapes Go.ChangeAt Go.RowKit
set_option linter.unusedVariables false
set_option linter.unusedSimpArgs false

theorem own : ownKnob Try.prog.godebug = none := by kernel_rfl
open PM PC PA PL PJ MM MC MB MP MQ MK MR MX
theorem field_n (a b n : Int) (p : Option Addr) (l c : Nat) (w : World) : (Instr.field 43 (.agg #[.int .i64 a, .int .u32 b, .slice p l c, .int .i64 n]) 3).run Try.prog w = .ok (.int .i64 n) w := by kernel_rfl
def Bz (w : World) (gb P : Nat) (X : Int) (e : Ending) (w8 : World) : Prop := ∃ g8 cap8, e = .returned (.slice (some ⟨g8, 0, none⟩) 4 cap8) ∧ (∀ k, k < 4 → w8.cell? ⟨g8, 0 + k, none⟩ = some (.int .u8 (fb [X] k))) ∧ Below w.heap.size w w8 ∧ w8.heap[gb]? = some (.cells (MC.row (P + 4) fun _ => Value.int .u8 0).toList.toArray 5 (0, 0))
theorem row_len (N : Nat) (f : Nat → Value) : (MC.row N f).size = N := by simp [MC.row]
theorem u8_ones (l : List Int) : ∀ v ∈ u8s l, v.oneCell' = true := fun v hv => by obtain ⟨x, _, rfl⟩ := List.mem_map.1 hv; rfl
theorem bytes_at {W : World} {g : Nat} {X : Int} (h : ∀ k, k < 4 → W.cell? ⟨g, 0 + k, none⟩ = some (.int .u8 (fb [X] k))) : ∀ j v, (u8s (bts [X]))[j]? = some v → W.cell? ((⟨g, 0, none⟩ : Addr).add j) = some v := fun j v hj => by
  have hl : j < 4 := by have := (List.getElem?_eq_some_iff.1 hj).1; simpa [u8s, bts, bs] using this
  have h2 := h j hl
  rw [show (⟨g, 0, none⟩ : Addr).add j = ⟨g, 0 + j, none⟩ by rw [Nat.zero_add]; unfold Addr.add; split <;> simp_all, h2, ← hj]
  unfold fb u8s
  rw [List.getElem?_map, List.getD_eq_getElem?_getD, List.getElem?_eq_getElem (by simpa [bts, bs] using hl)]
  rfl
theorem splice_cells {W : World} {g : Nat} (P : Nat) (X : Int) {T : TypeId} (h : W.heap[g]? = some (.cells (splice (MC.row (P + 4) fun _ => Value.int .u8 0).toList P (u8s (bts [X]))).toArray T (0, 0))) : ∀ k, k < P + 4 → W.cell? ⟨g, 0 + k, none⟩ = some (.int .u8 (fw P X k)) := fun k hk => by
  have e : splice (MC.row (P + 4) fun _ => Value.int .u8 0).toList P (u8s (bts [X])) = (List.range (P + 4)).map fun k => Value.int .u8 (fw P X k) := by
    unfold splice
    rw [show (u8s (bts [X])).length = 4 by simp [u8s, bts, bs]]
    exact row_word P X
  rw [e] at h
  rw [Nat.zero_add, Lib.cell_of_heap h k]
  simp [hk]

set_option maxRecDepth 100000 in
set_option maxHeartbeats 8000000 in
theorem walk (a0 : Int) (wa0 : (Lit.int .u16 a0).wf = true) (a1 : Int) (wa1 : (Lit.int .u16 a1).wf = true) (b2 : Bool) (w : World) :
    Calls Try.prog 5 #[.int .u16 a0, .int .u16 a1, .bool b2] w fun e w' => e = .returned (.bool true) ∧ Below w.heap.size w w' := by
  have h0 := bounds_u16 wa0
  have h1 := bounds_u16 wa1
  obtain ⟨P, hP, hP1, hP2⟩ : ∃ P : Nat, a0 * 4 = (P : Int) ∧ P ≤ 262140 ∧ P % 4 = 0 := ⟨(a0 * 4).toNat, by omega, by omega, by omega⟩
  obtain ⟨V, hV, hV1, hV2⟩ : ∃ V : Nat, a1 * 4 = (V : Int) ∧ V ≤ 262140 ∧ V % 4 = 0 := ⟨(a1 * 4).toNat, by omega, by omega, by omega⟩
  cases b2
  · obtain ⟨p1, p2, HG⟩ := jal_words V P hV1 hP1 (by omega)
    have c1 := fun w => CE.encode_ 40 1 0 0 0 (by decide) w
    rw [jal0] at c1
    unfold CW.iv at c1
    have c2 := fun w => patch_ 4 (CE.encW 40 1 0 0 0) (V : Int) (P : Int) (CL.enc_bd _ _ _ _ _) (by omega) (by omega) w
    rw [p1, p2] at c2
    have hXb := word_bd false ((V : Int) - P)
    obtain ⟨N, hN⟩ : ∃ N : Nat, MW.up (MW.up ((P + 4 : Nat) : Int) + 0) = (N : Int) := ⟨(MW.up (MW.up ((P + 4 : Nat) : Int) + 0)).toNat, by unfold MW.up; omega⟩
    have hN1 : P + 4 ≤ N ∧ N ≤ 262192 := by unfold MW.up at hN; omega
    obtain ⟨T, hT, t1, t2⟩ := jump_run (N := N) (n := P) (s := MW.loaded (fw P (wordOf (opJ false ((V : Int) - P)))) (P + 4) (MW.up ((P + 4 : Nat) : Int)) N (P : Int)) (im := (V : Int) - P) (v := (V : Int)) false (num_fw P _ hXb _ _ _) HG rfl rfl hP2 (by omega) (by omega)
    have hF := fine_loaded (fw_bd P (wordOf (opJ false ((V : Int) - P)))) (P + 4) N (MW.up ((P + 4 : Nat) : Int)) (P : Int) (by unfold MW.up; omega) (by omega) (by omega)
    generalize wordOf (opJ false ((V : Int) - P)) = X at *
    generalize CE.encW 40 1 0 0 0 = X0 at *
    have hmk : ∀ w, (Instr.makeSlice 36 (.int .i64 ((P : Int) + 4)) (.int .i64 ((P : Int) + 4))).run Try.prog w = .ok (.slice (some ⟨w.heap.size, 0, none⟩) (P + 4) (P + 4)) (w.alloc (.cells (MC.row (P + 4) fun _ => .int .u8 0) 5)) := fun w => by
      rw [show (P : Int) + 4 = ((P + 4 : Nat) : Int) by omega]; exact MW.make_ (P + 4) (by omega) w
    have HT := Lib.hid hT
    have HT1 := Lib.hid t1
    have HT2 := Lib.hid t2
    have HFI := Lib.hid hF
    have HNN := Lib.hid hN
    have HN1 := Lib.hid hN1
    have hfl := field_n T.s.state (MV.codeOf T.s) 1
    have f1 : decide ((V : Int) - P ≥ -1048576) = true := decide_eq_true (by omega)
    have f2 : decide ((V : Int) - P ≤ 1048574) = true := decide_eq_true (by omega)
    clear hT t1 t2 hF hN p1 p2 HG hN1
    go_enter Try.func5, Try.ntmps5
    go_upto_region 15 with (first
      | (go_at_call 9; (with_reducible refine (awake_ _).mono ?_); rintro e w1 ⟨rfl, hb0⟩; have H0 := Lib.hid hb0; clear hb0)
      | (go_at_call 12; (with_reducible refine (c1 _).mono ?_); rintro e w2 ⟨rfl, hb2⟩; have H1 := Lib.hid ((H0.out.alloc H0.out.size _).trans (hb2.mono (by have := H0.out.size; simp only [World.size_alloc]; omega))); clear hb2)
      | (go_at_call 13; (with_reducible refine (c2 _).mono ?_); rintro e w3 ⟨rfl, hb2⟩; have H2 := Lib.hid (H1.out.trans (hb2.mono H1.out.size)); clear hb2))
    have hs3 := H2.out.size
    have hg0 : (w3.alloc (.cells (MC.row (P + 4) fun _ => .int .u8 0) 5)).heap[w3.heap.size]? = some (.cells (MC.row (P + 4) fun _ => .int .u8 0) 5 (0, 0)) := heap_alloc_new _ _
    have hb0 : Below w.heap.size w (w3.alloc (.cells (MC.row (P + 4) fun _ => .int .u8 0) 5)) := H2.out.alloc hs3 _
    have hs4 : (w3.alloc (.cells (MC.row (P + 4) fun _ => .int .u8 0) 5)).heap.size = w3.heap.size + 1 := by rw [World.size_alloc]
    generalize w3.alloc (.cells (MC.row (P + 4) fun _ => .int .u8 0) 5) = W at *
    generalize w3.heap.size = gb at *
    have HG0 := Lib.hid (show W.heap[gb]? = some (.cells (MC.row (P + 4) fun _ => Value.int .u8 0).toList.toArray 5 (0, 0)) by rw [Array.toArray_toList]; exact hg0)
    have HB0 := Lib.hid hb0
    have cby := bytes_ (W.alloc (.cells #[.int .u32 X] 22)).drew (.slice (some ⟨W.heap.size, 0, none⟩) 1 1) [X] (by simp) (.inr ⟨W.heap.size, 0, 1, rfl, by simp, fun j x hj => by match j, hj with | 0, hj => cases hj; exact Lib.cell_of_heap (heap_alloc_new W _) 0 | j + 1, hj => simp at hj⟩)
    have hlow := ((HB0.out.alloc HB0.out.size (.cells #[.int .u32 X] 22))).drew
    have HLOW := Lib.hid hlow
    have hsl : W.heap.size < (W.alloc (.cells #[.int .u32 X] 22)).heap.size := by simp
    have hmin := Lib.hid (show (u8s (bts [X])).length = Nat.min 4 4 by simp [u8s, bts, bs])
    have hfit := Lib.hid (show P + (u8s (bts [X])).length ≤ (MC.row (P + 4) fun _ => Value.int .u8 0).toList.length by simp [u8s, bts, bs, row_len])
    have hones := Lib.hid (u8_ones (bts [X]))
    have hgb1 : gb < (W.alloc (.cells #[.int .u32 X] 22)).drew.heap.size := by simp; omega
    have hgb2 : gb < W.heap.size := by omega
    have hwg : w.heap.size ≤ gb := hs3
    have hu8 : (Try.prog.info? 5).map (·.size) = some 1 := by kernel_rfl
    have hz1 : (0 : Int) ≤ (P : Int) := by omega
    have hz2 : (P : Int) ≤ ((P + 4 : Nat) : Int) := by omega
    have hz3 : (P : Int) ≤ (P : Int) + 4 := by omega
    clear hg0 hb0 hlow c1 c2 hmk H0 H1 H2
    have cbz : Calls Try.prog 15 #[.slice (some ⟨W.heap.size, 0, none⟩) 1 1] (W.alloc (.cells #[.int .u32 X] 22)).drew (Bz w gb P X) := by
      refine cby.mono ?_
      rintro e w8 ⟨v8, rfl, ho8, hb8⟩
      obtain ⟨g8, cap8, rfl, hg8, hcell8⟩ := MK.image_of ho8 (by simp) 4 rfl
      exact ⟨g8, cap8, rfl, hcell8, HLOW.out.trans (hb8.mono HLOW.out.size), (hb8.block gb hgb1).trans ((Lib.alloc_old _ _ _ hgb2).trans HG0.out)⟩
    clear cby hs4
    go_region_held3 (fun w' => True) (first | trivial | go_keep)
      ((first
        | (go_at_call 15; (with_reducible refine cbz.mono ?_); rintro e w8 ⟨g8, cap8, rfl, hc8, h8, hgb8⟩; have HC := Lib.hid (bytes_at hc8); have H8 := Lib.hid h8; have HGB := Lib.hid hgb8; clear hc8 h8 hgb8)
        | (refine step_copy_splice rfl _ _ 36 36 rfl 5 Try.underlying36 hu8 _ _ _ _ _ _ rfl rfl gb P (MC.row (P + 4) fun _ => .int .u8 0).toList 5 HGB.out (u8s (bts [X])) hmin.out (fun _ => ⟨rfl, _, rfl, HC.out⟩) hfit.out hones.out w.heap.size w H8.out hwg ?_; intro w9 hg9 hb9)))
    have hcell := splice_cells P X hg9.out
    have HC9 := Lib.hid hcell
    have H9 := Lib.hid hb9
    have hgl : gb < w9.heap.size := lt_of_get hg9.out
    have hu0 : (0 : Int) ≤ 0 := by omega
    have hu1 : (0 : Int) + MW.up ((P + 4 : Nat) : Int) ≤ 2097152 := by unfold MW.up; omega
    clear hg9 hb9 hcell HC
    have cl := MW.load_ok (P : Int) (by omega) gb 0 (P + 4) (P + 4) 0 (by omega) hu0 hu1 N HNN.out (fw P X) w9 hgl HC9.out
    go_wp2_with (first
      | (go_at_call 14; (with_reducible refine cl.mono ?_); rintro e w10 ⟨b, bm, rfl, A, hb, hbm, hb3⟩; have cg := MV.run_ A (inp_nil _ _ _ _) HFI.out (fun y hy => by simp at hy) (by have := HN1.out; omega) 1 (by omega) T HT.out (by have := HT1.out; omega); have H10 := Lib.hid (H9.out.trans (hb3.mono H9.out.size)); clear A hb3)
      | (go_at_call 16; (with_reducible refine cg.mono ?_); rintro e w11 ⟨p5, l5, c5, he, R⟩; rw [HT1.out] at he; subst he; have cpl := place_ R.at_; rw [HT2.out] at cpl; have HR := Lib.hid R; clear R cg)
      | (go_at_call 18; (with_reducible refine cpl.mono ?_); rintro e w' ⟨rfl, rfl⟩))
    go_ret
    refine ⟨rfl, ?_⟩
    have l1 := H10.out.size
    have l2 := H9.out.size
    exact H10.out.trans (HR.out.own.below (by omega) (by omega) (by omega))
  · by_cases hfar : -4096 ≤ (V : Int) - P ∧ (V : Int) - P ≤ 4094
    · obtain ⟨p1, p2, HG⟩ := beq_words V P hV1 hP1 (by omega) hfar
      have c1 := fun w => CE.encode_ 32 0 0 0 0 (by decide) w
      rw [beq0] at c1
      unfold CW.iv at c1
      have c2 := fun w => patch_ 5 (CE.encW 32 0 0 0 0) (V : Int) (P : Int) (CL.enc_bd _ _ _ _ _) (by omega) (by omega) w
      rw [p1, p2] at c2
      have hXb := word_bd true ((V : Int) - P)
      obtain ⟨N, hN⟩ : ∃ N : Nat, MW.up (MW.up ((P + 4 : Nat) : Int) + 0) = (N : Int) := ⟨(MW.up (MW.up ((P + 4 : Nat) : Int) + 0)).toNat, by unfold MW.up; omega⟩
      have hN1 : P + 4 ≤ N ∧ N ≤ 262192 := by unfold MW.up at hN; omega
      obtain ⟨T, hT, t1, t2⟩ := jump_run (N := N) (n := P) (s := MW.loaded (fw P (wordOf (opJ true ((V : Int) - P)))) (P + 4) (MW.up ((P + 4 : Nat) : Int)) N (P : Int)) (im := (V : Int) - P) (v := (V : Int)) true (num_fw P _ hXb _ _ _) HG rfl rfl hP2 (by omega) (by omega)
      have hF := fine_loaded (fw_bd P (wordOf (opJ true ((V : Int) - P)))) (P + 4) N (MW.up ((P + 4 : Nat) : Int)) (P : Int) (by unfold MW.up; omega) (by omega) (by omega)
      generalize wordOf (opJ true ((V : Int) - P)) = X at *
      generalize CE.encW 32 0 0 0 0 = X0 at *
      have hmk : ∀ w, (Instr.makeSlice 36 (.int .i64 ((P : Int) + 4)) (.int .i64 ((P : Int) + 4))).run Try.prog w = .ok (.slice (some ⟨w.heap.size, 0, none⟩) (P + 4) (P + 4)) (w.alloc (.cells (MC.row (P + 4) fun _ => .int .u8 0) 5)) := fun w => by
        rw [show (P : Int) + 4 = ((P + 4 : Nat) : Int) by omega]; exact MW.make_ (P + 4) (by omega) w
      have HT := Lib.hid hT
      have HT1 := Lib.hid t1
      have HT2 := Lib.hid t2
      have HFI := Lib.hid hF
      have HNN := Lib.hid hN
      have HN1 := Lib.hid hN1
      have hfl := field_n T.s.state (MV.codeOf T.s) 1
      have f1 : decide ((V : Int) - P ≥ -4096) = true := decide_eq_true (by omega)
      have f2 : decide ((V : Int) - P ≤ 4094) = true := decide_eq_true (by omega)
      clear hT t1 t2 hF hN p1 p2 HG hN1
      go_enter Try.func5, Try.ntmps5
      go_upto_region 15 with (first
        | (go_at_call 9; (with_reducible refine (awake_ _).mono ?_); rintro e w1 ⟨rfl, hb0⟩; have H0 := Lib.hid hb0; clear hb0)
        | (go_at_call 12; (with_reducible refine (c1 _).mono ?_); rintro e w2 ⟨rfl, hb2⟩; have H1 := Lib.hid ((H0.out.alloc H0.out.size _).trans (hb2.mono (by have := H0.out.size; simp only [World.size_alloc]; omega))); clear hb2)
        | (go_at_call 13; (with_reducible refine (c2 _).mono ?_); rintro e w3 ⟨rfl, hb2⟩; have H2 := Lib.hid (H1.out.trans (hb2.mono H1.out.size)); clear hb2))
      have hs3 := H2.out.size
      have hg0 : (w3.alloc (.cells (MC.row (P + 4) fun _ => .int .u8 0) 5)).heap[w3.heap.size]? = some (.cells (MC.row (P + 4) fun _ => .int .u8 0) 5 (0, 0)) := heap_alloc_new _ _
      have hb0 : Below w.heap.size w (w3.alloc (.cells (MC.row (P + 4) fun _ => .int .u8 0) 5)) := H2.out.alloc hs3 _
      have hs4 : (w3.alloc (.cells (MC.row (P + 4) fun _ => .int .u8 0) 5)).heap.size = w3.heap.size + 1 := by rw [World.size_alloc]
      generalize w3.alloc (.cells (MC.row (P + 4) fun _ => .int .u8 0) 5) = W at *
      generalize w3.heap.size = gb at *
      have HG0 := Lib.hid (show W.heap[gb]? = some (.cells (MC.row (P + 4) fun _ => Value.int .u8 0).toList.toArray 5 (0, 0)) by rw [Array.toArray_toList]; exact hg0)
      have HB0 := Lib.hid hb0
      have cby := bytes_ (W.alloc (.cells #[.int .u32 X] 22)).drew (.slice (some ⟨W.heap.size, 0, none⟩) 1 1) [X] (by simp) (.inr ⟨W.heap.size, 0, 1, rfl, by simp, fun j x hj => by match j, hj with | 0, hj => cases hj; exact Lib.cell_of_heap (heap_alloc_new W _) 0 | j + 1, hj => simp at hj⟩)
      have hlow := ((HB0.out.alloc HB0.out.size (.cells #[.int .u32 X] 22))).drew
      have HLOW := Lib.hid hlow
      have hsl : W.heap.size < (W.alloc (.cells #[.int .u32 X] 22)).heap.size := by simp
      have hmin := Lib.hid (show (u8s (bts [X])).length = Nat.min 4 4 by simp [u8s, bts, bs])
      have hfit := Lib.hid (show P + (u8s (bts [X])).length ≤ (MC.row (P + 4) fun _ => Value.int .u8 0).toList.length by simp [u8s, bts, bs, row_len])
      have hones := Lib.hid (u8_ones (bts [X]))
      have hgb1 : gb < (W.alloc (.cells #[.int .u32 X] 22)).drew.heap.size := by simp; omega
      have hgb2 : gb < W.heap.size := by omega
      have hwg : w.heap.size ≤ gb := hs3
      have hu8 : (Try.prog.info? 5).map (·.size) = some 1 := by kernel_rfl
      have hz1 : (0 : Int) ≤ (P : Int) := by omega
      have hz2 : (P : Int) ≤ ((P + 4 : Nat) : Int) := by omega
      have hz3 : (P : Int) ≤ (P : Int) + 4 := by omega
      clear hg0 hb0 hlow c1 c2 hmk H0 H1 H2
      have cbz : Calls Try.prog 15 #[.slice (some ⟨W.heap.size, 0, none⟩) 1 1] (W.alloc (.cells #[.int .u32 X] 22)).drew (Bz w gb P X) := by
        refine cby.mono ?_
        rintro e w8 ⟨v8, rfl, ho8, hb8⟩
        obtain ⟨g8, cap8, rfl, hg8, hcell8⟩ := MK.image_of ho8 (by simp) 4 rfl
        exact ⟨g8, cap8, rfl, hcell8, HLOW.out.trans (hb8.mono HLOW.out.size), (hb8.block gb hgb1).trans ((Lib.alloc_old _ _ _ hgb2).trans HG0.out)⟩
      clear cby hs4
      go_region_held3 (fun w' => True) (first | trivial | go_keep)
        ((first
          | (go_at_call 15; (with_reducible refine cbz.mono ?_); rintro e w8 ⟨g8, cap8, rfl, hc8, h8, hgb8⟩; have HC := Lib.hid (bytes_at hc8); have H8 := Lib.hid h8; have HGB := Lib.hid hgb8; clear hc8 h8 hgb8)
          | (refine step_copy_splice rfl _ _ 36 36 rfl 5 Try.underlying36 hu8 _ _ _ _ _ _ rfl rfl gb P (MC.row (P + 4) fun _ => .int .u8 0).toList 5 HGB.out (u8s (bts [X])) hmin.out (fun _ => ⟨rfl, _, rfl, HC.out⟩) hfit.out hones.out w.heap.size w H8.out hwg ?_; intro w9 hg9 hb9)))
      have hcell := splice_cells P X hg9.out
      have HC9 := Lib.hid hcell
      have H9 := Lib.hid hb9
      have hgl : gb < w9.heap.size := lt_of_get hg9.out
      have hu0 : (0 : Int) ≤ 0 := by omega
      have hu1 : (0 : Int) + MW.up ((P + 4 : Nat) : Int) ≤ 2097152 := by unfold MW.up; omega
      clear hg9 hb9 hcell HC
      have cl := MW.load_ok (P : Int) (by omega) gb 0 (P + 4) (P + 4) 0 (by omega) hu0 hu1 N HNN.out (fw P X) w9 hgl HC9.out
      go_wp2_with (first
        | (go_at_call 14; (with_reducible refine cl.mono ?_); rintro e w10 ⟨b, bm, rfl, A, hb, hbm, hb3⟩; have cg := MV.run_ A (inp_nil _ _ _ _) HFI.out (fun y hy => by simp at hy) (by have := HN1.out; omega) 1 (by omega) T HT.out (by have := HT1.out; omega); have H10 := Lib.hid (H9.out.trans (hb3.mono H9.out.size)); clear A hb3)
        | (go_at_call 16; (with_reducible refine cg.mono ?_); rintro e w11 ⟨p5, l5, c5, he, R⟩; rw [HT1.out] at he; subst he; have cpl := place_ R.at_; rw [HT2.out] at cpl; have HR := Lib.hid R; clear R cg)
        | (go_at_call 18; (with_reducible refine cpl.mono ?_); rintro e w' ⟨rfl, rfl⟩))
      go_ret
      refine ⟨rfl, ?_⟩
      have l1 := H10.out.size
      have l2 := H9.out.size
      exact H10.out.trans (HR.out.own.below (by omega) (by omega) (by omega))
    · obtain ⟨p1, p2⟩ := beq_far V P hV1 hP1 hfar
      have c1 := fun w => CE.encode_ 32 0 0 0 0 (by decide) w
      rw [beq0] at c1
      unfold CW.iv at c1
      have c2 := fun w => patch_ 5 (CE.encW 32 0 0 0 0) (V : Int) (P : Int) (CL.enc_bd _ _ _ _ _) (by omega) (by omega) w
      rw [p1, p2] at c2
      generalize CE.encW 32 0 0 0 0 = X0 at *
      by_cases g1 : (V : Int) - P ≥ -4096
      all_goals by_cases g2 : (V : Int) - P ≤ 4094
      all_goals try (exfalso; omega)
      all_goals
        clear p1 p2 hfar
        first
          | have f1 := decide_eq_true g1
          | have f1 := decide_eq_false g1
        first
          | have f2 := decide_eq_true g2
          | have f2 := decide_eq_false g2
        clear g1 g2
        go_enter Try.func5, Try.ntmps5
        go_wp2_with (first
          | (go_at_call 9; (with_reducible refine (awake_ _).mono ?_); rintro e w1 ⟨rfl, hb0⟩; have H0 := Lib.hid hb0; clear hb0)
          | (go_at_call 12; (with_reducible refine (c1 _).mono ?_); rintro e w2 ⟨rfl, hb2⟩; have H1 := Lib.hid ((H0.out.alloc H0.out.size _).trans (hb2.mono (by have := H0.out.size; simp only [World.size_alloc]; omega))); clear hb2)
          | (go_at_call 13; (with_reducible refine (c2 _).mono ?_); rintro e w3 ⟨rfl, hb2⟩; have H2 := Lib.hid (H1.out.trans (hb2.mono H1.out.size)); clear hb2))
        all_goals go_ret
        all_goals first
          | exact ⟨rfl, H2.out⟩
          | (exfalso; simp only [decide_eq_true_eq, decide_eq_false_iff_not] at f1 f2; omega)

set_option maxRecDepth 100000 in
theorem lifted (os : Os) (started : os.Started) (H : Type) (enc : TypeId × Value → H) :
    ReturnsInHanded {} Try.checked os 5 .any (Rows.patchJumpsSpec.pre6 enc Try.prog Try.f5 Rows.patchJumpsRow.domain false) (Rows.patchJumpsSpec.post enc Try.prog Try.f5 false true false false) := by
  refine returnsInHanded_of_change (C := Try.checked) own started (by kernel_rfl) Try.func5
    (ChangeSpec.witness6 (enc := enc) (C := Try.checked) false ⟨#[], #[.int .u16 0, .int .u16 0, .bool false], []⟩ 8 (by kernel_rfl) (by kernel_rfl) (by kernel_rfl) (by kernel_rfl)) ?_
  intro W base args ds gs before hval0 hW hcnd _
  have hval : ∀ (j : Nat) t v, Try.f5.params[j]? = some t → args[j]? = some v → Value.okWide Try.prog W .any base t v := hval0
  have hW' := hW
  obtain ⟨p, q, hA0, hV, rfl, hfz, hnd⟩ := hW
  have hA : DataW.TrodAll enc Try.prog W 0 (fun _ => true) true Try.f5.params.toList args.toList ds p := hA0
  rw [Try.params5] at hA hval
  obtain ⟨v0, vs0, d0, ds0, p0, q0, hargs, rfl, rfl, h0, r0⟩ := trodAll_cons hA
  obtain ⟨v1, vs1, d1, ds1, p1, q1, rfl, rfl, rfl, h1, r1⟩ := trodAll_cons r0
  obtain ⟨v2, vs2, d2, ds2, p2, q2, rfl, rfl, rfl, h2, r2⟩ := trodAll_cons r1
  obtain ⟨rfl, rfl, rfl⟩ := trodAll_nil r2
  obtain rfl : args = #[v0, v1, v2] := by cases args; simp_all
  obtain ⟨rfl, rfl⟩ := trodVars_none hV
  obtain ⟨a0, rfl, rfl, rfl, wa0⟩ := open_int Try.underlying47 (hval 0 47 v0 rfl rfl) h0
  obtain ⟨a1, rfl, rfl, rfl, wa1⟩ := open_int Try.underlying47 (hval 1 47 v1 rfl rfl) h1
  obtain ⟨b2, rfl, rfl, rfl⟩ := open_bool Try.underlying4 (hval 2 4 v2 rfl rfl) h2
  clear hA0 hval0
  simp only [List.append_nil] at hW'
  refine (walk a0 wa0 a1 wa1 b2 W ).mono fun e W' ⟨he, hg⟩ => ?_
  subst he
  exact ⟨_, rfl, _, _, _, [], [], [], hW', (trodAll_cons_mk (shut_bool Try.underlying4 _) trodAll_mk0), (trodAll_cons_mk (shut_int Try.underlying47 wa0) (trodAll_cons_mk (shut_int Try.underlying47 wa1) (trodAll_cons_mk (shut_bool Try.underlying4 b2) trodAll_mk0))), rfl, hg.frame _, fun h => by cases h⟩

theorem over : Rows.patchJumpsRow.holds Try.pinned (OpenSpec.ofChange Rows.patchJumpsSpec) :=
  OpenClaim.holds_of_wide 5 Try.f5 rfl rfl rfl rfl rfl rfl rfl ⟨rfl, rfl, rfl, rfl, rfl⟩ rfl rfl rfl rfl rfl (by kernel_rfl) Try.func5 (by kernel_rfl)
    (of_decide_eq_true (by kernel_rfl)) (by unfold Func.isWrapper; first | (rw [if_pos (by decide +kernel)]; kernel_rfl) | (rw [if_neg (by decide +kernel)]; exact ⟨rfl, rfl⟩))
    (fun os started H enc _ => lifted os started H enc)

/-- The statement. -/
theorem proved : Rows.PatchJumpsSaid :=
  over
end Go.Proofs.Ytieehjkmfmkfjab.patchJumps
