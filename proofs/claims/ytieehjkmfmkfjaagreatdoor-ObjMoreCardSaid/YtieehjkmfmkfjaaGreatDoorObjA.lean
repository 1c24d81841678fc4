/-
  The statements' fixed fact holds. Condition: Go's own variables hold what its text lays.
-/
import Derived.Test.YtieehjkmfmkfjaaGreatDoorObjT
namespace Go.Proofs.YtieehjkmfmkfjaaGreatDoor
open Go.RowKit
set_option linter.unusedVariables false
set_option linter.unusedSimpArgs false
namespace OA
open OL OO OP OF OW OQ OJ OS OT
abbrev word : ByteArray := ⟨#[111, 98, 106, 101, 99, 116, 10]⟩
theorem cut_word : Lib.cut word.data.toList [10] = ([111, 98, 106, 101, 99, 116], [], true) := by decide
abbrev zeroO : Obj := .cells #[.slice none 0 0, .slice none 0 0, .slice none 0 0, .slice none 0 0] TO
set_option maxRecDepth 100000 in
set_option maxHeartbeats 4000000 in
theorem object_word {B r : Nat} {w : World} (h : Rd r word w) (hL : ∀ w', Below B w w' → Laid w') (hBr : B ≤ r) :
    Calls Tryz.prog 30 #[.pointer (some ⟨r, 0, none⟩)] w fun e w' => e = thrown ∧ RF r w w' := by
  have hr := lt_of_get h
  have hB : Below w.heap.size w ((w.alloc zeroO).alloc zeroO) := ((Below.refl _ _).alloc (Nat.le_refl _) _).alloc (by simp) _
  have c1 := rline (h.below hB) (hL _ (hB.mono (by omega))) (by decide) _ _ cut_word
  have HF := Lib.hid (RF.of (r := r) (by omega) hB)
  have HL := Lib.hid hL
  clear hL hB h
  go_enter Tryz.func30, Tryz.ntmps30
  go_upto_region 3 with (first
    | (go_at_call 57; (with_reducible refine c1.mono ?_); rintro e w1 ⟨rfl, h1, f1⟩; have H1 := Lib.hid h1; have F1 := Lib.hid f1; clear h1 f1 c1)
    | (go_at_call 53; (with_reducible refine (demand_yes _).mono ?_); rintro e w1 ⟨rfl, rfl⟩))
  have c2 := fun k => count_no H1.out (HL.out _ ((HF.out.trans F1.out).below.mono hBr)) (by decide) (by decide) ⟨#[116, 101, 120, 116]⟩ k
  go_wp2_with (go_at_call 58; (with_reducible refine (c2 _).mono ?_); rintro e w2 ⟨rfl, n, rfl⟩)
  exact ⟨rfl, rfl, (HF.out.trans F1.out).trans (RF.drewN _ _ _)⟩
set_option maxRecDepth 100000 in
set_option maxHeartbeats 4000000 in
theorem parse1_word {b1 b4 : Nat} {w : World} (h : w.heap[b1]? = some (.cells #[.string word] 9 (0, 0))) (hL : Laid w) :
    Calls Tryz.prog 29 #[.pointer (some ⟨b1, 0, none⟩), .pointer (some ⟨b4, 0, none⟩)] w fun e w' => e = thrown ∧ Below w.heap.size w w' := by
  have c0 : w.cell? ⟨b1, 0, none⟩ = some (.string word) := Lib.cell_of_heap h 0
  have c1 := object_word (B := w.heap.size) (r := w.heap.size) (w := w.alloc (.cells #[.string word] TR)) (heap_alloc_new w _) (fun w' hb => hL.on (((Below.refl _ _).alloc (Nat.le_refl _) _).trans hb)) (Nat.le_refl _)
  clear h hL
  go_enter Tryz.func29, Tryz.ntmps29
  go_wp2_with (go_at_call 30; (with_reducible refine c1.mono ?_); rintro e w2 ⟨rfl, hf⟩)
  exact ⟨rfl, rfl, ((Below.refl _ _).alloc (Nat.le_refl _) _).trans hf.below⟩
set_option maxRecDepth 100000 in
set_option maxHeartbeats 4000000 in
theorem parse_word (w : World) (hL : Laid w) :
    Calls Tryz.prog 15 #[.string word] w fun e w' => e = .returned (.tuple #[nil4, .int .i64 2]) ∧ Below w.heap.size w w' := by
  have hmf : ∀ (fn : Fn) (first cap : Array Value) (w : World), (Instr.makeFunc fn first cap).run Tryz.prog w = .ok (.func fn first cap) w := fun _ _ _ _ => rfl
  have hB : Below w.heap.size w (((w.alloc (.cells #[.string word] 9)).alloc zeroO).alloc zeroO) := (((Below.refl _ _).alloc (Nat.le_refl _) _).alloc (by simp) _).alloc (by simp; omega) _
  have h1 : (((w.alloc (.cells #[.string word] 9)).alloc zeroO).alloc zeroO).heap[w.heap.size]? = some (.cells #[.string word] 9 (0, 0)) :=
    (Lib.alloc_old _ _ _ (by simp; omega)).trans ((Lib.alloc_old _ _ _ (by simp)).trans (heap_alloc_new w _))
  have h2 : (((w.alloc (.cells #[.string word] 9)).alloc zeroO).alloc zeroO).heap[w.heap.size + 1]? = some zeroO := by
    rw [Lib.alloc_old _ _ _ (by simp)]
    have := heap_alloc_new (w.alloc (.cells #[.string word] 9)) zeroO
    rwa [World.size_alloc] at this
  have h4 : (((w.alloc (.cells #[.string word] 9)).alloc zeroO).alloc zeroO).heap[w.heap.size + 2]? = some zeroO := by
    have := heap_alloc_new ((w.alloc (.cells #[.string word] 9)).alloc zeroO) zeroO
    rwa [World.size_alloc, World.size_alloc] at this
  have hz : (((w.alloc (.cells #[.string word] 9)).alloc zeroO).alloc zeroO).heap.size = w.heap.size + 3 := by simp
  have HB := Lib.hid hB
  have HL := Lib.hid hL
  go_enter Tryz.func15, Tryz.ntmps15
  go_upto_region 2 with (fail)
  generalize ((w.alloc (.cells #[.string word] 9)).alloc zeroO).alloc zeroO = W at *
  have c1 := fault_bad_parse w.heap.size (w.heap.size + 2) W (fun w1 => Below W.heap.size W w1) ((parse1_word ((Lib.alloc_old _ _ _ (by omega)).trans h1) ((HL.out.on HB.out).on ((Below.refl _ _).alloc (Nat.le_refl _) _))).mono fun e w' ⟨he, hb⟩ => ⟨he, (hb.block _ (by simp)).trans (heap_alloc_new _ _), ((Below.refl _ _).alloc (Nat.le_refl _) _).trans (hb.mono (by simp))⟩)
  clear hB hL h1
  go_upto_region 3 with (go_at_call 25; (with_reducible refine c1.mono ?_); rintro e w1 ⟨rfl, w2, hw2, hw1⟩; have HW := Lib.hid hw1; have H2 := Lib.hid hw2; clear hw1 hw2 c1)
  have hb2 : Below W.heap.size W w1 := by
    rw [HW.out]
    have hs := H2.out.size
    exact (H2.out.setCell (p := ⟨_, 0, none⟩) (Nat.le_refl _) _).alloc (by rw [World.size_setCell]; exact hs) _
  have k2 := (hb2.block _ (by omega)).trans h2
  have k4 := (hb2.block _ (by omega)).trans h4
  obtain ⟨a0, a1, a2, a3⟩ : w1.cell? ⟨w.heap.size + 2, 0, none⟩ = some (.slice none 0 0) ∧ w1.cell? ⟨w.heap.size + 2, 1, none⟩ = some (.slice none 0 0) ∧ w1.cell? ⟨w.heap.size + 2, 2, none⟩ = some (.slice none 0 0) ∧ w1.cell? ⟨w.heap.size + 2, 3, none⟩ = some (.slice none 0 0) :=
    ⟨Lib.cell_of_heap k4 0, Lib.cell_of_heap k4 1, Lib.cell_of_heap k4 2, Lib.cell_of_heap k4 3⟩
  obtain ⟨d0, d1, d2, d3⟩ : w1.cell? ⟨w.heap.size + 1, 0, none⟩ = some (.slice none 0 0) ∧ w1.cell? ⟨w.heap.size + 1, 1, none⟩ = some (.slice none 0 0) ∧ w1.cell? ⟨w.heap.size + 1, 2, none⟩ = some (.slice none 0 0) ∧ w1.cell? ⟨w.heap.size + 1, 3, none⟩ = some (.slice none 0 0) :=
    ⟨Lib.cell_of_heap k2 0, Lib.cell_of_heap k2 1, Lib.cell_of_heap k2 2, Lib.cell_of_heap k2 3⟩
  have e0 : w1.frozen? ⟨w.heap.size + 1, 0, none⟩ = false := Lib.frozen_of_heap k2 0
  have e1 : w1.frozen? ⟨w.heap.size + 1, 1, none⟩ = false := Lib.frozen_of_heap k2 1
  have e2 : w1.frozen? ⟨w.heap.size + 1, 2, none⟩ = false := Lib.frozen_of_heap k2 2
  have e3 : w1.frozen? ⟨w.heap.size + 1, 3, none⟩ = false := Lib.frozen_of_heap k2 3
  have HB2 := Lib.hid hb2
  clear hb2 k2 k4 HW
  go_wp2_with fail
  refine bodyPost_ret (v := .tuple #[nil4, .int .i64 2]) (by simp [results, Tryz.results15, go_sem, d0, d1, d2, d3]) rfl ⟨rfl, ?_⟩
  have hB3 := HB.out.trans (HB2.out.mono (by omega))
  exact (((hB3.setCell (p := ⟨_, 0, none⟩) (by show _ ≤ w.heap.size + 1; omega) _).setCell (p := ⟨_, 1, none⟩) (by show _ ≤ w.heap.size + 1; omega) _).setCell (p := ⟨_, 2, none⟩) (by show _ ≤ w.heap.size + 1; omega) _).setCell (p := ⟨_, 3, none⟩) (by show _ ≤ w.heap.size + 1; omega) _
set_option maxRecDepth 100000 in
set_option maxHeartbeats 4000000 in
theorem awake_ (w : World) (hL : Laid w) :
    Calls Tryz.prog 8 #[] w fun e w' => e = .returned (.bool true) ∧ Below w.heap.size w w' := by
  have c1 := print_none hL
  rw [objL_none] at c1
  have HL := Lib.hid hL
  clear hL
  go_enter Tryz.func8, Tryz.ntmps8
  go_upto_region 2 with (go_at_call 11; (with_reducible refine c1.mono ?_); rintro e w1 ⟨rfl, hb1⟩; have HB := Lib.hid hb1; clear hb1 c1)
  have c2 := parse_word w1 (HL.out.on HB.out)
  go_wp2_with (go_at_call 15; (with_reducible refine c2.mono ?_); rintro e w2 ⟨rfl, hb2⟩; have HB2 := Lib.hid hb2; clear hb2 c2)
  all_goals
    go_ret
    exact ⟨by first | rfl | decide, ((HB.out.trans (HB2.out.mono HB.out.size)).alloc (Nat.le_trans HB.out.size HB2.out.size) _)⟩
end OA
end Go.Proofs.YtieehjkmfmkfjaaGreatDoor
