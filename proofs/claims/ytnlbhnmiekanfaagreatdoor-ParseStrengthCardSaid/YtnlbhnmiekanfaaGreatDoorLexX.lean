/-
  The reader: a token. Condition: the reader lies in memory, its text is not too long, and real.Parse answers at the reals' texts that may stand there.
-/
import Derived.Test.YtnlbhnmiekanfaaGreatDoorLexW
namespace Go.Proofs.YtnlbhnmiekanfaaGreatDoor
open Go.RowKit
set_option linter.unusedVariables false
set_option linter.unusedSimpArgs false
namespace LxC
open Lx
set_option maxRecDepth 100000 in
set_option maxHeartbeats 2000000 in
theorem clone_ (s : ByteArray) (w : World) (hs : s.size ≤ 100000) : Calls Tryz.prog 91 #[.string s] w fun e w' => e = .returned (.string s) ∧ Below w.heap.size w w' := by
  have c := fun w => Tryz.stringslite_Clone s w (by omega)
  go_enter Tryz.func91, Tryz.ntmps91
  go_wp2_with (go_at_call 133; (with_reducible refine (c _).mono ?_); rintro e w' ⟨rfl, hb⟩)
  go_ret
  exact ⟨rfl, hb⟩
theorem kind_ {n : Rg} {R k : Nat} {w1 W : World} {fs : Fs} {s : ByteArray} (h : RdAt n w1 R fs s k W) (h1 : k ≤ s.size) (hs : s.size ≤ 8192) (hP : Parses n.lo w1 s) {r : Option (Nat × Nat)} (hr : token (at_ s k) = r) :
    Calls Tryz.prog 90 #[.pointer (some ⟨R, 0, none⟩)] W (KPost n w1 R fs s k W r) := by
  rw [← hr]
  by_cases h2 : k < s.size
  · exact kind_in h h2 hs hP
  · exact kind_end h h1 (by omega) hs
theorem kind_no {n : Rg} {R k : Nat} {w1 W : World} {fs : Fs} {s : ByteArray} (h : RdAt n w1 R fs s k W) (h1 : k ≤ s.size) (hs : s.size ≤ 8192) (hP : Parses n.lo w1 s) (hr : token (at_ s k) = none) :
    Calls Tryz.prog 90 #[.pointer (some ⟨R, 0, none⟩)] W fun e w' => e = thrown (k : Int) 10 ∧ W.grownBy w' (some R) := (kind_ h h1 hs hP hr).mono fun e w' h => h
theorem kind_yes {n : Rg} {R k kd m : Nat} {w1 W : World} {fs : Fs} {s : ByteArray} (h : RdAt n w1 R fs s k W) (h1 : k ≤ s.size) (hs : s.size ≤ 8192) (hP : Parses n.lo w1 s) (hr : token (at_ s k) = some (kd, m)) :
    Calls Tryz.prog 90 #[.pointer (some ⟨R, 0, none⟩)] W fun e w' => e = .returned (.int .i64 (kd : Int)) ∧ RdAt n w1 R fs s (k + m) w' ∧ W.grownBy w' (some R) := (kind_ h h1 hs hP hr).mono fun e w' h => h
theorem set3_blk (w : World) (B R : Nat) (h : R ≠ B) (x y z : Value) : (((w.setCell ⟨B, 0, none⟩ x).setCell ⟨B, 1, none⟩ y).setCell ⟨B, 2, none⟩ z).heap[R]? = w.heap[R]? := by
  rw [heap_setCell_other _ ⟨B, 2, none⟩ _ _ h, heap_setCell_other _ ⟨B, 1, none⟩ _ _ h, heap_setCell_other _ ⟨B, 0, none⟩ _ _ h]
theorem set3_keep (w : World) (B R : Nat) (h : R ≠ B) (x y z : Value) {u v : Value} (k : w.cell? ⟨R, 0, none⟩ = some u ∧ w.cell? ⟨R, 1, none⟩ = some v) :
    (((w.setCell ⟨B, 0, none⟩ x).setCell ⟨B, 1, none⟩ y).setCell ⟨B, 2, none⟩ z).cell? ⟨R, 0, none⟩ = some u ∧ (((w.setCell ⟨B, 0, none⟩ x).setCell ⟨B, 1, none⟩ y).setCell ⟨B, 2, none⟩ z).cell? ⟨R, 1, none⟩ = some v :=
  ⟨(World.cell?_of_block (w := w) (a := ⟨R, 0, none⟩) (set3_blk w B R h x y z)).trans k.1, (World.cell?_of_block (w := w) (a := ⟨R, 1, none⟩) (set3_blk w B R h x y z)).trans k.2⟩
theorem set3_same (w : World) (B : Nat) (T : TypeId) (a b c x y z : Value) (h : w.heap[B]? = some (.cells #[a, b, c] T (0, 0))) :
    (((w.setCell ⟨B, 0, none⟩ x).setCell ⟨B, 1, none⟩ y).setCell ⟨B, 2, none⟩ z).heap[B]? = some (.cells #[x, y, z] T (0, 0)) :=
  heap_setCell_same _ _ 2 _ _ _ (heap_setCell_same _ _ 1 _ _ _ (heap_setCell_same _ _ 0 _ _ _ h))
theorem set3_gb (w : World) (B : Nat) (x y z : Value) : w.grownBy (((w.setCell ⟨B, 0, none⟩ x).setCell ⟨B, 1, none⟩ y).setCell ⟨B, 2, none⟩ z) (some B) := gb_trans (gb_trans (gb_set _) (gb_set _)) (gb_set _)
abbrev TT : TypeId := 118
set_option maxRecDepth 100000 in
set_option maxHeartbeats 4000000 in
theorem token_gap {n : Rg} {R k g : Nat} {w1 W : World} {fs : Fs} {s : ByteArray} (h : RdAt n w1 R fs s k W) (hk : k ≤ s.size) (hs : s.size ≤ 8192) (hg : gp (at_ s k) = (false, g)) :
    Calls Tryz.prog 63 #[.pointer (some ⟨R, 0, none⟩)] W fun e w' => e = thrown ((k + g : Nat) : Int) 10 ∧ W.grownBy w' (some R) := by
  have hb0 : Below W.heap.size W (W.alloc (.cells #[.int .i64 0, .string ⟨#[]⟩, .int .i64 0] TT)) := (Below.refl _ _).alloc (Nat.le_refl _) _
  have c1 : Calls Tryz.prog 89 #[.pointer (some ⟨R, 0, none⟩)] (W.alloc (.cells #[.int .i64 0, .string ⟨#[]⟩, .int .i64 0] TT)) fun e w' => e = thrown ((k + g : Nat) : Int) 10 ∧ (W.alloc (.cells #[.int .i64 0, .string ⟨#[]⟩, .int .i64 0] TT)).grownBy w' (some R) := (between_ (h.below hb0) hk hs hg).mono fun e w' h => h
  have HB := Lib.hid hb0
  clear h hg hb0
  go_enter Tryz.func63, Tryz.ntmps63
  go_wp2_with (go_at_call 89; (with_reducible refine c1.mono ?_); rintro e w2 ⟨rfl, g2⟩)
  exact ⟨rfl, by simp, gb_trans (gb_below HB.out) g2⟩
set_option maxRecDepth 100000 in
set_option maxHeartbeats 4000000 in
theorem token_none {n : Rg} {R k g : Nat} {w1 W : World} {fs : Fs} {s : ByteArray} (h : RdAt n w1 R fs s k W) (hk : k ≤ s.size) (hs : s.size ≤ 8192) (hg : gp (at_ s k) = (true, g)) (hP : Parses n.lo w1 s) (ht : token (at_ s (k + g)) = none) :
    Calls Tryz.prog 63 #[.pointer (some ⟨R, 0, none⟩)] W fun e w' => e = thrown ((k + g : Nat) : Int) 10 ∧ W.grownBy w' (some R) := by
  have hb0 : Below W.heap.size W (W.alloc (.cells #[.int .i64 0, .string ⟨#[]⟩, .int .i64 0] TT)) := (Below.refl _ _).alloc (Nat.le_refl _) _
  have c1 : Calls Tryz.prog 89 #[.pointer (some ⟨R, 0, none⟩)] (W.alloc (.cells #[.int .i64 0, .string ⟨#[]⟩, .int .i64 0] TT)) fun e w' => e = .returned (.tuple #[]) ∧ RdAt n w1 R fs s (k + g) w' ∧ (W.alloc (.cells #[.int .i64 0, .string ⟨#[]⟩, .int .i64 0] TT)).grownBy w' (some R) := (between_ (h.below hb0) hk hs hg).mono fun e w' h => h
  have hgl : k + g ≤ s.size := by
    have := gp_le (at_ s k)
    rw [hg, at_len] at this
    simp only at this; omega
  have HB := Lib.hid hb0
  have HP := Lib.hid hP
  have HT := Lib.hid ht
  clear h hg hb0 hP ht
  go_enter Tryz.func63, Tryz.ntmps63
  go_wp2_with (first
    | (go_at_call 89; (with_reducible refine c1.mono ?_); rintro e w2 ⟨rfl, h2, g2⟩; have c2 := kind_no h2 hgl hs HP.out HT.out; have j1 : w2.cell? ⟨R, 1, none⟩ = some (.int .i64 ((k + g : Nat) : Int)) := Lib.cell_of_heap h2.blk 1; have H2 := Lib.hid h2; have G2 := Lib.hid g2; clear h2 g2 c1)
    | (go_at_call 90; (with_reducible refine c2.mono ?_); rintro e w3 ⟨rfl, g3⟩))
  exact ⟨rfl, by simp, gb_trans (gb_below HB.out) (gb_trans G2.out g3)⟩
set_option maxRecDepth 100000 in
set_option maxHeartbeats 8000000 in
theorem token_some {n : Rg} {R k g kd m : Nat} {w1 W : World} {fs : Fs} {s : ByteArray} (h : RdAt n w1 R fs s k W) (hk : k ≤ s.size) (hs : s.size ≤ 8192) (hg : gp (at_ s k) = (true, g)) (hP : Parses n.lo w1 s) (ht : token (at_ s (k + g)) = some (kd, m)) (hm : k + g + m ≤ s.size) :
    Calls Tryz.prog 63 #[.pointer (some ⟨R, 0, none⟩)] W fun e w' => e = .returned (.agg #[.int .i64 (kd : Int), .string (s.extract (k + g) (k + g + m)), .int .i64 ((k + g : Nat) : Int)]) ∧ RdAt n w1 R fs s (k + g + m) w' ∧ W.grownBy w' (some R) := by
  have hb0 : Below W.heap.size W (W.alloc (.cells #[.int .i64 0, .string ⟨#[]⟩, .int .i64 0] TT)) := (Below.refl _ _).alloc (Nat.le_refl _) _
  have hx := heap_alloc_new W (.cells #[.int .i64 0, .string ⟨#[]⟩, .int .i64 0] TT)
  have c1 : Calls Tryz.prog 89 #[.pointer (some ⟨R, 0, none⟩)] (W.alloc (.cells #[.int .i64 0, .string ⟨#[]⟩, .int .i64 0] TT)) fun e w' => e = .returned (.tuple #[]) ∧ RdAt n w1 R fs s (k + g) w' ∧ (W.alloc (.cells #[.int .i64 0, .string ⟨#[]⟩, .int .i64 0] TT)).grownBy w' (some R) := (between_ (h.below hb0) hk hs hg).mono fun e w' h => h
  have hgl : k + g ≤ s.size := by omega
  have hR := h.lt
  have HB := Lib.hid hb0
  have HX := Lib.hid hx
  have HP := Lib.hid hP
  have HT := Lib.hid ht
  clear h hg hb0 hP ht hx
  obtain ⟨q, hq⟩ : ∃ q, k + g = q := ⟨_, rfl⟩
  rw [hq] at c1 hgl hm ⊢
  have HT' : Hid (token (at_ s q) = some (kd, m)) := by rw [← hq]; exact HT.out
  clear hq HT
  go_enter Tryz.func63, Tryz.ntmps63
  go_upto_region 4 with (first
    | (go_at_call 89; (with_reducible refine c1.mono ?_); rintro e w2 ⟨rfl, h2, g2⟩; have c2 := kind_yes h2 hgl hs HP.out HT'.out; have j1 : w2.cell? ⟨R, 1, none⟩ = some (.int .i64 (q : Int)) := Lib.cell_of_heap h2.blk 1; have H2 := Lib.hid h2; have G2 := Lib.hid g2; clear h2 g2 c1)
    | (go_at_call 90; (with_reducible refine c2.mono ?_); rintro e w3 ⟨rfl, h3, g3⟩; have H3 := Lib.hid h3; have G3 := Lib.hid g3; clear h3 g3 c2))
  have k0 : w3.cell? ⟨R, 0, none⟩ = some (.string s) := Lib.cell_of_heap H3.out.blk 0
  have k1 : w3.cell? ⟨R, 1, none⟩ = some (.int .i64 ((q + m : Nat) : Int)) := Lib.cell_of_heap H3.out.blk 1
  have hW0 : (W.alloc (.cells #[.int .i64 0, .string ⟨#[]⟩, .int .i64 0] TT)).heap.size = W.heap.size + 1 := by simp
  have hB3 : w3.heap[W.heap.size]? = some (.cells #[.int .i64 0, .string ⟨#[]⟩, .int .i64 0] TT (0, 0)) :=
    ((gb_trans G2.out G3.out).block _ (by rw [hW0]; omega) (by intro e; have := Option.some.inj e; omega)).trans HX.out
  have HB3 := Lib.hid hB3
  clear j1 H2
  have q1 : (0 : Int) ≤ (q : Int) := by omega
  have q2 : (q : Int) ≤ ((q + m : Nat) : Int) := by omega
  have q3 : ((q + m : Nat) : Int) ≤ (s.size : Int) := by omega
  have hsl1 : ∀ w, (Instr.slice 9 (.string s) (some (.int .i64 (q : Int))) (some (.int .i64 ((q + m : Nat) : Int))) none).run Tryz.prog w = .ok (.string (s.extract q (q + m))) w := fun w =>
    run_slice_string (P := Tryz.prog) w 9 s .i64 .i64 (q : Int) ((q + m : Nat) : Int) Tryz.underlying9 q1 q2 q3
  have hsl2 : ∀ w, (Instr.slice 9 (.string s) (some (.int .i64 (q : Int))) (some (.int .i64 ((q : Int) + (m : Int)))) none).run Tryz.prog w = .ok (.string (s.extract q (q + m))) w := fun w =>
    run_slice_string (P := Tryz.prog) w 9 s .i64 .i64 (q : Int) ((q + m : Nat) : Int) Tryz.underlying9 q1 q2 q3
  have cc := clone_ (s.extract q (q + m)) w3.drew (by rw [ByteArray.size_extract]; omega)
  have hlt3 := H3.out.lt
  have hlt4 : W.heap.size < w3.heap.size := (Array.getElem?_eq_some_iff.1 hB3).1
  have KC := Lib.hid (fun (W' : World) (hb : Below w3.heap.size w3 W') => (⟨Lib.cell_of_heap ((hb.block _ hlt3).trans H3.out.blk) 0, Lib.cell_of_heap ((hb.block _ hlt3).trans H3.out.blk) 1⟩ : W'.cell? ⟨R, 0, none⟩ = some (.string s) ∧ W'.cell? ⟨R, 1, none⟩ = some (.int .i64 ((q + m : Nat) : Int))))
  go_region_held3 (fun w' => w'.cell? ⟨R, 0, none⟩ = some (.string s) ∧ w'.cell? ⟨R, 1, none⟩ = some (.int .i64 ((q + m : Nat) : Int))) (first | exact KC.out _ (Below.refl _ _) | exact KC.out _ (Below.refl _ _).drew | exact KC.out _ HB4.out | exact set3_keep _ _ _ (by omega) _ _ _ (KC.out _ HB4.out) | go_keep)
    ((go_at_call 91; (with_reducible refine cc.mono ?_); rintro e w4 ⟨rfl, hb4⟩; have HB4 : Hid (Below w3.heap.size w3 w4) := Lib.hid ((Below.refl w3.heap.size w3).drew.trans (show Below w3.heap.size w3.drew w4 from hb4)); have y := (HB4.out.block _ hlt4).trans HB3.out; have b0 : w4.cell? ⟨W.heap.size, 0, none⟩ = some (.int .i64 0) := Lib.cell_of_heap y 0; have b1 : w4.cell? ⟨W.heap.size, 1, none⟩ = some (.string ⟨#[]⟩) := Lib.cell_of_heap y 1; have b2 : w4.cell? ⟨W.heap.size, 2, none⟩ = some (.int .i64 0) := Lib.cell_of_heap y 2; have f0 : w4.frozen? ⟨W.heap.size, 0, none⟩ = false := Lib.frozen_of_heap y 0; have f1 : w4.frozen? ⟨W.heap.size, 1, none⟩ = false := Lib.frozen_of_heap y 1; have f2 : w4.frozen? ⟨W.heap.size, 2, none⟩ = false := Lib.frozen_of_heap y 2; have HY := Lib.hid y; clear hb4 y))
  have y5 := set3_same w4 W.heap.size TT _ _ _ (.int .i64 (kd : Int)) (.string (s.extract q (q + m))) (.int .i64 (q : Int)) HY.out
  have h5 : RdAt n w1 R fs s (q + m) (((w4.setCell ⟨W.heap.size, 0, none⟩ (.int .i64 (kd : Int))).setCell ⟨W.heap.size, 1, none⟩ (.string (s.extract q (q + m)))).setCell ⟨W.heap.size, 2, none⟩ (.int .i64 (q : Int))) := by
    have h4 := H3.out.below HB4.out
    have hnB : n.hi ≤ W.heap.size := by have := h4.nR; omega
    refine ⟨h4.ok, h4.base, h4.lh, h4.nR, ((h4.bel.set _ (.inl hnB)).set _ (.inl hnB)).set _ (.inl hnB), ?_⟩
    rw [set3_blk _ _ _ (by omega)]; exact h4.blk
  have g5 : W.grownBy (((w4.setCell ⟨W.heap.size, 0, none⟩ (.int .i64 (kd : Int))).setCell ⟨W.heap.size, 1, none⟩ (.string (s.extract q (q + m)))).setCell ⟨W.heap.size, 2, none⟩ (.int .i64 (q : Int))) (some R) := by
    have ga : W.grownBy w4 (some R) := gb_trans (gb_below HB.out) (gb_trans G2.out (gb_trans G3.out (gb_below HB4.out)))
    have gs := set3_gb w4 W.heap.size (.int .i64 (kd : Int)) (.string (s.extract q (q + m))) (.int .i64 (q : Int))
    exact ⟨gs.os.trans ga.os, gs.tape.trans ga.tape, gs.output.trans ga.output, Nat.le_trans ga.size gs.size, fun i hi hr => (gs.block i (Nat.lt_of_lt_of_le hi ga.size) (by intro e; have := Option.some.inj e; omega)).trans (ga.block i hi hr)⟩
  have Y5 := Lib.hid y5
  have H5 := Lib.hid h5
  have G5 := Lib.hid g5
  clear y5 h5 g5 b0 b1 b2 f0 f1 f2 k0 k1 cc hsl1 hsl2 HY
  generalize (((w4.setCell ⟨W.heap.size, 0, none⟩ (.int .i64 (kd : Int))).setCell ⟨W.heap.size, 1, none⟩ (.string (s.extract q (q + m)))).setCell ⟨W.heap.size, 2, none⟩ (.int .i64 (q : Int))) = W5 at *
  have r0 : W5.cell? ⟨W.heap.size, 0, none⟩ = some (.int .i64 (kd : Int)) := Lib.cell_of_heap Y5.out 0
  have r1 : W5.cell? ⟨W.heap.size, 1, none⟩ = some (.string (s.extract q (q + m))) := Lib.cell_of_heap Y5.out 1
  have r2 : W5.cell? ⟨W.heap.size, 2, none⟩ = some (.int .i64 (q : Int)) := Lib.cell_of_heap Y5.out 2
  go_wp2_with fail
  exact bodyPost_ret (v := .agg #[.int .i64 (kd : Int), .string (s.extract q (q + m)), .int .i64 (q : Int)]) (by simp [results, Tryz.results63, go_sem, r0, r1, r2]) rfl ⟨rfl, H5.out, G5.out⟩
end LxC
end Go.Proofs.YtnlbhnmiekanfaaGreatDoor
