/-
  At any place, of any symbol and any relocation, the law LayoutAddresses returns true: their addresses are the document's.
  Conditions: none beyond those of the given statement.
-/
import Derived.Test.YtaocclgnpphjfaaRows
import Derived.Test.YtaocclgnpphjfaaLayQ
import Derived.Test.YtaocclgnpphjfaaObjI
import Derived.BigQuiet
import Derived.WalkSpells
import Derived.WalkKit
import Derived.ProofKit
import Derived.OpenShut
namespace Go.Proofs.Ytaocclgnpphjfaa.layoutAddresses
open Go.ChangeShapes Go.WideShapes Go.ChangeAt Go.RowKit
set_option linter.unusedVariables false
set_option linter.unusedSimpArgs false

theorem own : ownKnob Try.prog.godebug = none := by kernel_rfl
open LM OO LL LC LP LQ OI
def dst (i : Nat) : Nat := if i = 25 then 6 else 7 + i
theorem dst_inj (i j : Nat) (hi : i < 26) (hj : j < 26) (h : dst i = dst j) : i = j := by
  unfold dst at h
  split at h <;> split at h <;> omega

set_option maxRecDepth 100000 in
set_option maxHeartbeats 8000000 in
theorem walk (a0 b0 : Int) (s1 : OO.SymV) (r2_ : OO.RelV) (w : World) (ha0 : OO.I64 a0) (hb0 : OO.I64 b0) (hs1 : s1.Wf) (hr2 : r2_.Wf) :
    Calls Try.prog 10 #[.agg #[.int .i64 a0, .int .i64 b0], .agg #[.string s1.name, .int .i64 s1.sect, .int .i64 s1.val, .int .i64 s1.frame, .bool s1.glob], .agg #[.int .i64 r2_.sect, .int .i64 r2_.place, .int .i64 r2_.kind, .int .i64 r2_.sym, .int .i64 r2_.add]] w fun e w' => e = .returned (.bool true) ∧ Below w.heap.size w w' := by
  obtain ⟨nm, sc, vl, fr, gl⟩ := s1
  obtain ⟨sc2, pl2, kd2, sy2, ad2⟩ := r2_
  have cX := Address_ a0 b0 ⟨nm, sc, vl, fr, gl⟩
  have dX := At_ a0 b0 sc vl
  have cY := Where_ a0 b0 ⟨sc2, pl2, kd2, sy2, ad2⟩
  have dY := At_ a0 b0 sc2 pl2
  simp only at cX dX cY dY ⊢
  clear ha0 hb0 hs1 hr2
  generalize adr a0 b0 sc vl = X at *
  generalize adr a0 b0 sc2 pl2 = Y at *
  have y0 : (((w.alloc (.cells #[.int .i64 a0, .int .i64 b0] 65)).alloc (.cells #[.string nm, .int .i64 sc, .int .i64 vl, .int .i64 fr, .bool gl] 52)).alloc (.cells #[.int .i64 sc2, .int .i64 pl2, .int .i64 kd2, .int .i64 sy2, .int .i64 ad2] 69)).heap[w.heap.size]? = some (.cells #[.int .i64 a0, .int .i64 b0] 65 (0, 0)) := (Lib.alloc_old _ _ _ (by simp; omega)).trans ((Lib.alloc_old _ _ _ (by simp)).trans (heap_alloc_new w _))
  have y1 : (((w.alloc (.cells #[.int .i64 a0, .int .i64 b0] 65)).alloc (.cells #[.string nm, .int .i64 sc, .int .i64 vl, .int .i64 fr, .bool gl] 52)).alloc (.cells #[.int .i64 sc2, .int .i64 pl2, .int .i64 kd2, .int .i64 sy2, .int .i64 ad2] 69)).heap[w.heap.size + 1]? = some (.cells #[.string nm, .int .i64 sc, .int .i64 vl, .int .i64 fr, .bool gl] 52 (0, 0)) := (Lib.alloc_old _ _ _ (by simp)).trans (by have := heap_alloc_new (w.alloc (.cells #[.int .i64 a0, .int .i64 b0] 65)) (.cells #[.string nm, .int .i64 sc, .int .i64 vl, .int .i64 fr, .bool gl] 52); rwa [World.size_alloc] at this)
  have y2 : (((w.alloc (.cells #[.int .i64 a0, .int .i64 b0] 65)).alloc (.cells #[.string nm, .int .i64 sc, .int .i64 vl, .int .i64 fr, .bool gl] 52)).alloc (.cells #[.int .i64 sc2, .int .i64 pl2, .int .i64 kd2, .int .i64 sy2, .int .i64 ad2] 69)).heap[w.heap.size + 1 + 1]? = some (.cells #[.int .i64 sc2, .int .i64 pl2, .int .i64 kd2, .int .i64 sy2, .int .i64 ad2] 69 (0, 0)) := by have := heap_alloc_new ((w.alloc (.cells #[.int .i64 a0, .int .i64 b0] 65)).alloc (.cells #[.string nm, .int .i64 sc, .int .i64 vl, .int .i64 fr, .bool gl] 52)) (.cells #[.int .i64 sc2, .int .i64 pl2, .int .i64 kd2, .int .i64 sy2, .int .i64 ad2] 69); rwa [World.size_alloc, World.size_alloc] at this
  have hB : Below w.heap.size w (((w.alloc (.cells #[.int .i64 a0, .int .i64 b0] 65)).alloc (.cells #[.string nm, .int .i64 sc, .int .i64 vl, .int .i64 fr, .bool gl] 52)).alloc (.cells #[.int .i64 sc2, .int .i64 pl2, .int .i64 kd2, .int .i64 sy2, .int .i64 ad2] 69)) := (((Below.refl _ _).alloc (Nat.le_refl _) _).alloc (by simp only [World.size_alloc]; omega) _).alloc (by simp only [World.size_alloc]; omega) _
  have hsz : (((w.alloc (.cells #[.int .i64 a0, .int .i64 b0] 65)).alloc (.cells #[.string nm, .int .i64 sc, .int .i64 vl, .int .i64 fr, .bool gl] 52)).alloc (.cells #[.int .i64 sc2, .int .i64 pl2, .int .i64 kd2, .int .i64 sy2, .int .i64 ad2] 69)).heap.size = w.heap.size + 1 + 1 + 1 := by simp only [World.size_alloc]
  have HB1 := Lib.hid hB
  clear hB
  go_enter Try.func10, Try.ntmps10
  go_upto_region 1 with fail
  generalize ((w.alloc (.cells #[.int .i64 a0, .int .i64 b0] 65)).alloc (.cells #[.string nm, .int .i64 sc, .int .i64 vl, .int .i64 fr, .bool gl] 52)).alloc (.cells #[.int .i64 sc2, .int .i64 pl2, .int .i64 kd2, .int .i64 sy2, .int .i64 ad2] 69) = W at *
  have KC := Lib.hid (fun (W' : World) (hb : Below W.heap.size W W') => (⟨Lib.cell_of_heap ((hb.block _ (by omega)).trans y0) 0, Lib.cell_of_heap ((hb.block _ (by omega)).trans y0) 1, Lib.cell_of_heap ((hb.block _ (by omega)).trans y1) 0, Lib.cell_of_heap ((hb.block _ (by omega)).trans y1) 1, Lib.cell_of_heap ((hb.block _ (by omega)).trans y1) 2, Lib.cell_of_heap ((hb.block _ (by omega)).trans y1) 3, Lib.cell_of_heap ((hb.block _ (by omega)).trans y1) 4, Lib.cell_of_heap ((hb.block _ (by omega)).trans y2) 0, Lib.cell_of_heap ((hb.block _ (by omega)).trans y2) 1, Lib.cell_of_heap ((hb.block _ (by omega)).trans y2) 2, Lib.cell_of_heap ((hb.block _ (by omega)).trans y2) 3, Lib.cell_of_heap ((hb.block _ (by omega)).trans y2) 4⟩ :
    W'.cell? ⟨w.heap.size, 0, none⟩ = some (.int .i64 a0) ∧ W'.cell? ⟨w.heap.size, 1, none⟩ = some (.int .i64 b0) ∧ W'.cell? ⟨w.heap.size + 1, 0, none⟩ = some (.string nm) ∧ W'.cell? ⟨w.heap.size + 1, 1, none⟩ = some (.int .i64 sc) ∧ W'.cell? ⟨w.heap.size + 1, 2, none⟩ = some (.int .i64 vl) ∧ W'.cell? ⟨w.heap.size + 1, 3, none⟩ = some (.int .i64 fr) ∧ W'.cell? ⟨w.heap.size + 1, 4, none⟩ = some (.bool gl) ∧ W'.cell? ⟨w.heap.size + 1 + 1, 0, none⟩ = some (.int .i64 sc2) ∧ W'.cell? ⟨w.heap.size + 1 + 1, 1, none⟩ = some (.int .i64 pl2) ∧ W'.cell? ⟨w.heap.size + 1 + 1, 2, none⟩ = some (.int .i64 kd2) ∧ W'.cell? ⟨w.heap.size + 1 + 1, 3, none⟩ = some (.int .i64 sy2) ∧ W'.cell? ⟨w.heap.size + 1 + 1, 4, none⟩ = some (.int .i64 ad2)))
  clear y0 y1 y2
  refine facts_ (n := 26) (dst := dst) (F := Fv (fun i => match i with | 0 => some (some (.bool true)) | 1 => some (some (.bool true)) | 2 => some (some (.agg #[.int .i64 a0, .int .i64 b0])) | 3 => some (some (.agg #[.string nm, .int .i64 sc, .int .i64 vl, .int .i64 fr, .bool gl])) | 4 => some (some (.int .u32 X)) | 5 => some (some (.agg #[.int .i64 a0, .int .i64 b0])) | 6 => some (some (.pointer (some ⟨w.heap.size + 1, 1, none⟩))) | 7 => some (some (.int .i64 sc)) | 8 => some (some (.pointer (some ⟨w.heap.size + 1, 2, none⟩))) | 9 => some (some (.int .i64 vl)) | 10 => some (some (.int .u32 X)) | 11 => some (some (.bool true)) | 12 => some (some (.bool true)) | 13 => some (some (.bool true)) | 14 => some (some (.agg #[.int .i64 a0, .int .i64 b0])) | 15 => some (some (.agg #[.int .i64 sc2, .int .i64 pl2, .int .i64 kd2, .int .i64 sy2, .int .i64 ad2])) | 16 => some (some (.int .u32 Y)) | 17 => some (some (.agg #[.int .i64 a0, .int .i64 b0])) | 18 => some (some (.pointer (some ⟨w.heap.size + 1 + 1, 0, none⟩))) | 19 => some (some (.int .i64 sc2)) | 20 => some (some (.pointer (some ⟨w.heap.size + 1 + 1, 1, none⟩))) | 21 => some (some (.int .i64 pl2)) | 22 => some (some (.int .u32 Y)) | 23 => some (some (.bool true)) | 24 => some (some (.bool true)) | 25 => some (some (.bool true)) | _ => none)) (by kernel_rfl) (ahead_of (by kernel_rfl)) rfl dst_inj (fun _ _ _ _ h _ => h) ?step ?done
  case step =>
    intro i op hop a W1 hM hF
    have hi : i < 26 := (Array.getElem?_eq_some_iff.1 hop).1
    match i, hi with
    | 0, _ =>
      cases hop
      refine op_ rfl rfl ?_
      have HM := Lib.hid hM
      clear hM hF
      go_simp
      (with_reducible refine (LA.awake_ _).mono ?_)
      rintro e W2 ⟨rfl, hb⟩
      exact did_put _ (by rw [HM.out.sz]; exact (by decide : dst 0 < 32)) hb rfl
    | 1, _ =>
      cases hop
      refine op_ rfl rfl ?_
      have t7 : a.tmps[7]?.getD undef = .bool true := (Array.getD_eq_getD_getElem?).symm.trans (hF ⟨0, .data⟩ (by simp) rfl)
      have HM := Lib.hid hM
      clear hM hF
      go_simp
      exact did_put _ (by rw [HM.out.sz]; exact (by decide : dst 1 < 32)) (Below.refl _ _) (by rfl)
    | 2, _ =>
      cases hop
      have tg : a.tmps[8]?.getD undef = .bool true := (Array.getD_eq_getD_getElem?).symm.trans (hF ⟨1, .guard⟩ (by simp) rfl)
      refine op_g rfl (by simp [Region.wanted, yielded, got tg]) ?_
      clear tg
      have t3 : a.tmps[3]?.getD undef = .pointer (some ⟨w.heap.size, 0, none⟩) := (Array.getD_eq_getD_getElem?).symm.trans ((hM.oth 3 (by intro i hi; unfold dst; split <;> omega)).trans rfl)
      obtain ⟨f0, f1, f2, f3, f4, f5, f6, f7, f8, f9, f10, f11⟩ := KC.out W1 hM.bel
      have HM := Lib.hid hM
      clear hM hF
      go_simp
      exact did_put _ (by rw [HM.out.sz]; exact (by decide : dst 2 < 32)) (Below.refl _ _) (by rfl)
    | 3, _ =>
      cases hop
      have tg : a.tmps[8]?.getD undef = .bool true := (Array.getD_eq_getD_getElem?).symm.trans (hF ⟨1, .guard⟩ (by simp) rfl)
      refine op_g rfl (by simp [Region.wanted, yielded, got tg]) ?_
      clear tg
      have t4 : a.tmps[4]?.getD undef = .pointer (some ⟨w.heap.size + 1, 0, none⟩) := (Array.getD_eq_getD_getElem?).symm.trans ((hM.oth 4 (by intro i hi; unfold dst; split <;> omega)).trans rfl)
      obtain ⟨f0, f1, f2, f3, f4, f5, f6, f7, f8, f9, f10, f11⟩ := KC.out W1 hM.bel
      have HM := Lib.hid hM
      clear hM hF
      go_simp
      exact did_put _ (by rw [HM.out.sz]; exact (by decide : dst 3 < 32)) (Below.refl _ _) (by rfl)
    | 4, _ =>
      cases hop
      have tg : a.tmps[8]?.getD undef = .bool true := (Array.getD_eq_getD_getElem?).symm.trans (hF ⟨1, .guard⟩ (by simp) rfl)
      refine op_g rfl (by simp [Region.wanted, yielded, got tg]) ?_
      clear tg
      have t9 : a.tmps[9]?.getD undef = .agg #[.int .i64 a0, .int .i64 b0] := (Array.getD_eq_getD_getElem?).symm.trans (hF ⟨2, .data⟩ (by simp) rfl)
      have t10 : a.tmps[10]?.getD undef = .agg #[.string nm, .int .i64 sc, .int .i64 vl, .int .i64 fr, .bool gl] := (Array.getD_eq_getD_getElem?).symm.trans (hF ⟨3, .data⟩ (by simp) rfl)
      have HM := Lib.hid hM
      clear hM hF
      go_simp
      (with_reducible refine (cX _).mono ?_)
      rintro e W2 ⟨rfl, hb⟩
      exact did_put _ (by rw [HM.out.sz]; exact (by decide : dst 4 < 32)) hb rfl
    | 5, _ =>
      cases hop
      have tg : a.tmps[8]?.getD undef = .bool true := (Array.getD_eq_getD_getElem?).symm.trans (hF ⟨1, .guard⟩ (by simp) rfl)
      refine op_g rfl (by simp [Region.wanted, yielded, got tg]) ?_
      clear tg
      have t3 : a.tmps[3]?.getD undef = .pointer (some ⟨w.heap.size, 0, none⟩) := (Array.getD_eq_getD_getElem?).symm.trans ((hM.oth 3 (by intro i hi; unfold dst; split <;> omega)).trans rfl)
      obtain ⟨f0, f1, f2, f3, f4, f5, f6, f7, f8, f9, f10, f11⟩ := KC.out W1 hM.bel
      have HM := Lib.hid hM
      clear hM hF
      go_simp
      exact did_put _ (by rw [HM.out.sz]; exact (by decide : dst 5 < 32)) (Below.refl _ _) (by rfl)
    | 6, _ =>
      cases hop
      have tg : a.tmps[8]?.getD undef = .bool true := (Array.getD_eq_getD_getElem?).symm.trans (hF ⟨1, .guard⟩ (by simp) rfl)
      refine op_g rfl (by simp [Region.wanted, yielded, got tg]) ?_
      clear tg
      have t4 : a.tmps[4]?.getD undef = .pointer (some ⟨w.heap.size + 1, 0, none⟩) := (Array.getD_eq_getD_getElem?).symm.trans ((hM.oth 4 (by intro i hi; unfold dst; split <;> omega)).trans rfl)
      have HM := Lib.hid hM
      clear hM hF
      go_simp
      exact did_put _ (by rw [HM.out.sz]; exact (by decide : dst 6 < 32)) (Below.refl _ _) (by rfl)
    | 7, _ =>
      cases hop
      have tg : a.tmps[8]?.getD undef = .bool true := (Array.getD_eq_getD_getElem?).symm.trans (hF ⟨1, .guard⟩ (by simp) rfl)
      refine op_g rfl (by simp [Region.wanted, yielded, got tg]) ?_
      clear tg
      have t13 : a.tmps[13]?.getD undef = .pointer (some ⟨w.heap.size + 1, 1, none⟩) := (Array.getD_eq_getD_getElem?).symm.trans (hF ⟨6, .data⟩ (by simp) rfl)
      obtain ⟨f0, f1, f2, f3, f4, f5, f6, f7, f8, f9, f10, f11⟩ := KC.out W1 hM.bel
      have HM := Lib.hid hM
      clear hM hF
      go_simp
      exact did_put _ (by rw [HM.out.sz]; exact (by decide : dst 7 < 32)) (Below.refl _ _) (by rfl)
    | 8, _ =>
      cases hop
      have tg : a.tmps[8]?.getD undef = .bool true := (Array.getD_eq_getD_getElem?).symm.trans (hF ⟨1, .guard⟩ (by simp) rfl)
      refine op_g rfl (by simp [Region.wanted, yielded, got tg]) ?_
      clear tg
      have t4 : a.tmps[4]?.getD undef = .pointer (some ⟨w.heap.size + 1, 0, none⟩) := (Array.getD_eq_getD_getElem?).symm.trans ((hM.oth 4 (by intro i hi; unfold dst; split <;> omega)).trans rfl)
      have HM := Lib.hid hM
      clear hM hF
      go_simp
      exact did_put _ (by rw [HM.out.sz]; exact (by decide : dst 8 < 32)) (Below.refl _ _) (by rfl)
    | 9, _ =>
      cases hop
      have tg : a.tmps[8]?.getD undef = .bool true := (Array.getD_eq_getD_getElem?).symm.trans (hF ⟨1, .guard⟩ (by simp) rfl)
      refine op_g rfl (by simp [Region.wanted, yielded, got tg]) ?_
      clear tg
      have t15 : a.tmps[15]?.getD undef = .pointer (some ⟨w.heap.size + 1, 2, none⟩) := (Array.getD_eq_getD_getElem?).symm.trans (hF ⟨8, .data⟩ (by simp) rfl)
      obtain ⟨f0, f1, f2, f3, f4, f5, f6, f7, f8, f9, f10, f11⟩ := KC.out W1 hM.bel
      have HM := Lib.hid hM
      clear hM hF
      go_simp
      exact did_put _ (by rw [HM.out.sz]; exact (by decide : dst 9 < 32)) (Below.refl _ _) (by rfl)
    | 10, _ =>
      cases hop
      have tg : a.tmps[8]?.getD undef = .bool true := (Array.getD_eq_getD_getElem?).symm.trans (hF ⟨1, .guard⟩ (by simp) rfl)
      refine op_g rfl (by simp [Region.wanted, yielded, got tg]) ?_
      clear tg
      have t12 : a.tmps[12]?.getD undef = .agg #[.int .i64 a0, .int .i64 b0] := (Array.getD_eq_getD_getElem?).symm.trans (hF ⟨5, .data⟩ (by simp) rfl)
      have t14 : a.tmps[14]?.getD undef = .int .i64 sc := (Array.getD_eq_getD_getElem?).symm.trans (hF ⟨7, .data⟩ (by simp) rfl)
      have t16 : a.tmps[16]?.getD undef = .int .i64 vl := (Array.getD_eq_getD_getElem?).symm.trans (hF ⟨9, .data⟩ (by simp) rfl)
      have HM := Lib.hid hM
      clear hM hF
      go_simp
      (with_reducible refine (dX _).mono ?_)
      rintro e W2 ⟨rfl, hb⟩
      exact did_put _ (by rw [HM.out.sz]; exact (by decide : dst 10 < 32)) hb rfl
    | 11, _ =>
      cases hop
      have tg : a.tmps[8]?.getD undef = .bool true := (Array.getD_eq_getD_getElem?).symm.trans (hF ⟨1, .guard⟩ (by simp) rfl)
      refine op_g rfl (by simp [Region.wanted, yielded, got tg]) ?_
      clear tg
      have t11 : a.tmps[11]?.getD undef = .int .u32 X := (Array.getD_eq_getD_getElem?).symm.trans (hF ⟨4, .data⟩ (by simp) rfl)
      have t17 : a.tmps[17]?.getD undef = .int .u32 X := (Array.getD_eq_getD_getElem?).symm.trans (hF ⟨10, .data⟩ (by simp) rfl)
      have HM := Lib.hid hM
      clear hM hF
      go_simp
      exact did_put _ (by rw [HM.out.sz]; exact (by decide : dst 11 < 32)) (Below.refl _ _) (by rfl)
    | 12, _ =>
      cases hop
      refine op_ rfl rfl ?_
      have t8 : a.tmps[8]?.getD undef = .bool true := (Array.getD_eq_getD_getElem?).symm.trans (hF ⟨1, .data⟩ (by simp) rfl)
      have t18 : a.tmps[18]?.getD undef = .bool true := (Array.getD_eq_getD_getElem?).symm.trans (hF ⟨11, .data⟩ (by simp) rfl)
      have HM := Lib.hid hM
      clear hM hF
      go_simp
      exact did_put _ (by rw [HM.out.sz]; exact (by decide : dst 12 < 32)) (Below.refl _ _) (by rfl)
    | 13, _ =>
      cases hop
      refine op_ rfl rfl ?_
      have t19 : a.tmps[19]?.getD undef = .bool true := (Array.getD_eq_getD_getElem?).symm.trans (hF ⟨12, .data⟩ (by simp) rfl)
      have HM := Lib.hid hM
      clear hM hF
      go_simp
      exact did_put _ (by rw [HM.out.sz]; exact (by decide : dst 13 < 32)) (Below.refl _ _) (by rfl)
    | 14, _ =>
      cases hop
      have tg : a.tmps[20]?.getD undef = .bool true := (Array.getD_eq_getD_getElem?).symm.trans (hF ⟨13, .guard⟩ (by simp) rfl)
      refine op_g rfl (by simp [Region.wanted, yielded, got tg]) ?_
      clear tg
      have t3 : a.tmps[3]?.getD undef = .pointer (some ⟨w.heap.size, 0, none⟩) := (Array.getD_eq_getD_getElem?).symm.trans ((hM.oth 3 (by intro i hi; unfold dst; split <;> omega)).trans rfl)
      obtain ⟨f0, f1, f2, f3, f4, f5, f6, f7, f8, f9, f10, f11⟩ := KC.out W1 hM.bel
      have HM := Lib.hid hM
      clear hM hF
      go_simp
      exact did_put _ (by rw [HM.out.sz]; exact (by decide : dst 14 < 32)) (Below.refl _ _) (by rfl)
    | 15, _ =>
      cases hop
      have tg : a.tmps[20]?.getD undef = .bool true := (Array.getD_eq_getD_getElem?).symm.trans (hF ⟨13, .guard⟩ (by simp) rfl)
      refine op_g rfl (by simp [Region.wanted, yielded, got tg]) ?_
      clear tg
      have t5 : a.tmps[5]?.getD undef = .pointer (some ⟨w.heap.size + 1 + 1, 0, none⟩) := (Array.getD_eq_getD_getElem?).symm.trans ((hM.oth 5 (by intro i hi; unfold dst; split <;> omega)).trans rfl)
      obtain ⟨f0, f1, f2, f3, f4, f5, f6, f7, f8, f9, f10, f11⟩ := KC.out W1 hM.bel
      have HM := Lib.hid hM
      clear hM hF
      go_simp
      exact did_put _ (by rw [HM.out.sz]; exact (by decide : dst 15 < 32)) (Below.refl _ _) (by rfl)
    | 16, _ =>
      cases hop
      have tg : a.tmps[20]?.getD undef = .bool true := (Array.getD_eq_getD_getElem?).symm.trans (hF ⟨13, .guard⟩ (by simp) rfl)
      refine op_g rfl (by simp [Region.wanted, yielded, got tg]) ?_
      clear tg
      have t21 : a.tmps[21]?.getD undef = .agg #[.int .i64 a0, .int .i64 b0] := (Array.getD_eq_getD_getElem?).symm.trans (hF ⟨14, .data⟩ (by simp) rfl)
      have t22 : a.tmps[22]?.getD undef = .agg #[.int .i64 sc2, .int .i64 pl2, .int .i64 kd2, .int .i64 sy2, .int .i64 ad2] := (Array.getD_eq_getD_getElem?).symm.trans (hF ⟨15, .data⟩ (by simp) rfl)
      have HM := Lib.hid hM
      clear hM hF
      go_simp
      (with_reducible refine (cY _).mono ?_)
      rintro e W2 ⟨rfl, hb⟩
      exact did_put _ (by rw [HM.out.sz]; exact (by decide : dst 16 < 32)) hb rfl
    | 17, _ =>
      cases hop
      have tg : a.tmps[20]?.getD undef = .bool true := (Array.getD_eq_getD_getElem?).symm.trans (hF ⟨13, .guard⟩ (by simp) rfl)
      refine op_g rfl (by simp [Region.wanted, yielded, got tg]) ?_
      clear tg
      have t3 : a.tmps[3]?.getD undef = .pointer (some ⟨w.heap.size, 0, none⟩) := (Array.getD_eq_getD_getElem?).symm.trans ((hM.oth 3 (by intro i hi; unfold dst; split <;> omega)).trans rfl)
      obtain ⟨f0, f1, f2, f3, f4, f5, f6, f7, f8, f9, f10, f11⟩ := KC.out W1 hM.bel
      have HM := Lib.hid hM
      clear hM hF
      go_simp
      exact did_put _ (by rw [HM.out.sz]; exact (by decide : dst 17 < 32)) (Below.refl _ _) (by rfl)
    | 18, _ =>
      cases hop
      have tg : a.tmps[20]?.getD undef = .bool true := (Array.getD_eq_getD_getElem?).symm.trans (hF ⟨13, .guard⟩ (by simp) rfl)
      refine op_g rfl (by simp [Region.wanted, yielded, got tg]) ?_
      clear tg
      have t5 : a.tmps[5]?.getD undef = .pointer (some ⟨w.heap.size + 1 + 1, 0, none⟩) := (Array.getD_eq_getD_getElem?).symm.trans ((hM.oth 5 (by intro i hi; unfold dst; split <;> omega)).trans rfl)
      have HM := Lib.hid hM
      clear hM hF
      go_simp
      exact did_put _ (by rw [HM.out.sz]; exact (by decide : dst 18 < 32)) (Below.refl _ _) (by rfl)
    | 19, _ =>
      cases hop
      have tg : a.tmps[20]?.getD undef = .bool true := (Array.getD_eq_getD_getElem?).symm.trans (hF ⟨13, .guard⟩ (by simp) rfl)
      refine op_g rfl (by simp [Region.wanted, yielded, got tg]) ?_
      clear tg
      have t25 : a.tmps[25]?.getD undef = .pointer (some ⟨w.heap.size + 1 + 1, 0, none⟩) := (Array.getD_eq_getD_getElem?).symm.trans (hF ⟨18, .data⟩ (by simp) rfl)
      obtain ⟨f0, f1, f2, f3, f4, f5, f6, f7, f8, f9, f10, f11⟩ := KC.out W1 hM.bel
      have HM := Lib.hid hM
      clear hM hF
      go_simp
      exact did_put _ (by rw [HM.out.sz]; exact (by decide : dst 19 < 32)) (Below.refl _ _) (by rfl)
    | 20, _ =>
      cases hop
      have tg : a.tmps[20]?.getD undef = .bool true := (Array.getD_eq_getD_getElem?).symm.trans (hF ⟨13, .guard⟩ (by simp) rfl)
      refine op_g rfl (by simp [Region.wanted, yielded, got tg]) ?_
      clear tg
      have t5 : a.tmps[5]?.getD undef = .pointer (some ⟨w.heap.size + 1 + 1, 0, none⟩) := (Array.getD_eq_getD_getElem?).symm.trans ((hM.oth 5 (by intro i hi; unfold dst; split <;> omega)).trans rfl)
      have HM := Lib.hid hM
      clear hM hF
      go_simp
      exact did_put _ (by rw [HM.out.sz]; exact (by decide : dst 20 < 32)) (Below.refl _ _) (by rfl)
    | 21, _ =>
      cases hop
      have tg : a.tmps[20]?.getD undef = .bool true := (Array.getD_eq_getD_getElem?).symm.trans (hF ⟨13, .guard⟩ (by simp) rfl)
      refine op_g rfl (by simp [Region.wanted, yielded, got tg]) ?_
      clear tg
      have t27 : a.tmps[27]?.getD undef = .pointer (some ⟨w.heap.size + 1 + 1, 1, none⟩) := (Array.getD_eq_getD_getElem?).symm.trans (hF ⟨20, .data⟩ (by simp) rfl)
      obtain ⟨f0, f1, f2, f3, f4, f5, f6, f7, f8, f9, f10, f11⟩ := KC.out W1 hM.bel
      have HM := Lib.hid hM
      clear hM hF
      go_simp
      exact did_put _ (by rw [HM.out.sz]; exact (by decide : dst 21 < 32)) (Below.refl _ _) (by rfl)
    | 22, _ =>
      cases hop
      have tg : a.tmps[20]?.getD undef = .bool true := (Array.getD_eq_getD_getElem?).symm.trans (hF ⟨13, .guard⟩ (by simp) rfl)
      refine op_g rfl (by simp [Region.wanted, yielded, got tg]) ?_
      clear tg
      have t24 : a.tmps[24]?.getD undef = .agg #[.int .i64 a0, .int .i64 b0] := (Array.getD_eq_getD_getElem?).symm.trans (hF ⟨17, .data⟩ (by simp) rfl)
      have t26 : a.tmps[26]?.getD undef = .int .i64 sc2 := (Array.getD_eq_getD_getElem?).symm.trans (hF ⟨19, .data⟩ (by simp) rfl)
      have t28 : a.tmps[28]?.getD undef = .int .i64 pl2 := (Array.getD_eq_getD_getElem?).symm.trans (hF ⟨21, .data⟩ (by simp) rfl)
      have HM := Lib.hid hM
      clear hM hF
      go_simp
      (with_reducible refine (dY _).mono ?_)
      rintro e W2 ⟨rfl, hb⟩
      exact did_put _ (by rw [HM.out.sz]; exact (by decide : dst 22 < 32)) hb rfl
    | 23, _ =>
      cases hop
      have tg : a.tmps[20]?.getD undef = .bool true := (Array.getD_eq_getD_getElem?).symm.trans (hF ⟨13, .guard⟩ (by simp) rfl)
      refine op_g rfl (by simp [Region.wanted, yielded, got tg]) ?_
      clear tg
      have t23 : a.tmps[23]?.getD undef = .int .u32 Y := (Array.getD_eq_getD_getElem?).symm.trans (hF ⟨16, .data⟩ (by simp) rfl)
      have t29 : a.tmps[29]?.getD undef = .int .u32 Y := (Array.getD_eq_getD_getElem?).symm.trans (hF ⟨22, .data⟩ (by simp) rfl)
      have HM := Lib.hid hM
      clear hM hF
      go_simp
      exact did_put _ (by rw [HM.out.sz]; exact (by decide : dst 23 < 32)) (Below.refl _ _) (by rfl)
    | 24, _ =>
      cases hop
      refine op_ rfl rfl ?_
      have t20 : a.tmps[20]?.getD undef = .bool true := (Array.getD_eq_getD_getElem?).symm.trans (hF ⟨13, .data⟩ (by simp) rfl)
      have t30 : a.tmps[30]?.getD undef = .bool true := (Array.getD_eq_getD_getElem?).symm.trans (hF ⟨23, .data⟩ (by simp) rfl)
      have HM := Lib.hid hM
      clear hM hF
      go_simp
      exact did_put _ (by rw [HM.out.sz]; exact (by decide : dst 24 < 32)) (Below.refl _ _) (by rfl)
    | 25, _ =>
      cases hop
      refine op_ rfl rfl ?_
      have t31 : a.tmps[31]?.getD undef = .bool true := (Array.getD_eq_getD_getElem?).symm.trans (hF ⟨24, .data⟩ (by simp) rfl)
      have HM := Lib.hid hM
      clear hM hF
      go_simp
      exact did_put _ (by rw [HM.out.sz]; exact (by decide : dst 25 < 32)) (Below.refl _ _) (by rfl)
    | i + 26, h => exact absurd h (by omega)
  case done =>
    intro a W1 hM hF
    have t6 : a.tmps[6]?.getD undef = .bool true := (Array.getD_eq_getD_getElem?).symm.trans (hF 25 (by decide))
    have hd := hM.d
    have HB2 := Lib.hid hM.bel
    clear hM hF
    go_wp2
    exact bodyPost_ret (v := .bool true) (by simp [results, Try.results10, go_sem, t6]) hd ⟨rfl, HB1.out.trans (HB2.out.mono (by omega))⟩

set_option maxRecDepth 100000 in
theorem lifted (os : Os) (started : os.Started) (H : Type) (enc : TypeId × Value → H) :
    ReturnsInHanded {} Try.checked os 10 .any (Rows.layoutAddressesSpec.pre6 enc Try.prog Try.f10 Rows.layoutAddressesRow.domain false) (Rows.layoutAddressesSpec.post enc Try.prog Try.f10 false true false false) := by
  refine returnsInHanded_of_change (C := Try.checked) own started (by kernel_rfl) Try.func10
    (ChangeSpec.witness6 (enc := enc) (C := Try.checked) false ⟨#[], #[.agg #[.int .i64 0, .int .i64 0], .agg #[.string ⟨#[]⟩, .int .i64 0, .int .i64 0, .int .i64 0, .bool false], .agg #[.int .i64 0, .int .i64 0, .int .i64 0, .int .i64 0, .int .i64 0]], []⟩ 8 (by kernel_rfl) (by kernel_rfl) (by kernel_rfl) (by kernel_rfl)) ?_
  intro W base args ds gs before hval0 hW hcnd _
  have hval : ∀ (j : Nat) t v, Try.f10.params[j]? = some t → args[j]? = some v → Value.okWide Try.prog W .any base t v := hval0
  have hW' := hW
  obtain ⟨p, q, hA0, hV, rfl, hfz, hnd⟩ := hW
  have hA : DataW.TrodAll enc Try.prog W 0 (fun _ => true) true Try.f10.params.toList args.toList ds p := hA0
  rw [Try.params10] at hA hval
  obtain ⟨v0, vs0, d0, ds0, p0, q0, hargs, rfl, rfl, h0, r0⟩ := trodAll_cons hA
  obtain ⟨v1, vs1, d1, ds1, p1, q1, rfl, rfl, rfl, h1, r1⟩ := trodAll_cons r0
  obtain ⟨v2, vs2, d2, ds2, p2, q2, rfl, rfl, rfl, h2, r2⟩ := trodAll_cons r1
  obtain ⟨rfl, rfl, rfl⟩ := trodAll_nil r2
  obtain rfl : args = #[v0, v1, v2] := by cases args; simp_all
  obtain ⟨rfl, rfl⟩ := trodVars_none hV
  obtain ⟨a0, b0, rfl, ha0, hb0⟩ := LP.open_place (hval 0 65 v0 rfl rfl) h0
  obtain ⟨s1, rfl, hs1⟩ := LP.open_sym (hval 1 52 v1 rfl rfl) h1
  obtain ⟨y2, rfl, hr2⟩ := LP.open_rel (hval 2 69 v2 rfl rfl) h2
  clear hA0 hval0
  simp only [List.append_nil] at hW'
  refine (walk a0 b0 s1 y2 W ha0 hb0 hs1 hr2).mono fun e W' ⟨he, hg⟩ => ?_
  subst he
  exact ⟨_, rfl, _, _, _, [], _, _, hW', (trodAll_cons_mk (shut_bool Try.underlying4 _) trodAll_mk0), (trodAll_cons_mk (OB.shut_any (by kernel_rfl) (by kernel_rfl) (by decide) h0 hg) (trodAll_cons_mk (OB.shut_any (by kernel_rfl) (by kernel_rfl) (by decide) h1 hg) (trodAll_cons_mk (OB.shut_any (by kernel_rfl) (by kernel_rfl) (by decide) h2 hg) trodAll_mk0))), rfl, hg.frame _, fun h => by cases h⟩

theorem over : Rows.layoutAddressesRow.holds Try.pinned (OpenSpec.ofChange Rows.layoutAddressesSpec) :=
  OpenClaim.holds_of_wide 10 Try.f10 rfl rfl rfl rfl rfl rfl rfl ⟨rfl, rfl, rfl, rfl, rfl⟩ rfl rfl rfl rfl rfl (by kernel_rfl) Try.func10 (by kernel_rfl)
    (of_decide_eq_true (by kernel_rfl)) (by unfold Func.isWrapper; first | (rw [if_pos (by decide +kernel)]; kernel_rfl) | (rw [if_neg (by decide +kernel)]; exact ⟨rfl, rfl⟩))
    (fun os started H enc _ => lifted os started H enc)

/-- The statement. -/
theorem proved : Rows.LayoutAddressesSaid :=
  over
end Go.Proofs.Ytaocclgnpphjfaa.layoutAddresses
