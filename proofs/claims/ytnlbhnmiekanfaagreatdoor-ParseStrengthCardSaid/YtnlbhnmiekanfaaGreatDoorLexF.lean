/-
  The reader: does the next byte be such? Condition: the reader lies in memory, and its text is not too long.
-/
import Derived.Test.YtnlbhnmiekanfaaGreatDoorLexE
import Derived.Test.YtnlbhnmiekanfaaGreatDoorObjI
import Derived.BigQuiet
import Derived.Deep.QuietTactic
import Derived.Deep.DeepMust
import Derived.Deep.DeepCutAuto
import Derived.Deep.CutRange
import Derived.RegionTactic
namespace Go.Proofs.YtnlbhnmiekanfaaGreatDoor
open Go.RowKit
set_option linter.unusedVariables false
set_option linter.unusedSimpArgs false
namespace LxC
open Lx OI
theorem Tells.enters {n : Rg} {w : World} {g : Nat} {lb : Array Value} {p : UInt8 → Bool} (h : Tells n w (Fv g lb) p) : ∀ args W, (callFunc g args).run Tryz.prog W = .ok (.enter g args) W := by
  obtain ⟨g', lb', e, he, -⟩ := h
  cases e
  exact he
theorem Tells.calls {n : Rg} {w : World} {g : Nat} {lb : Array Value} {p : UInt8 → Bool} (h : Tells n w (Fv g lb) p) (W : World) (b : UInt8) (hn : n.hi ≤ W.heap.size) (hb : Un n w W) :
    Calls Tryz.prog g (#[.int .u8 (b.toNat : Int)] ++ lb) W fun e w' => e = .returned (.bool (p b)) ∧ Below W.heap.size W w' := by
  obtain ⟨g', lb', e, -, hc⟩ := h
  cases e
  exact hc W b hn hb
theorem Tells.form {n : Rg} {w : World} {f : Value} {p : UInt8 → Bool} (h : Tells n w f p) : ∃ g lb, f = Fv g lb := by
  obtain ⟨g, lb, e, -⟩ := h
  exact ⟨g, lb, e⟩
/-- what is asked of the memory below: Go's own variables -/
structure Base (n : Nat) (w : World) : Prop where
  le : 4 ≤ n
  sz : n ≤ w.heap.size
  max : ∃ m, w.cell? ⟨1, 0, none⟩ = some (.int .i64 m)
  rng : ∃ ev, w.cell? ⟨3, 0, none⟩ = some ev ∧ (ev = .nilIface ∨ ∃ te pe, ev = .iface te pe)
theorem Base.later {n m : Nat} {w W : World} (h : Base n w) (hb : Below n w W) (hm : n ≤ m) (hs : m ≤ W.heap.size) : Base m W := by
  obtain ⟨h1, h2, h3, h4⟩ := h
  refine ⟨by omega, hs, ?_, ?_⟩
  · rw [hb.cell (p := ⟨1, 0, none⟩) (by show 1 < n; omega)]; exact h3
  · rw [hb.cell (p := ⟨3, 0, none⟩) (by show 3 < n; omega)]; exact h4
/-- a reader in memory -/
structure RdAt (n : Rg) (w1 : World) (R : Nat) (fs : Fs) (s : ByteArray) (k : Nat) (W : World) : Prop where
  ok : fs.Ok n w1
  base : Base n.lo w1
  lh : n.lo + 3 ≤ n.hi
  nR : n.hi ≤ R
  bel : Un n w1 W
  blk : W.heap[R]? = some (.cells (rdCells s k fs) TR (0, 0))
theorem RdAt.lt {n : Rg} {R k : Nat} {w1 W : World} {fs : Fs} {s : ByteArray} (h : RdAt n w1 R fs s k W) : R < W.heap.size := (Array.getElem?_eq_some_iff.1 h.blk).1
theorem RdAt.low {n : Rg} {R k : Nat} {w1 W : World} {fs : Fs} {s : ByteArray} (h : RdAt n w1 R fs s k W) : Below n.lo w1 W := h.bel.low (by have := h.lh; omega)
theorem RdAt.below {n : Rg} {R k : Nat} {w1 W W' : World} {fs : Fs} {s : ByteArray} (h : RdAt n w1 R fs s k W) (hb : Below W.heap.size W W') : RdAt n w1 R fs s k W' :=
  ⟨h.ok, h.base, h.lh, h.nR, h.bel.thenB hb (by have := h.nR; have := h.lt; omega), (hb.block _ h.lt).trans h.blk⟩
theorem Un.set {n : Rg} {w W : World} (h : Un n w W) {R i : Nat} (v : Value) (hR : n.hi ≤ R ∨ (n.lo ≤ R ∧ R < n.lo + 3)) : Un n w (W.setCell ⟨R, i, none⟩ v) :=
  h.trans ⟨rfl, rfl, rfl, by simp [World.setCell], fun k hk hw => Below.heap_setCell _ _ _ _ (by show k ≠ R; omega)⟩
theorem RdAt.set {n : Rg} {R k : Nat} {w1 W : World} {fs : Fs} {s : ByteArray} (h : RdAt n w1 R fs s k W) (k' : Nat) : RdAt n w1 R fs s k' (W.setCell ⟨R, 1, none⟩ (.int .i64 (k' : Int))) :=
  ⟨h.ok, h.base, h.lh, h.nR, h.bel.set _ (.inl h.nR), by rw [heap_setCell_same _ _ _ _ _ _ h.blk]; rfl⟩
abbrev Fv_ := @OI.Fv
def dstS (i : Nat) : Nat := if i = 23 then 4 else 5 + i
theorem dstS_inj (i j : Nat) (hi : i < 24) (hj : j < 24) (h : dstS i = dstS j) : i = j := by
  unfold dstS at h
  split at h <;> split at h <;> omega
set_option maxRecDepth 100000 in
set_option maxHeartbeats 8000000 in
theorem sees_yes {n : Rg} {R k g : Nat} {lb : Array Value} {w1 W : World} {fs : Fs} {s : ByteArray} {p : UInt8 → Bool} (h : RdAt n w1 R fs s k W) (hk : k < s.size) (hs : s.size ≤ 8192) (hf : Tells n w1 (Fv g lb) p) :
    Calls Tryz.prog 129 #[.pointer (some ⟨R, 0, none⟩), .func (.func g) #[] lb] W fun e w' => e = .returned (.bool (p s[k])) ∧ Below W.heap.size W w' := by
  have eg := hf.enters
  have hR := h.lt
  have KC0 : ∀ W' : World, Below W.heap.size W W' → W'.cell? ⟨R, 0, none⟩ = some (.string s) ∧ W'.cell? ⟨R, 1, none⟩ = some (.int .i64 (k : Int)) := fun W' hb =>
    ⟨Lib.cell_of_heap ((hb.block _ hR).trans h.blk) 0, Lib.cell_of_heap ((hb.block _ hR).trans h.blk) 1⟩
  have HC0 : ∀ W' : World, Below W.heap.size W W' → Calls Tryz.prog g (#[.int .u8 ((s[k]).toNat : Int)] ++ lb) W' fun e w' => e = .returned (.bool (p s[k])) ∧ Below W'.heap.size W' w' := fun W' hb =>
    hf.calls W' s[k] (by have := h.nR; have := hb.size; omega) (h.bel.thenB hb (by have := h.nR; omega))
  have hlt : (k : Int) < (s.size : Int) := by omega
  have KC := Lib.hid KC0
  have HC := Lib.hid HC0
  clear KC0 HC0 h hf
  generalize p s[k] = r at *
  go_enter Tryz.func129, Tryz.ntmps129
  go_upto_region 1 with fail
  refine facts_ (n := 24) (dst := dstS) (F := Fv_ (fun i => match i with | 0 => some (some (.pointer (some ⟨R, 0, none⟩))) | 1 => some (some (.pointer (some ⟨R, 0, none⟩))) | 2 => some (some (.pointer (some ⟨R, 1, none⟩))) | 3 => some (some (.int .i64 (k : Int))) | 4 => some (some (.pointer (some ⟨R, 0, none⟩))) | 5 => some (some (.pointer (some ⟨R, 0, none⟩))) | 6 => some (some (.pointer (some ⟨R, 0, none⟩))) | 7 => some (some (.string s)) | 8 => some (some (.int .i64 (s.size : Int))) | 9 => some (some (.bool true)) | 10 => some (some (.bool true)) | 11 => some (some (.func (.func g) #[] lb)) | 12 => some (some (.pointer (some ⟨R, 0, none⟩))) | 13 => some (some (.pointer (some ⟨R, 0, none⟩))) | 14 => some (some (.pointer (some ⟨R, 0, none⟩))) | 15 => some (some (.string s)) | 16 => some (some (.pointer (some ⟨R, 0, none⟩))) | 17 => some (some (.pointer (some ⟨R, 0, none⟩))) | 18 => some (some (.pointer (some ⟨R, 1, none⟩))) | 19 => some (some (.int .i64 (k : Int))) | 20 => some (some (.int .u8 ((s[k]).toNat : Int))) | 21 => some (some (.bool r)) | 22 => some (some (.bool r)) | 23 => some (some (.bool r)) | _ => none)) (by kernel_rfl) (ahead_of (by kernel_rfl)) rfl dstS_inj (fun _ _ _ _ h _ => h) ?step ?done
  case step =>
    intro i op hop a W1 hM hF
    have hi : i < 24 := (Array.getElem?_eq_some_iff.1 hop).1
    match i, hi with
    | 0, _ =>
      cases hop
      refine op_ rfl rfl ?_
      have t0 : a.tmps[0]?.getD undef = .pointer (some ⟨R, 0, none⟩) := (Array.getD_eq_getD_getElem?).symm.trans ((hM.oth 0 (by intro i hi; unfold dstS; split <;> omega)).trans rfl)
      have HM := Lib.hid hM
      clear hM hF
      go_simp
      exact did_put _ (by rw [HM.out.sz]; exact (by decide : dstS 0 < 28)) (Below.refl _ _) (by rfl)
    | 1, _ =>
      cases hop
      refine op_ rfl rfl ?_
      have t5 : a.tmps[5]?.getD undef = .pointer (some ⟨R, 0, none⟩) := (Array.getD_eq_getD_getElem?).symm.trans (hF ⟨0, .data⟩ (by simp) rfl)
      have HM := Lib.hid hM
      clear hM hF
      go_simp
      exact did_put _ (by rw [HM.out.sz]; exact (by decide : dstS 1 < 28)) (Below.refl _ _) (by rfl)
    | 2, _ =>
      cases hop
      refine op_ rfl rfl ?_
      have t6 : a.tmps[6]?.getD undef = .pointer (some ⟨R, 0, none⟩) := (Array.getD_eq_getD_getElem?).symm.trans (hF ⟨1, .data⟩ (by simp) rfl)
      have HM := Lib.hid hM
      clear hM hF
      go_simp
      exact did_put _ (by rw [HM.out.sz]; exact (by decide : dstS 2 < 28)) (Below.refl _ _) (by rfl)
    | 3, _ =>
      cases hop
      refine op_ rfl rfl ?_
      have t7 : a.tmps[7]?.getD undef = .pointer (some ⟨R, 1, none⟩) := (Array.getD_eq_getD_getElem?).symm.trans (hF ⟨2, .data⟩ (by simp) rfl)
      obtain ⟨f0, f1⟩ := KC.out W1 hM.bel
      have HM := Lib.hid hM
      clear hM hF
      go_simp
      exact did_put _ (by rw [HM.out.sz]; exact (by decide : dstS 3 < 28)) (Below.refl _ _) (by rfl)
    | 4, _ =>
      cases hop
      refine op_ rfl rfl ?_
      have t0 : a.tmps[0]?.getD undef = .pointer (some ⟨R, 0, none⟩) := (Array.getD_eq_getD_getElem?).symm.trans ((hM.oth 0 (by intro i hi; unfold dstS; split <;> omega)).trans rfl)
      have HM := Lib.hid hM
      clear hM hF
      go_simp
      exact did_put _ (by rw [HM.out.sz]; exact (by decide : dstS 4 < 28)) (Below.refl _ _) (by rfl)
    | 5, _ =>
      cases hop
      refine op_ rfl rfl ?_
      have t9 : a.tmps[9]?.getD undef = .pointer (some ⟨R, 0, none⟩) := (Array.getD_eq_getD_getElem?).symm.trans (hF ⟨4, .data⟩ (by simp) rfl)
      have HM := Lib.hid hM
      clear hM hF
      go_simp
      exact did_put _ (by rw [HM.out.sz]; exact (by decide : dstS 5 < 28)) (Below.refl _ _) (by rfl)
    | 6, _ =>
      cases hop
      refine op_ rfl rfl ?_
      have t10 : a.tmps[10]?.getD undef = .pointer (some ⟨R, 0, none⟩) := (Array.getD_eq_getD_getElem?).symm.trans (hF ⟨5, .data⟩ (by simp) rfl)
      have HM := Lib.hid hM
      clear hM hF
      go_simp
      exact did_put _ (by rw [HM.out.sz]; exact (by decide : dstS 6 < 28)) (Below.refl _ _) (by rfl)
    | 7, _ =>
      cases hop
      refine op_ rfl rfl ?_
      have t11 : a.tmps[11]?.getD undef = .pointer (some ⟨R, 0, none⟩) := (Array.getD_eq_getD_getElem?).symm.trans (hF ⟨6, .data⟩ (by simp) rfl)
      obtain ⟨f0, f1⟩ := KC.out W1 hM.bel
      have HM := Lib.hid hM
      clear hM hF
      go_simp
      exact did_put _ (by rw [HM.out.sz]; exact (by decide : dstS 7 < 28)) (Below.refl _ _) (by rfl)
    | 8, _ =>
      cases hop
      refine op_ rfl rfl ?_
      have t12 : a.tmps[12]?.getD undef = .string s := (Array.getD_eq_getD_getElem?).symm.trans (hF ⟨7, .data⟩ (by simp) rfl)
      have HM := Lib.hid hM
      clear hM hF
      go_simp
      exact did_put _ (by rw [HM.out.sz]; exact (by decide : dstS 8 < 28)) (Below.refl _ _) (by rfl)
    | 9, _ =>
      cases hop
      refine op_ rfl rfl ?_
      have t8 : a.tmps[8]?.getD undef = .int .i64 (k : Int) := (Array.getD_eq_getD_getElem?).symm.trans (hF ⟨3, .data⟩ (by simp) rfl)
      have t13 : a.tmps[13]?.getD undef = .int .i64 (s.size : Int) := (Array.getD_eq_getD_getElem?).symm.trans (hF ⟨8, .data⟩ (by simp) rfl)
      have HM := Lib.hid hM
      clear hM hF
      go_simp
      exact did_put _ (by rw [HM.out.sz]; exact (by decide : dstS 9 < 28)) (Below.refl _ _) (by rfl)
    | 10, _ =>
      cases hop
      refine op_ rfl rfl ?_
      have t14 : a.tmps[14]?.getD undef = .bool true := (Array.getD_eq_getD_getElem?).symm.trans (hF ⟨9, .data⟩ (by simp) rfl)
      have HM := Lib.hid hM
      clear hM hF
      go_simp
      exact did_put _ (by rw [HM.out.sz]; exact (by decide : dstS 10 < 28)) (Below.refl _ _) (by rfl)
    | 11, _ =>
      cases hop
      have tg : a.tmps[15]?.getD undef = .bool true := (Array.getD_eq_getD_getElem?).symm.trans (hF ⟨10, .guard⟩ (by simp) rfl)
      refine op_g rfl (by simp [Region.wanted, yielded, got tg]) ?_
      clear tg
      have t1 : a.tmps[1]?.getD undef = .func (.func g) #[] lb := (Array.getD_eq_getD_getElem?).symm.trans ((hM.oth 1 (by intro i hi; unfold dstS; split <;> omega)).trans rfl)
      have HM := Lib.hid hM
      clear hM hF
      go_simp
      exact did_put _ (by rw [HM.out.sz]; exact (by decide : dstS 11 < 28)) (Below.refl _ _) (by rfl)
    | 12, _ =>
      cases hop
      have tg : a.tmps[15]?.getD undef = .bool true := (Array.getD_eq_getD_getElem?).symm.trans (hF ⟨10, .guard⟩ (by simp) rfl)
      refine op_g rfl (by simp [Region.wanted, yielded, got tg]) ?_
      clear tg
      have t0 : a.tmps[0]?.getD undef = .pointer (some ⟨R, 0, none⟩) := (Array.getD_eq_getD_getElem?).symm.trans ((hM.oth 0 (by intro i hi; unfold dstS; split <;> omega)).trans rfl)
      have HM := Lib.hid hM
      clear hM hF
      go_simp
      exact did_put _ (by rw [HM.out.sz]; exact (by decide : dstS 12 < 28)) (Below.refl _ _) (by rfl)
    | 13, _ =>
      cases hop
      have tg : a.tmps[15]?.getD undef = .bool true := (Array.getD_eq_getD_getElem?).symm.trans (hF ⟨10, .guard⟩ (by simp) rfl)
      refine op_g rfl (by simp [Region.wanted, yielded, got tg]) ?_
      clear tg
      have t17 : a.tmps[17]?.getD undef = .pointer (some ⟨R, 0, none⟩) := (Array.getD_eq_getD_getElem?).symm.trans (hF ⟨12, .data⟩ (by simp) rfl)
      have HM := Lib.hid hM
      clear hM hF
      go_simp
      exact did_put _ (by rw [HM.out.sz]; exact (by decide : dstS 13 < 28)) (Below.refl _ _) (by rfl)
    | 14, _ =>
      cases hop
      have tg : a.tmps[15]?.getD undef = .bool true := (Array.getD_eq_getD_getElem?).symm.trans (hF ⟨10, .guard⟩ (by simp) rfl)
      refine op_g rfl (by simp [Region.wanted, yielded, got tg]) ?_
      clear tg
      have t18 : a.tmps[18]?.getD undef = .pointer (some ⟨R, 0, none⟩) := (Array.getD_eq_getD_getElem?).symm.trans (hF ⟨13, .data⟩ (by simp) rfl)
      have HM := Lib.hid hM
      clear hM hF
      go_simp
      exact did_put _ (by rw [HM.out.sz]; exact (by decide : dstS 14 < 28)) (Below.refl _ _) (by rfl)
    | 15, _ =>
      cases hop
      have tg : a.tmps[15]?.getD undef = .bool true := (Array.getD_eq_getD_getElem?).symm.trans (hF ⟨10, .guard⟩ (by simp) rfl)
      refine op_g rfl (by simp [Region.wanted, yielded, got tg]) ?_
      clear tg
      have t19 : a.tmps[19]?.getD undef = .pointer (some ⟨R, 0, none⟩) := (Array.getD_eq_getD_getElem?).symm.trans (hF ⟨14, .data⟩ (by simp) rfl)
      obtain ⟨f0, f1⟩ := KC.out W1 hM.bel
      have HM := Lib.hid hM
      clear hM hF
      go_simp
      exact did_put _ (by rw [HM.out.sz]; exact (by decide : dstS 15 < 28)) (Below.refl _ _) (by rfl)
    | 16, _ =>
      cases hop
      have tg : a.tmps[15]?.getD undef = .bool true := (Array.getD_eq_getD_getElem?).symm.trans (hF ⟨10, .guard⟩ (by simp) rfl)
      refine op_g rfl (by simp [Region.wanted, yielded, got tg]) ?_
      clear tg
      have t0 : a.tmps[0]?.getD undef = .pointer (some ⟨R, 0, none⟩) := (Array.getD_eq_getD_getElem?).symm.trans ((hM.oth 0 (by intro i hi; unfold dstS; split <;> omega)).trans rfl)
      have HM := Lib.hid hM
      clear hM hF
      go_simp
      exact did_put _ (by rw [HM.out.sz]; exact (by decide : dstS 16 < 28)) (Below.refl _ _) (by rfl)
    | 17, _ =>
      cases hop
      have tg : a.tmps[15]?.getD undef = .bool true := (Array.getD_eq_getD_getElem?).symm.trans (hF ⟨10, .guard⟩ (by simp) rfl)
      refine op_g rfl (by simp [Region.wanted, yielded, got tg]) ?_
      clear tg
      have t21 : a.tmps[21]?.getD undef = .pointer (some ⟨R, 0, none⟩) := (Array.getD_eq_getD_getElem?).symm.trans (hF ⟨16, .data⟩ (by simp) rfl)
      have HM := Lib.hid hM
      clear hM hF
      go_simp
      exact did_put _ (by rw [HM.out.sz]; exact (by decide : dstS 17 < 28)) (Below.refl _ _) (by rfl)
    | 18, _ =>
      cases hop
      have tg : a.tmps[15]?.getD undef = .bool true := (Array.getD_eq_getD_getElem?).symm.trans (hF ⟨10, .guard⟩ (by simp) rfl)
      refine op_g rfl (by simp [Region.wanted, yielded, got tg]) ?_
      clear tg
      have t22 : a.tmps[22]?.getD undef = .pointer (some ⟨R, 0, none⟩) := (Array.getD_eq_getD_getElem?).symm.trans (hF ⟨17, .data⟩ (by simp) rfl)
      have HM := Lib.hid hM
      clear hM hF
      go_simp
      exact did_put _ (by rw [HM.out.sz]; exact (by decide : dstS 18 < 28)) (Below.refl _ _) (by rfl)
    | 19, _ =>
      cases hop
      have tg : a.tmps[15]?.getD undef = .bool true := (Array.getD_eq_getD_getElem?).symm.trans (hF ⟨10, .guard⟩ (by simp) rfl)
      refine op_g rfl (by simp [Region.wanted, yielded, got tg]) ?_
      clear tg
      have t23 : a.tmps[23]?.getD undef = .pointer (some ⟨R, 1, none⟩) := (Array.getD_eq_getD_getElem?).symm.trans (hF ⟨18, .data⟩ (by simp) rfl)
      obtain ⟨f0, f1⟩ := KC.out W1 hM.bel
      have HM := Lib.hid hM
      clear hM hF
      go_simp
      exact did_put _ (by rw [HM.out.sz]; exact (by decide : dstS 19 < 28)) (Below.refl _ _) (by rfl)
    | 20, _ =>
      cases hop
      have tg : a.tmps[15]?.getD undef = .bool true := (Array.getD_eq_getD_getElem?).symm.trans (hF ⟨10, .guard⟩ (by simp) rfl)
      refine op_g rfl (by simp [Region.wanted, yielded, got tg]) ?_
      clear tg
      have t20 : a.tmps[20]?.getD undef = .string s := (Array.getD_eq_getD_getElem?).symm.trans (hF ⟨15, .data⟩ (by simp) rfl)
      have t24 : a.tmps[24]?.getD undef = .int .i64 (k : Int) := (Array.getD_eq_getD_getElem?).symm.trans (hF ⟨19, .data⟩ (by simp) rfl)
      have HM := Lib.hid hM
      clear hM hF
      go_simp
      exact did_put _ (by rw [HM.out.sz]; exact (by decide : dstS 20 < 28)) (Below.refl _ _) (by rfl)
    | 21, _ =>
      cases hop
      have tg : a.tmps[15]?.getD undef = .bool true := (Array.getD_eq_getD_getElem?).symm.trans (hF ⟨10, .guard⟩ (by simp) rfl)
      refine op_g rfl (by simp [Region.wanted, yielded, got tg]) ?_
      clear tg
      have t16 : a.tmps[16]?.getD undef = .func (.func g) #[] lb := (Array.getD_eq_getD_getElem?).symm.trans (hF ⟨11, .data⟩ (by simp) rfl)
      have t25 : a.tmps[25]?.getD undef = .int .u8 ((s[k]).toNat : Int) := (Array.getD_eq_getD_getElem?).symm.trans (hF ⟨20, .data⟩ (by simp) rfl)
      have HM := Lib.hid hM
      have hcc := HC.out W1 hM.bel
      clear hM hF
      go_simp
      first
        | (go_at_fn g; (with_reducible refine hcc.mono ?_); rintro e W2 ⟨rfl, hb⟩; exact did_put _ (by rw [HM.out.sz]; exact (by decide : dstS 21 < 28)) hb rfl)
        | ((with_reducible refine hcc.mono ?_); rintro e W2 ⟨rfl, hb⟩; exact did_put _ (by rw [HM.out.sz]; exact (by decide : dstS 21 < 28)) hb rfl)
    | 22, _ =>
      cases hop
      refine op_ rfl rfl ?_
      have t15 : a.tmps[15]?.getD undef = .bool true := (Array.getD_eq_getD_getElem?).symm.trans (hF ⟨10, .data⟩ (by simp) rfl)
      have t26 : a.tmps[26]?.getD undef = .bool r := (Array.getD_eq_getD_getElem?).symm.trans (hF ⟨21, .data⟩ (by simp) rfl)
      have HM := Lib.hid hM
      clear hM hF
      go_simp
      exact did_put _ (by rw [HM.out.sz]; exact (by decide : dstS 22 < 28)) (Below.refl _ _) (by rfl)
    | 23, _ =>
      cases hop
      refine op_ rfl rfl ?_
      have t27 : a.tmps[27]?.getD undef = .bool r := (Array.getD_eq_getD_getElem?).symm.trans (hF ⟨22, .data⟩ (by simp) rfl)
      have HM := Lib.hid hM
      clear hM hF
      go_simp
      exact did_put _ (by rw [HM.out.sz]; exact (by decide : dstS 23 < 28)) (Below.refl _ _) (by rfl)
    | i + 24, h => exact absurd h (by omega)
  case done =>
    intro a W1 hM hF
    have t4 : a.tmps[4]?.getD undef = .bool r := (Array.getD_eq_getD_getElem?).symm.trans (hF 23 (by decide))
    have hd := hM.d
    have HB2 := Lib.hid hM.bel
    clear hM hF
    go_wp2
    exact bodyPost_ret (v := .bool r) (by simp [results, Tryz.results129, go_sem, t4]) hd ⟨rfl, HB2.out⟩
set_option maxRecDepth 100000 in
set_option maxHeartbeats 4000000 in
theorem sees_no {n : Rg} {R k g : Nat} {lb : Array Value} {w1 W : World} {fs : Fs} {s : ByteArray} (h : RdAt n w1 R fs s k W) (hk : s.size ≤ k) (hk2 : k ≤ 8192) (hs : s.size ≤ 8192) :
    Calls Tryz.prog 129 #[.pointer (some ⟨R, 0, none⟩), .func (.func g) #[] lb] W fun e w' => e = .returned (.bool false) ∧ Below W.heap.size W w' := by
  have k0 : W.cell? ⟨R, 0, none⟩ = some (.string s) := Lib.cell_of_heap h.blk 0
  have k1 : W.cell? ⟨R, 1, none⟩ = some (.int .i64 (k : Int)) := Lib.cell_of_heap h.blk 1
  have hd : decide ((k : Int) < (s.size : Int)) = false := decide_eq_false (by omega)
  have hd2 : decide (k < s.size) = false := decide_eq_false (by omega)
  clear h
  go_enter Tryz.func129, Tryz.ntmps129
  go_wp2
  go_quiet (fail)
  go_wp2
  go_ret
  exact ⟨rfl, rfl, rfl, rfl, Nat.le_refl _, fun _ _ => rfl⟩
theorem sees_ {n : Rg} {R k : Nat} {f : Value} {w1 W : World} {fs : Fs} {s : ByteArray} {p : UInt8 → Bool} (h : RdAt n w1 R fs s k W) (hk : k ≤ s.size) (hs : s.size ≤ 8192) (hf : Tells n w1 f p) :
    Calls Tryz.prog 129 #[.pointer (some ⟨R, 0, none⟩), f] W fun e w' => e = .returned (.bool (sees p (at_ s k))) ∧ Below W.heap.size W w' := by
  obtain ⟨g, lb, rfl⟩ := hf.form
  by_cases h1 : k < s.size
  · rw [sees_at s k h1]; exact sees_yes h h1 hs hf
  · rw [sees_end p s k (by omega)]; exact sees_no h (by omega) (by omega) hs
end LxC
end Go.Proofs.YtnlbhnmiekanfaaGreatDoor
