/-
  The reader: all that stands between two tokens. Condition: the reader lies in memory, and its text is not too long.
-/
import Derived.Test.YtnlbhnmiekanfaaGreatDoorLexI
namespace Go.Proofs.YtnlbhnmiekanfaaGreatDoor
open Go.RowKit
set_option linter.unusedVariables false
set_option linter.unusedSimpArgs false
namespace LxC
open Lx
def BetPost (n : Rg) (w1 : World) (R : Nat) (fs : Fs) (s : ByteArray) (k g : Nat) (W : World) : Bool → Ending → World → Prop
  | true, e, w' => e = .returned (.tuple #[]) ∧ RdAt n w1 R fs s (k + g) w' ∧ W.grownBy w' (some R)
  | false, e, w' => e = thrown ((k + g : Nat) : Int) 10 ∧ W.grownBy w' (some R)
set_option maxRecDepth 100000 in
set_option maxHeartbeats 8000000 in
theorem between_ {n : Rg} {R k g : Nat} {b : Bool} {w1 W : World} {fs : Fs} {s : ByteArray} (h : RdAt n w1 R fs s k W) (hk : k ≤ s.size) (hs : s.size ≤ 8192) (hg : gp (at_ s k) = (b, g)) :
    Calls Tryz.prog 89 #[.pointer (some ⟨R, 0, none⟩)] W (BetPost n w1 R fs s k g W b) := by
  have H := Lib.hid h
  have HG := Lib.hid hg
  clear h hg
  obtain ⟨t, ht⟩ : ∃ t, k + g = t := ⟨_, rfl⟩
  have HTT := Lib.hid ht
  go_enter Tryz.func89, Tryz.ntmps89
  go_wp2_with fail
  go_loopg [7] s.size (fun gg _ wr => ∃ kk : Nat, kk ≤ s.size ∧ s.size - kk ≤ gg ∧ Aside (RdAt n w1 R fs s kk wr) ∧ Aside (W.grownBy wr (some R)) ∧ Aside ((gp (at_ s kk)).1 = b ∧ kk + (gp (at_ s kk)).2 = t))
  case atStart => exact ⟨k, hk, by omega, H.out, gb_refl, by rw [HG.out], by rw [HG.out]; exact HTT.out⟩
  case round =>
    obtain ⟨kk, hkk, hgg, A1, A2, A3⟩ := hrel
    clear ht hk
    have hc := cnt_at_le Lx.blank s kk hkk
    have hsk := gp_skip (at_ s kk)
    rw [at_drop] at hsk
    obtain ⟨m, hm⟩ : ∃ m, m = kk + cnt Lx.blank (at_ s kk) := ⟨_, rfl⟩
    rw [← hm] at hc hsk
    have A4 : Aside ((gp (at_ s m)).1 = b ∧ m + (gp (at_ s m)).2 = t) := by
      obtain ⟨a1, a2⟩ := A3.out
      rw [hsk] at a1 a2
      exact ⟨a1, by simp only at a2; omega⟩
    have c1 := all_ A1.out hkk hs A1.out.ok.blank
    rw [← hm] at c1
    have hmk : kk ≤ m := by omega
    have k2 : wr.cell? ⟨R, 2, none⟩ = some fs.blank := Lib.cell_of_heap A1.out.blk 2
    have AB : Aside (sees Lx.blank (at_ s m) = false) := by
      have := sees_cnt Lx.blank (at_ s kk)
      rw [at_drop, ← hm] at this
      exact this
    clear hm hsk A3
    cases h1 : twoB 47 47 (at_ s m) with
    | true =>
      have hi := cnt_inLine h1
      have hl := cnt_at_le Lx.inLine s m hc
      have A5 : Aside ((gp (at_ s (m + cnt inLine (at_ s m)))).1 = b ∧ m + cnt inLine (at_ s m) + (gp (at_ s (m + cnt inLine (at_ s m)))).2 = t) := by
        obtain ⟨a1, a2⟩ := A4.out
        rw [gp_line h1, at_drop] at a1 a2
        exact ⟨a1, by simp only at a2; omega⟩
      have A6 : Aside (twoB 47 47 (at_ s m) = true) := h1
      clear h1
      go_wp2_with (first
        | ((with_reducible refine c1.mono ?_); rintro e w2 ⟨rfl, h2, g2⟩; have c2 := begins_ 47 47 h2 hc hs; rw [A6.out] at c2; have H2 := Lib.hid h2; have G2 := Lib.hid g2; clear h2 g2 c1)
        | ((with_reducible refine c2.mono ?_); rintro e w3 ⟨rfl, hb3⟩; have H3 := Lib.hid (H2.out.below hb3); have G3 := Lib.hid (gb_trans G2.out (gb_below (R := some R) hb3)); have c3 := all_ H3.out hc hs H3.out.ok.line; have k3 : w3.cell? ⟨R, 3, none⟩ = some fs.line := Lib.cell_of_heap H3.out.blk 3; clear c2 hb3)
        | ((with_reducible refine c3.mono ?_); rintro e w4 ⟨rfl, h4, g4⟩; have H4 := Lib.hid h4; have G4 := Lib.hid g4; clear h4 g4 c3))
      go_roundg (s.size - (m + cnt inLine (at_ s m)))
      case measure => omega
      case rel => exact ⟨_, by omega, by omega, H4.out, gb_trans A2.out (gb_trans G3.out G4.out), A5.out⟩
    | false =>
      have A6 : Aside (twoB 47 47 (at_ s m) = false) := h1
      clear h1
      cases h2 : twoB 47 42 (at_ s m) with
      | true =>
        have A7 : Aside (twoB 47 42 (at_ s m) = true) := h2
        have hm2 : m + 2 ≤ s.size := by
          obtain ⟨t', ht'⟩ := twoB_len h2
          have := congrArg List.length ht'
          rw [at_len] at this
          simp only [List.length_cons] at this
          omega
        clear h2
        cases he : endOf (at_ s (m + 2)) with
        | none =>
          have hb : b = false ∧ m = t := by
            obtain ⟨a1, a2⟩ := A4.out
            rw [gp_long_no A7.out (by rw [at_drop]; exact he)] at a1 a2
            exact ⟨a1.symm, by simp only at a2; omega⟩
          obtain ⟨rfl, rfl⟩ := hb
          have A8 : Aside (endOf (at_ s (m + 2)) = none) := he
          clear he A4
          go_wp2_with (first
            | ((with_reducible refine c1.mono ?_); rintro e w2 ⟨rfl, h2, g2⟩; have c2 := begins_ 47 47 h2 hc hs; rw [A6.out] at c2; have H2 := Lib.hid h2; have G2 := Lib.hid g2; clear h2 g2 c1)
            | ((with_reducible refine c2.mono ?_); rintro e w3 ⟨rfl, hb3⟩; have H3 := Lib.hid (H2.out.below hb3); have G3 := Lib.hid (gb_trans G2.out (gb_below (R := some R) hb3)); have c3 := begins_ 47 42 H3.out hc hs; rw [A7.out] at c3; clear c2 hb3)
            | ((with_reducible refine c3.mono ?_); rintro e w4 ⟨rfl, hb4⟩; have H4 := Lib.hid (H3.out.below hb4); have G4 := Lib.hid (gb_trans G3.out (gb_below (R := some R) hb4)); have c4 := remark_no H4.out hm2 hs A8.out; clear c3 hb4)
            | ((with_reducible refine c4.mono ?_); rintro e w5 ⟨rfl, hb5⟩))
          exact ⟨rfl, by rw [HTT.out], gb_trans A2.out (gb_trans G4.out (gb_below hb5))⟩
        | some j =>
          have hj := endOf_le he
          rw [at_len] at hj
          have A5 : Aside ((gp (at_ s (m + 2 + j + 2))).1 = b ∧ m + 2 + j + 2 + (gp (at_ s (m + 2 + j + 2))).2 = t) := by
            obtain ⟨a1, a2⟩ := A4.out
            rw [gp_long A7.out (by rw [at_drop]; exact he), at_drop, show m + (2 + j + 2) = m + 2 + j + 2 by omega] at a1 a2
            exact ⟨a1, by simp only at a2; omega⟩
          have A8 : Aside (endOf (at_ s (m + 2)) = some j) := he
          clear he A4
          go_wp2_with (first
            | ((with_reducible refine c1.mono ?_); rintro e w2 ⟨rfl, h2, g2⟩; have c2 := begins_ 47 47 h2 hc hs; rw [A6.out] at c2; have H2 := Lib.hid h2; have G2 := Lib.hid g2; clear h2 g2 c1)
            | ((with_reducible refine c2.mono ?_); rintro e w3 ⟨rfl, hb3⟩; have H3 := Lib.hid (H2.out.below hb3); have G3 := Lib.hid (gb_trans G2.out (gb_below (R := some R) hb3)); have c3 := begins_ 47 42 H3.out hc hs; rw [A7.out] at c3; clear c2 hb3)
            | ((with_reducible refine c3.mono ?_); rintro e w4 ⟨rfl, hb4⟩; have H4 := Lib.hid (H3.out.below hb4); have G4 := Lib.hid (gb_trans G3.out (gb_below (R := some R) hb4)); have c4 := remark_yes H4.out hm2 hs A8.out; clear c3 hb4)
            | ((with_reducible refine c4.mono ?_); rintro e w5 ⟨rfl, h5, g5⟩; have H5 := Lib.hid h5; have G5 := Lib.hid g5; clear h5 g5 c4))
          go_roundg (s.size - (m + 2 + j + 2))
          case measure => omega
          case rel => exact ⟨m + 2 + j + 2, by omega, by omega, H5.out, gb_trans A2.out (gb_trans G4.out G5.out), A5.out⟩
      | false =>
        have hb : b = true ∧ m = t := by
          obtain ⟨a1, a2⟩ := A4.out
          rw [gp_other AB.out A6.out h2] at a1 a2
          exact ⟨a1.symm, by simp only at a2; omega⟩
        obtain ⟨rfl, rfl⟩ := hb
        have A7 : Aside (twoB 47 42 (at_ s m) = false) := h2
        clear h2 A4
        go_wp2_with (first
          | ((with_reducible refine c1.mono ?_); rintro e w2 ⟨rfl, h2, g2⟩; have c2 := begins_ 47 47 h2 hc hs; rw [A6.out] at c2; have H2 := Lib.hid h2; have G2 := Lib.hid g2; clear h2 g2 c1)
          | ((with_reducible refine c2.mono ?_); rintro e w3 ⟨rfl, hb3⟩; have H3 := Lib.hid (H2.out.below hb3); have G3 := Lib.hid (gb_trans G2.out (gb_below (R := some R) hb3)); have c3 := begins_ 47 42 H3.out hc hs; rw [A7.out] at c3; clear c2 hb3)
          | ((with_reducible refine c3.mono ?_); rintro e w4 ⟨rfl, hb4⟩; have H4 := Lib.hid (H3.out.below hb4); have G4 := Lib.hid (gb_trans G3.out (gb_below (R := some R) hb4)); clear c3 hb4))
        go_end0
        exact ⟨rfl, by rw [HTT.out]; exact H4.out, gb_trans A2.out G4.out⟩
end LxC
end Go.Proofs.YtnlbhnmiekanfaaGreatDoor
