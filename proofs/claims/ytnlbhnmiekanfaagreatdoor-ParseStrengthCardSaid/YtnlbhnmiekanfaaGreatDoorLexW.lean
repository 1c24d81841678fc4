/-
  The reader: a token's kind, a token. Condition: the reader lies in memory, its text is not too long, and real.Parse answers at the reals' texts that may stand there.
-/
import Derived.Test.YtnlbhnmiekanfaaGreatDoorLexV
import Derived.Deep.RegionHeld3
namespace Go.Proofs.YtnlbhnmiekanfaaGreatDoor
open Go.RowKit
set_option linter.unusedVariables false
set_option linter.unusedSimpArgs false
namespace LxC
open Lx
theorem token_at (s : ByteArray) (k : Nat) (h : k < s.size) : token (at_ s k) = if sees letter (at_ s k) then Lx.name (at_ s k) else if sees digit (at_ s k) then Lx.number (at_ s k) else Lx.sign (at_ s k) := by
  unfold token
  rw [at_cons s k h]; rfl
theorem sign_four {l : List UInt8} {x : Nat × Nat} (h : Lx.sign l = some x) : x.1 = 4 := by
  unfold Lx.sign at h
  split at h
  · have := Option.some.inj h; rw [← this]
  · split at h
    · have := Option.some.inj h; rw [← this]
    · cases h
set_option maxRecDepth 100000 in
set_option maxHeartbeats 8000000 in
theorem kind_end {n : Rg} {R k : Nat} {w1 W : World} {fs : Fs} {s : ByteArray} (h : RdAt n w1 R fs s k W) (h1 : k ≤ s.size) (h2 : s.size ≤ k) (hs : s.size ≤ 8192) :
    Calls Tryz.prog 90 #[.pointer (some ⟨R, 0, none⟩)] W (KPost n w1 R fs s k W (token (at_ s k))) := by
  rw [token_nil (at_end s k h2)]
  have k0 : W.cell? ⟨R, 0, none⟩ = some (.string s) := Lib.cell_of_heap h.blk 0
  have k1 : W.cell? ⟨R, 1, none⟩ = some (.int .i64 (k : Int)) := Lib.cell_of_heap h.blk 1
  have d1 : ((k : Int) == (s.size : Int)) = true := by rw [beq_iff_eq]; omega
  have d2 : (k == s.size) = true := by rw [beq_iff_eq]; omega
  have H := Lib.hid h
  clear h
  go_enter Tryz.func90, Tryz.ntmps90
  go_wp2_with fail
  go_quiet (fail)
  go_wp2_with fail
  go_ret
  exact ⟨rfl, H.out.drewN _, gb_drewN _⟩
set_option maxRecDepth 100000 in
set_option maxHeartbeats 8000000 in
theorem kind_in {n : Rg} {R k : Nat} {w1 W : World} {fs : Fs} {s : ByteArray} (h : RdAt n w1 R fs s k W) (h1 : k < s.size) (hs : s.size ≤ 8192) (hP : Parses n.lo w1 s) :
    Calls Tryz.prog 90 #[.pointer (some ⟨R, 0, none⟩)] W (KPost n w1 R fs s k W (token (at_ s k))) := by
  rw [token_at s k h1]
  have k0 : W.cell? ⟨R, 0, none⟩ = some (.string s) := Lib.cell_of_heap h.blk 0
  have k1 : W.cell? ⟨R, 1, none⟩ = some (.int .i64 (k : Int)) := Lib.cell_of_heap h.blk 1
  have d1 : ((k : Int) == (s.size : Int)) = false := by rw [beq_eq_false_iff_ne]; omega
  have d2 : (k == s.size) = false := by rw [beq_eq_false_iff_ne]; omega
  have H := Lib.hid h
  have HP := Lib.hid hP
  clear h hP
  cases hl : sees letter (at_ s k) with
  | true =>
    rw [if_pos rfl]
    have HL := Lib.hid hl
    clear hl
    obtain ⟨r, hr⟩ : ∃ r, Lx.name (at_ s k) = r := ⟨_, rfl⟩
    rw [hr]
    have HR := Lib.hid hr
    clear hr
    cases r with
    | none =>
      go_enter Tryz.func90, Tryz.ntmps90
      go_wp2_with fail
      go_quiet (fail)
      have H2 := Lib.hid (H.out.drewN nq)
      have G2 : Hid (W.grownBy (W.drewN nq) (some R)) := Lib.hid (gb_drewN nq)
      generalize W.drewN nq = W2 at *
      clear k0 k1
      have k4 : W2.cell? ⟨R, 4, none⟩ = some fs.letter := Lib.cell_of_heap H2.out.blk 4
      have c1 := sees_ H2.out (Nat.le_of_lt h1) hs H2.out.ok.letter
      rw [HL.out] at c1
      go_wp2_with (first
        | ((with_reducible refine c1.mono ?_); rintro e w3 ⟨rfl, hb3⟩; have H3 := Lib.hid (H2.out.below hb3); have G3 := Lib.hid (gb_trans G2.out (gb_below (R := some R) hb3)); have c2 := name_ H3.out (Nat.le_of_lt h1) hs; rw [HR.out] at c2; clear hb3 c1)
        | ((with_reducible refine c2.mono ?_); rintro e w4 ⟨rfl, g4⟩; have G4 := Lib.hid g4; clear g4))
      exact ⟨rfl, rfl, gb_trans G3.out G4.out⟩
    | some x =>
      go_enter Tryz.func90, Tryz.ntmps90
      go_wp2_with fail
      go_quiet (fail)
      have H2 := Lib.hid (H.out.drewN nq)
      have G2 : Hid (W.grownBy (W.drewN nq) (some R)) := Lib.hid (gb_drewN nq)
      generalize W.drewN nq = W2 at *
      clear k0 k1
      have k4 : W2.cell? ⟨R, 4, none⟩ = some fs.letter := Lib.cell_of_heap H2.out.blk 4
      have c1 := sees_ H2.out (Nat.le_of_lt h1) hs H2.out.ok.letter
      rw [HL.out] at c1
      go_wp2_with (first
        | ((with_reducible refine c1.mono ?_); rintro e w3 ⟨rfl, hb3⟩; have H3 := Lib.hid (H2.out.below hb3); have G3 := Lib.hid (gb_trans G2.out (gb_below (R := some R) hb3)); have c2 := name_ H3.out (Nat.le_of_lt h1) hs; rw [HR.out] at c2; clear hb3 c1)
        | ((with_reducible refine c2.mono ?_); rintro e w4 ⟨rfl, h4, g4⟩; have H4 := Lib.hid h4; have G4 := Lib.hid g4; clear h4 g4))
      go_ret
      exact ⟨rfl, H4.out, gb_trans G3.out G4.out⟩
  | false =>
    rw [if_neg (by simp)]
    have HL := Lib.hid hl
    clear hl
    cases hd : sees digit (at_ s k) with
    | true =>
      rw [if_pos rfl]
      have HD := Lib.hid hd
      clear hd
      obtain ⟨r, hr⟩ : ∃ r, Lx.number (at_ s k) = r := ⟨_, rfl⟩
      rw [hr]
      have HR := Lib.hid hr
      clear hr
      cases r with
      | none =>
        go_enter Tryz.func90, Tryz.ntmps90
        go_wp2_with fail
        go_quiet (fail)
        have H2 := Lib.hid (H.out.drewN nq)
        have G2 : Hid (W.grownBy (W.drewN nq) (some R)) := Lib.hid (gb_drewN nq)
        generalize W.drewN nq = W2 at *
        clear k0 k1
        have k4 : W2.cell? ⟨R, 4, none⟩ = some fs.letter := Lib.cell_of_heap H2.out.blk 4
        have c1 := sees_ H2.out (Nat.le_of_lt h1) hs H2.out.ok.letter
        rw [HL.out] at c1
        go_wp2_with (first
          | ((with_reducible refine c1.mono ?_); rintro e w3 ⟨rfl, hb3⟩; have H3 := Lib.hid (H2.out.below hb3); have G3 := Lib.hid (gb_trans G2.out (gb_below (R := some R) hb3)); have c3 := sees_ H3.out (Nat.le_of_lt h1) hs H3.out.ok.digit; rw [HD.out] at c3; have k6 : w3.cell? ⟨R, 6, none⟩ = some fs.digit := Lib.cell_of_heap H3.out.blk 6; clear hb3 c1)
          | ((with_reducible refine c3.mono ?_); rintro e w5 ⟨rfl, hb5⟩; have H5 := Lib.hid (H3.out.below hb5); have G5 := Lib.hid (gb_trans G3.out (gb_below (R := some R) hb5)); have c2 := number_ H5.out HD.out hs HP.out; rw [HR.out] at c2; clear hb5 c3)
          | ((with_reducible refine c2.mono ?_); rintro e w4 ⟨rfl, g4⟩; have G4 := Lib.hid g4; clear g4))
        exact ⟨rfl, rfl, gb_trans G5.out G4.out⟩
      | some x =>
        go_enter Tryz.func90, Tryz.ntmps90
        go_wp2_with fail
        go_quiet (fail)
        have H2 := Lib.hid (H.out.drewN nq)
        have G2 : Hid (W.grownBy (W.drewN nq) (some R)) := Lib.hid (gb_drewN nq)
        generalize W.drewN nq = W2 at *
        clear k0 k1
        have k4 : W2.cell? ⟨R, 4, none⟩ = some fs.letter := Lib.cell_of_heap H2.out.blk 4
        have c1 := sees_ H2.out (Nat.le_of_lt h1) hs H2.out.ok.letter
        rw [HL.out] at c1
        go_wp2_with (first
          | ((with_reducible refine c1.mono ?_); rintro e w3 ⟨rfl, hb3⟩; have H3 := Lib.hid (H2.out.below hb3); have G3 := Lib.hid (gb_trans G2.out (gb_below (R := some R) hb3)); have c3 := sees_ H3.out (Nat.le_of_lt h1) hs H3.out.ok.digit; rw [HD.out] at c3; have k6 : w3.cell? ⟨R, 6, none⟩ = some fs.digit := Lib.cell_of_heap H3.out.blk 6; clear hb3 c1)
          | ((with_reducible refine c3.mono ?_); rintro e w5 ⟨rfl, hb5⟩; have H5 := Lib.hid (H3.out.below hb5); have G5 := Lib.hid (gb_trans G3.out (gb_below (R := some R) hb5)); have c2 := number_ H5.out HD.out hs HP.out; rw [HR.out] at c2; clear hb5 c3)
          | ((with_reducible refine c2.mono ?_); rintro e w4 ⟨rfl, h4, g4⟩; have H4 := Lib.hid h4; have G4 := Lib.hid g4; clear h4 g4))
        go_ret
        exact ⟨rfl, H4.out, gb_trans G5.out G4.out⟩
    | false =>
      rw [if_neg (by simp)]
      have HD := Lib.hid hd
      clear hd
      by_cases hw : k + 2 ≤ s.size
      · obtain ⟨r, hr⟩ : ∃ r, Lx.sign (at_ s k) = r := ⟨_, rfl⟩
        rw [hr]
        have HR := Lib.hid hr
        clear hr
        cases r with
        | none =>
          go_enter Tryz.func90, Tryz.ntmps90
          go_wp2_with fail
          go_quiet (fail)
          have H2 := Lib.hid (H.out.drewN nq)
          have G2 : Hid (W.grownBy (W.drewN nq) (some R)) := Lib.hid (gb_drewN nq)
          generalize W.drewN nq = W2 at *
          clear k0 k1
          have k4 : W2.cell? ⟨R, 4, none⟩ = some fs.letter := Lib.cell_of_heap H2.out.blk 4
          have c1 := sees_ H2.out (Nat.le_of_lt h1) hs H2.out.ok.letter
          rw [HL.out] at c1
          go_wp2_with (first
            | ((with_reducible refine c1.mono ?_); rintro e w3 ⟨rfl, hb3⟩; have H3 := Lib.hid (H2.out.below hb3); have G3 := Lib.hid (gb_trans G2.out (gb_below (R := some R) hb3)); have c3 := sees_ H3.out (Nat.le_of_lt h1) hs H3.out.ok.digit; rw [HD.out] at c3; have k6 : w3.cell? ⟨R, 6, none⟩ = some fs.digit := Lib.cell_of_heap H3.out.blk 6; clear hb3 c1)
            | ((with_reducible refine c3.mono ?_); rintro e w5 ⟨rfl, hb5⟩; have H5 := Lib.hid (H3.out.below hb5); have G5 := Lib.hid (gb_trans G3.out (gb_below (R := some R) hb5)); have c2 := signs_ H5.out hw hs; rw [HR.out] at c2; clear hb5 c3)
            | ((with_reducible refine c2.mono ?_); rintro e w4 ⟨rfl, g4⟩; have G4 := Lib.hid g4; clear g4))
          exact ⟨rfl, rfl, gb_trans G5.out G4.out⟩
        | some x =>
          have HX := Lib.hid (sign_four HR.out)
          go_enter Tryz.func90, Tryz.ntmps90
          go_wp2_with fail
          go_quiet (fail)
          have H2 := Lib.hid (H.out.drewN nq)
          have G2 : Hid (W.grownBy (W.drewN nq) (some R)) := Lib.hid (gb_drewN nq)
          generalize W.drewN nq = W2 at *
          clear k0 k1
          have k4 : W2.cell? ⟨R, 4, none⟩ = some fs.letter := Lib.cell_of_heap H2.out.blk 4
          have c1 := sees_ H2.out (Nat.le_of_lt h1) hs H2.out.ok.letter
          rw [HL.out] at c1
          go_wp2_with (first
            | ((with_reducible refine c1.mono ?_); rintro e w3 ⟨rfl, hb3⟩; have H3 := Lib.hid (H2.out.below hb3); have G3 := Lib.hid (gb_trans G2.out (gb_below (R := some R) hb3)); have c3 := sees_ H3.out (Nat.le_of_lt h1) hs H3.out.ok.digit; rw [HD.out] at c3; have k6 : w3.cell? ⟨R, 6, none⟩ = some fs.digit := Lib.cell_of_heap H3.out.blk 6; clear hb3 c1)
            | ((with_reducible refine c3.mono ?_); rintro e w5 ⟨rfl, hb5⟩; have H5 := Lib.hid (H3.out.below hb5); have G5 := Lib.hid (gb_trans G3.out (gb_below (R := some R) hb5)); have c2 := signs_ H5.out hw hs; rw [HR.out] at c2; clear hb5 c3)
            | ((with_reducible refine c2.mono ?_); rintro e w4 ⟨rfl, h4, g4⟩; have H4 := Lib.hid h4; have G4 := Lib.hid g4; clear h4 g4))
          go_ret
          exact ⟨by rw [HX.out]; rfl, H4.out, gb_trans G5.out G4.out⟩
      · have hw2 : s.size ≤ k + 1 := by omega
        clear hw
        have hw : k + 1 ≤ s.size := h1
        obtain ⟨r, hr⟩ : ∃ r, Lx.sign (at_ s k) = r := ⟨_, rfl⟩
        rw [hr]
        have HR := Lib.hid hr
        clear hr
        cases r with
        | none =>
          go_enter Tryz.func90, Tryz.ntmps90
          go_wp2_with fail
          go_quiet (fail)
          have H2 := Lib.hid (H.out.drewN nq)
          have G2 : Hid (W.grownBy (W.drewN nq) (some R)) := Lib.hid (gb_drewN nq)
          generalize W.drewN nq = W2 at *
          clear k0 k1
          have k4 : W2.cell? ⟨R, 4, none⟩ = some fs.letter := Lib.cell_of_heap H2.out.blk 4
          have c1 := sees_ H2.out (Nat.le_of_lt h1) hs H2.out.ok.letter
          rw [HL.out] at c1
          go_wp2_with (first
            | ((with_reducible refine c1.mono ?_); rintro e w3 ⟨rfl, hb3⟩; have H3 := Lib.hid (H2.out.below hb3); have G3 := Lib.hid (gb_trans G2.out (gb_below (R := some R) hb3)); have c3 := sees_ H3.out (Nat.le_of_lt h1) hs H3.out.ok.digit; rw [HD.out] at c3; have k6 : w3.cell? ⟨R, 6, none⟩ = some fs.digit := Lib.cell_of_heap H3.out.blk 6; clear hb3 c1)
            | ((with_reducible refine c3.mono ?_); rintro e w5 ⟨rfl, hb5⟩; have H5 := Lib.hid (H3.out.below hb5); have G5 := Lib.hid (gb_trans G3.out (gb_below (R := some R) hb5)); have c2 := signs1_ H5.out hw hw2 hs; rw [HR.out] at c2; clear hb5 c3)
            | ((with_reducible refine c2.mono ?_); rintro e w4 ⟨rfl, g4⟩; have G4 := Lib.hid g4; clear g4))
          exact ⟨rfl, rfl, gb_trans G5.out G4.out⟩
        | some x =>
          have HX := Lib.hid (sign_four HR.out)
          go_enter Tryz.func90, Tryz.ntmps90
          go_wp2_with fail
          go_quiet (fail)
          have H2 := Lib.hid (H.out.drewN nq)
          have G2 : Hid (W.grownBy (W.drewN nq) (some R)) := Lib.hid (gb_drewN nq)
          generalize W.drewN nq = W2 at *
          clear k0 k1
          have k4 : W2.cell? ⟨R, 4, none⟩ = some fs.letter := Lib.cell_of_heap H2.out.blk 4
          have c1 := sees_ H2.out (Nat.le_of_lt h1) hs H2.out.ok.letter
          rw [HL.out] at c1
          go_wp2_with (first
            | ((with_reducible refine c1.mono ?_); rintro e w3 ⟨rfl, hb3⟩; have H3 := Lib.hid (H2.out.below hb3); have G3 := Lib.hid (gb_trans G2.out (gb_below (R := some R) hb3)); have c3 := sees_ H3.out (Nat.le_of_lt h1) hs H3.out.ok.digit; rw [HD.out] at c3; have k6 : w3.cell? ⟨R, 6, none⟩ = some fs.digit := Lib.cell_of_heap H3.out.blk 6; clear hb3 c1)
            | ((with_reducible refine c3.mono ?_); rintro e w5 ⟨rfl, hb5⟩; have H5 := Lib.hid (H3.out.below hb5); have G5 := Lib.hid (gb_trans G3.out (gb_below (R := some R) hb5)); have c2 := signs1_ H5.out hw hw2 hs; rw [HR.out] at c2; clear hb5 c3)
            | ((with_reducible refine c2.mono ?_); rintro e w4 ⟨rfl, h4, g4⟩; have H4 := Lib.hid h4; have G4 := Lib.hid g4; clear h4 g4))
          go_ret
          exact ⟨by rw [HX.out]; rfl, H4.out, gb_trans G5.out G4.out⟩
end LxC
end Go.Proofs.YtnlbhnmiekanfaaGreatDoor
