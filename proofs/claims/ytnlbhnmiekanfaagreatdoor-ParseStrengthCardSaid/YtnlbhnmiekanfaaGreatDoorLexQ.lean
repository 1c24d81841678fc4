/-
  The reader: a name, a sign. Condition: the reader lies in memory, and its text is not too long.
-/
import Derived.Test.YtnlbhnmiekanfaaGreatDoorLexP
import Derived.WalkLawsBesides
import Derived.BigRegion
namespace Go.Proofs.YtnlbhnmiekanfaaGreatDoor
open Go.RowKit
set_option linter.unusedVariables false
set_option linter.unusedSimpArgs false
namespace LxC
open Lx
theorem RdAt.drewN {n : Rg} {R k : Nat} {w1 W : World} {fs : Fs} {s : ByteArray} (h : RdAt n w1 R fs s k W) (q : Nat) : RdAt n w1 R fs s k (W.drewN q) :=
  h.below ⟨rfl, rfl, rfl, Nat.le_refl _, fun _ _ => rfl⟩
theorem RdAt.drew {n : Rg} {R k : Nat} {w1 W : World} {fs : Fs} {s : ByteArray} (h : RdAt n w1 R fs s k W) : RdAt n w1 R fs s k W.drew :=
  h.below ⟨rfl, rfl, rfl, Nat.le_refl _, fun _ _ => rfl⟩
theorem gb_drewN {W : World} {R : Option Nat} (q : Nat) : W.grownBy (W.drewN q) R := gb_below ⟨rfl, rfl, rfl, Nat.le_refl _, fun _ _ => rfl⟩
theorem gb_drew {W : World} {R : Option Nat} : W.grownBy W.drew R := gb_below ⟨rfl, rfl, rfl, Nat.le_refl _, fun _ _ => rfl⟩
/-- what a token's kind is told to be, and where the reader stands behind it -/
def KPost (n : Rg) (w1 : World) (R : Nat) (fs : Fs) (s : ByteArray) (k : Nat) (W : World) : Option (Nat × Nat) → Ending → World → Prop
  | some x, e, w' => e = .returned (.int .i64 (x.1 : Int)) ∧ RdAt n w1 R fs s (k + x.2) w' ∧ W.grownBy w' (some R)
  | none, e, w' => e = thrown (k : Int) 10 ∧ W.grownBy w' (some R)
theorem piece_list (s : ByteArray) (k m : Nat) : (s.extract k (k + m)).data.toList = (at_ s k).take m := by
  rw [extract_list, Nat.add_sub_cancel_left]
theorem name_eq (l : List UInt8) : Lx.name l = if reserved (l.take (cnt inName l)) then some (5, cnt inName l) else if cnt inName l ≤ 40 then some (1, cnt inName l) else none := rfl
set_option maxRecDepth 100000 in
set_option maxHeartbeats 4000000 in
theorem name_ {n : Rg} {R k : Nat} {w1 W : World} {fs : Fs} {s : ByteArray} (h : RdAt n w1 R fs s k W) (hk : k ≤ s.size) (hs : s.size ≤ 8192) :
    Calls Tryz.prog 130 #[.pointer (some ⟨R, 0, none⟩)] W (KPost n w1 R fs s k W (Lx.name (at_ s k))) := by
  have k1 : W.cell? ⟨R, 1, none⟩ = some (.int .i64 (k : Int)) := Lib.cell_of_heap h.blk 1
  have k5 : W.cell? ⟨R, 5, none⟩ = some fs.name := Lib.cell_of_heap h.blk 5
  have c1 := all_ h hk hs h.ok.name
  have hl := cnt_at_le inName s k hk
  rw [name_eq]
  obtain ⟨m, hm⟩ : ∃ m, cnt inName (at_ s k) = m := ⟨_, rfl⟩
  rw [hm] at c1 hl ⊢
  have cr := fun w => isReserved_ (s.extract k (k + m)) w
  have hz : (s.extract k (k + m)).size = m := by rw [ByteArray.size_extract]; omega
  have HZ := Lib.hid hz
  rw [piece_list] at cr
  obtain ⟨r, hr⟩ : ∃ r, reserved ((at_ s k).take m) = r := ⟨_, rfl⟩
  rw [hr] at cr ⊢
  clear hm h hr
  cases r with
  | true =>
    rw [if_pos rfl]
    go_enter Tryz.func130, Tryz.ntmps130
    go_upto_region 3 with ((with_reducible refine c1.mono ?_); rintro e w2 ⟨rfl, h2, g2⟩; have j0 : w2.cell? ⟨R, 0, none⟩ = some (.string s) := Lib.cell_of_heap h2.blk 0; have j1 : w2.cell? ⟨R, 1, none⟩ = some (.int .i64 ((k + m : Nat) : Int)) := Lib.cell_of_heap h2.blk 1; have H2 := Lib.hid h2; have G2 := Lib.hid g2; clear h2 g2 c1)
    have q1 : (0 : Int) ≤ (k : Int) := by omega
    have q2 : (k : Int) ≤ ((k + m : Nat) : Int) := by omega
    have q3 : ((k + m : Nat) : Int) ≤ (s.size : Int) := by omega
    go_quiet (fail)
    go_wp2_with (go_at_call 165; (with_reducible refine (cr _).mono ?_); rintro e w3 ⟨rfl, rfl⟩)
    go_ret
    exact ⟨rfl, H2.out.drewN _, gb_trans G2.out (gb_drewN _)⟩
  | false =>
    rw [if_neg (by simp)]
    by_cases h40 : m ≤ 40
    · rw [if_pos h40]
      have cd := fun w => demand_yes R (k : Int) w
      have d40 : decide ((m : Int) ≤ 40) = true := decide_eq_true (by omega)
      go_enter Tryz.func130, Tryz.ntmps130
      go_upto_region 3 with ((with_reducible refine c1.mono ?_); rintro e w2 ⟨rfl, h2, g2⟩; have j0 : w2.cell? ⟨R, 0, none⟩ = some (.string s) := Lib.cell_of_heap h2.blk 0; have j1 : w2.cell? ⟨R, 1, none⟩ = some (.int .i64 ((k + m : Nat) : Int)) := Lib.cell_of_heap h2.blk 1; have H2 := Lib.hid h2; have G2 := Lib.hid g2; clear h2 g2 c1)
      have q1 : (0 : Int) ≤ (k : Int) := by omega
      have q2 : (k : Int) ≤ ((k + m : Nat) : Int) := by omega
      have q3 : ((k + m : Nat) : Int) ≤ (s.size : Int) := by omega
      go_quiet (fail)
      go_wp2_with (first
        | (go_at_call 165; (with_reducible refine (cr _).mono ?_); rintro e w3 ⟨rfl, rfl⟩)
        | (go_at_call 164; (with_reducible refine (cd _).mono ?_); rintro e w3 ⟨rfl, rfl⟩))
      go_ret
      exact ⟨rfl, H2.out.drewN _, gb_trans G2.out (gb_drewN _)⟩
    · rw [if_neg h40]
      have cd := fun w => demand_no R (k : Int) w
      have d40 : decide ((m : Int) ≤ 40) = false := decide_eq_false (by omega)
      go_enter Tryz.func130, Tryz.ntmps130
      go_upto_region 3 with ((with_reducible refine c1.mono ?_); rintro e w2 ⟨rfl, h2, g2⟩; have j0 : w2.cell? ⟨R, 0, none⟩ = some (.string s) := Lib.cell_of_heap h2.blk 0; have j1 : w2.cell? ⟨R, 1, none⟩ = some (.int .i64 ((k + m : Nat) : Int)) := Lib.cell_of_heap h2.blk 1; have H2 := Lib.hid h2; have G2 := Lib.hid g2; clear h2 g2 c1)
      have q1 : (0 : Int) ≤ (k : Int) := by omega
      have q2 : (k : Int) ≤ ((k + m : Nat) : Int) := by omega
      have q3 : ((k + m : Nat) : Int) ≤ (s.size : Int) := by omega
      go_quiet (fail)
      go_wp2_with (first
        | (go_at_call 165; (with_reducible refine (cr _).mono ?_); rintro e w3 ⟨rfl, rfl⟩)
        | (go_at_call 164; (with_reducible refine (cd _).mono ?_); rintro e w3 ⟨rfl, hb3⟩))
      exact ⟨rfl, rfl, gb_trans G2.out (gb_trans (gb_drewN _) (gb_below hb3))⟩
/-- a sign read: as a kind's, but that nothing is answered -/
def SPost (n : Rg) (w1 : World) (R : Nat) (fs : Fs) (s : ByteArray) (k : Nat) (W : World) : Option (Nat × Nat) → Ending → World → Prop
  | some x, e, w' => e = .returned (.tuple #[]) ∧ RdAt n w1 R fs s (k + x.2) w' ∧ W.grownBy w' (some R)
  | none, e, w' => e = thrown (k : Int) 10 ∧ W.grownBy w' (some R)
set_option maxRecDepth 100000 in
set_option maxHeartbeats 8000000 in
theorem signs_ {n : Rg} {R k : Nat} {w1 W : World} {fs : Fs} {s : ByteArray} (h : RdAt n w1 R fs s k W) (hk : k + 2 ≤ s.size) (hs : s.size ≤ 8192) :
    Calls Tryz.prog 132 #[.pointer (some ⟨R, 0, none⟩)] W (SPost n w1 R fs s k W (Lx.sign (at_ s k))) := by
  have k0 : W.cell? ⟨R, 0, none⟩ = some (.string s) := Lib.cell_of_heap h.blk 0
  have k1 : W.cell? ⟨R, 1, none⟩ = some (.int .i64 (k : Int)) := Lib.cell_of_heap h.blk 1
  have f1 : W.frozen? ⟨R, 1, none⟩ = false := Lib.frozen_of_heap h.blk 1
  have c2 := fun w => isSign_ (s.extract k (k + 2)) w
  have c1 := fun w => isSign_ (s.extract k (k + 1)) w
  rw [piece_list] at c1 c2
  have hsg : Lx.sign (at_ s k) = if isSign ((at_ s k).take 2) then some (4, 2) else if isSign ((at_ s k).take 1) then some (4, 1) else none := by
    unfold Lx.sign
    rw [at_len, show min 2 (s.size - k) = 2 by omega]
  rw [hsg]
  generalize isSign ((at_ s k).take 2) = r2 at *
  generalize isSign ((at_ s k).take 1) = r1 at *
  have H := Lib.hid h
  have hmn : min (2 : Int) ((s.size : Int) - (k : Int)) = 2 := by omega
  clear h hsg
  have c2' := fun w => (c2 w).mono fun e w' (h : _ ∧ w = w') => (⟨h.1, h.2.symm⟩ : _ ∧ w' = w)
  have c1' := fun w => (c1 w).mono fun e w' (h : _ ∧ w = w') => (⟨h.1, h.2.symm⟩ : _ ∧ w' = w)
  clear c1 c2
  cases r2 with
  | true =>
    rw [if_pos rfl]
    go_enter Tryz.func132, Tryz.ntmps132
    go_wp2_with fail
    go_quiet (fail)
    go_wp2_with fail
    refine wp_loop_rounds 3 ?_
    rw [rounds_succ]
    go_wp2_with fail
    have H2 := Lib.hid (H.out.drewN nq)
    have G2 : Hid (W.grownBy (W.drewN nq) (some R)) := Lib.hid (gb_drewN nq)
    generalize W.drewN nq = W2 at *
    clear k0 k1 f1
    have j0 : W2.cell? ⟨R, 0, none⟩ = some (.string s) := Lib.cell_of_heap H2.out.blk 0
    have j1 : W2.cell? ⟨R, 1, none⟩ = some (.int .i64 (k : Int)) := Lib.cell_of_heap H2.out.blk 1
    have jf : W2.frozen? ⟨R, 1, none⟩ = false := Lib.frozen_of_heap H2.out.blk 1
    have q1 : (0 : Int) ≤ (k : Int) := by omega
    have q2 : (k : Int) ≤ (k : Int) + 2 := by omega
    have q3 : (k : Int) + 2 ≤ (s.size : Int) := by omega
    go_quiet ((go_at_call 168; exact Calls.quiet_of_same (c2' _)))
    go_wp2_with fail
    go_end0
    exact ⟨rfl, (H2.out.drewN nq).set (k + 2), gb_trans G2.out (gb_trans (gb_drewN nq) (gb_set _))⟩
  | false =>
    rw [if_neg (by simp)]
    cases r1 with
    | true =>
      rw [if_pos rfl]
      go_enter Tryz.func132, Tryz.ntmps132
      go_wp2_with fail
      go_quiet (fail)
      go_wp2_with fail
      refine wp_loop_rounds 3 ?_
      rw [rounds_succ]
      go_wp2_with fail
      have H2 := Lib.hid (H.out.drewN nq)
      have G2 : Hid (W.grownBy (W.drewN nq) (some R)) := Lib.hid (gb_drewN nq)
      generalize W.drewN nq = W2 at *
      clear k0 k1 f1
      have j0 : W2.cell? ⟨R, 0, none⟩ = some (.string s) := Lib.cell_of_heap H2.out.blk 0
      have j1 : W2.cell? ⟨R, 1, none⟩ = some (.int .i64 (k : Int)) := Lib.cell_of_heap H2.out.blk 1
      have jf : W2.frozen? ⟨R, 1, none⟩ = false := Lib.frozen_of_heap H2.out.blk 1
      have q1 : (0 : Int) ≤ (k : Int) := by omega
      have q2 : (k : Int) ≤ (k : Int) + 2 := by omega
      have q3 : (k : Int) + 2 ≤ (s.size : Int) := by omega
      go_quiet ((go_at_call 168; exact Calls.quiet_of_same (c2' _)))
      go_wp2_with fail
      rw [rounds_succ]
      go_wp2_with fail
      have H3 := Lib.hid (H2.out.drewN nq)
      have G3 : Hid (W2.grownBy (W2.drewN nq) (some R)) := Lib.hid (gb_drewN nq)
      generalize W2.drewN nq = W3 at *
      clear j0 j1 jf q2 q3
      have j0 : W3.cell? ⟨R, 0, none⟩ = some (.string s) := Lib.cell_of_heap H3.out.blk 0
      have j1 : W3.cell? ⟨R, 1, none⟩ = some (.int .i64 (k : Int)) := Lib.cell_of_heap H3.out.blk 1
      have jf : W3.frozen? ⟨R, 1, none⟩ = false := Lib.frozen_of_heap H3.out.blk 1
      have q2 : (k : Int) ≤ (k : Int) + 1 := by omega
      have q3 : (k : Int) + 1 ≤ (s.size : Int) := by omega
      go_quiet ((go_at_call 168; exact Calls.quiet_of_same (c1' _)))
      go_wp2_with fail
      go_end0
      exact ⟨rfl, (H3.out.drewN nq).set (k + 1), gb_trans G2.out (gb_trans G3.out (gb_trans (gb_drewN nq) (gb_set _)))⟩
    | false =>
      rw [if_neg (by simp)]
      go_enter Tryz.func132, Tryz.ntmps132
      go_wp2_with fail
      go_quiet (fail)
      go_wp2_with fail
      refine wp_loop_rounds 3 ?_
      rw [rounds_succ]
      go_wp2_with fail
      have H2 := Lib.hid (H.out.drewN nq)
      have G2 : Hid (W.grownBy (W.drewN nq) (some R)) := Lib.hid (gb_drewN nq)
      generalize W.drewN nq = W2 at *
      clear k0 k1 f1
      have j0 : W2.cell? ⟨R, 0, none⟩ = some (.string s) := Lib.cell_of_heap H2.out.blk 0
      have j1 : W2.cell? ⟨R, 1, none⟩ = some (.int .i64 (k : Int)) := Lib.cell_of_heap H2.out.blk 1
      have jf : W2.frozen? ⟨R, 1, none⟩ = false := Lib.frozen_of_heap H2.out.blk 1
      have q1 : (0 : Int) ≤ (k : Int) := by omega
      have q2 : (k : Int) ≤ (k : Int) + 2 := by omega
      have q3 : (k : Int) + 2 ≤ (s.size : Int) := by omega
      go_quiet ((go_at_call 168; exact Calls.quiet_of_same (c2' _)))
      go_wp2_with fail
      rw [rounds_succ]
      go_wp2_with fail
      have H3 := Lib.hid (H2.out.drewN nq)
      have G3 : Hid (W2.grownBy (W2.drewN nq) (some R)) := Lib.hid (gb_drewN nq)
      generalize W2.drewN nq = W3 at *
      clear j0 j1 jf q2 q3
      have j0 : W3.cell? ⟨R, 0, none⟩ = some (.string s) := Lib.cell_of_heap H3.out.blk 0
      have j1 : W3.cell? ⟨R, 1, none⟩ = some (.int .i64 (k : Int)) := Lib.cell_of_heap H3.out.blk 1
      have jf : W3.frozen? ⟨R, 1, none⟩ = false := Lib.frozen_of_heap H3.out.blk 1
      have q2 : (k : Int) ≤ (k : Int) + 1 := by omega
      have q3 : (k : Int) + 1 ≤ (s.size : Int) := by omega
      go_quiet ((go_at_call 168; exact Calls.quiet_of_same (c1' _)))
      go_wp2_with fail
      rw [rounds_succ]
      go_wp2_with fail
      exact ⟨rfl, rfl, gb_trans G2.out (gb_trans G3.out (gb_drewN nq))⟩
set_option maxRecDepth 100000 in
set_option maxHeartbeats 8000000 in
theorem signs1_ {n : Rg} {R k : Nat} {w1 W : World} {fs : Fs} {s : ByteArray} (h : RdAt n w1 R fs s k W) (hk : k + 1 ≤ s.size) (hk2 : s.size ≤ k + 1) (hs : s.size ≤ 8192) :
    Calls Tryz.prog 132 #[.pointer (some ⟨R, 0, none⟩)] W (SPost n w1 R fs s k W (Lx.sign (at_ s k))) := by
  have k0 : W.cell? ⟨R, 0, none⟩ = some (.string s) := Lib.cell_of_heap h.blk 0
  have k1 : W.cell? ⟨R, 1, none⟩ = some (.int .i64 (k : Int)) := Lib.cell_of_heap h.blk 1
  have f1 : W.frozen? ⟨R, 1, none⟩ = false := Lib.frozen_of_heap h.blk 1
  have c1 := fun w => isSign_ (s.extract k (k + 1)) w
  rw [piece_list] at c1
  have hsg : Lx.sign (at_ s k) = if isSign ((at_ s k).take 1) then some (4, 1) else none := by
    have hl : (at_ s k).length = 1 := by rw [at_len]; omega
    have ht : (at_ s k).take 2 = (at_ s k).take 1 := by rw [List.take_of_length_le (by omega), List.take_of_length_le (by omega)]
    unfold Lx.sign
    rw [hl, ht]
    by_cases h1 : isSign ((at_ s k).take 1) = true
    · rw [if_pos h1, if_pos h1]; rfl
    · rw [if_neg h1, if_neg h1]
  rw [hsg]
  generalize isSign ((at_ s k).take 1) = r1 at *
  have H := Lib.hid h
  have hmn : min (2 : Int) ((s.size : Int) - (k : Int)) = 1 := by omega
  clear h hsg
  have c1' := fun w => (c1 w).mono fun e w' (h : _ ∧ w = w') => (⟨h.1, h.2.symm⟩ : _ ∧ w' = w)
  clear c1
  cases r1 with
  | true =>
    rw [if_pos rfl]
    go_enter Tryz.func132, Tryz.ntmps132
    go_wp2_with fail
    go_quiet (fail)
    go_wp2_with fail
    refine wp_loop_rounds 3 ?_
    rw [rounds_succ]
    go_wp2_with fail
    have H2 := Lib.hid (H.out.drewN nq)
    have G2 : Hid (W.grownBy (W.drewN nq) (some R)) := Lib.hid (gb_drewN nq)
    generalize W.drewN nq = W2 at *
    clear k0 k1 f1
    have j0 : W2.cell? ⟨R, 0, none⟩ = some (.string s) := Lib.cell_of_heap H2.out.blk 0
    have j1 : W2.cell? ⟨R, 1, none⟩ = some (.int .i64 (k : Int)) := Lib.cell_of_heap H2.out.blk 1
    have jf : W2.frozen? ⟨R, 1, none⟩ = false := Lib.frozen_of_heap H2.out.blk 1
    have q1 : (0 : Int) ≤ (k : Int) := by omega
    have q2 : (k : Int) ≤ (k : Int) + 1 := by omega
    have q3 : (k : Int) + 1 ≤ (s.size : Int) := by omega
    go_quiet ((go_at_call 168; exact Calls.quiet_of_same (c1' _)))
    go_wp2_with fail
    go_end0
    exact ⟨rfl, (H2.out.drewN nq).set (k + 1), gb_trans G2.out (gb_trans (gb_drewN nq) (gb_set _))⟩
  | false =>
    rw [if_neg (by simp)]
    go_enter Tryz.func132, Tryz.ntmps132
    go_wp2_with fail
    go_quiet (fail)
    go_wp2_with fail
    refine wp_loop_rounds 3 ?_
    rw [rounds_succ]
    go_wp2_with fail
    have H2 := Lib.hid (H.out.drewN nq)
    have G2 : Hid (W.grownBy (W.drewN nq) (some R)) := Lib.hid (gb_drewN nq)
    generalize W.drewN nq = W2 at *
    clear k0 k1 f1
    have j0 : W2.cell? ⟨R, 0, none⟩ = some (.string s) := Lib.cell_of_heap H2.out.blk 0
    have j1 : W2.cell? ⟨R, 1, none⟩ = some (.int .i64 (k : Int)) := Lib.cell_of_heap H2.out.blk 1
    have jf : W2.frozen? ⟨R, 1, none⟩ = false := Lib.frozen_of_heap H2.out.blk 1
    have q1 : (0 : Int) ≤ (k : Int) := by omega
    have q2 : (k : Int) ≤ (k : Int) + 1 := by omega
    have q3 : (k : Int) + 1 ≤ (s.size : Int) := by omega
    go_quiet ((go_at_call 168; exact Calls.quiet_of_same (c1' _)))
    go_wp2_with fail
    rw [rounds_succ]
    go_wp2_with fail
    exact ⟨rfl, rfl, gb_trans G2.out (gb_drewN nq)⟩
end LxC
end Go.Proofs.YtnlbhnmiekanfaaGreatDoor
