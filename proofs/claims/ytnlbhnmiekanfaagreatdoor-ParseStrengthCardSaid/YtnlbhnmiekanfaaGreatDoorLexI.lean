/-
  The reader: what stands between tokens. Condition: the reader lies in memory, and its text is not too long.
-/
import Derived.Test.YtnlbhnmiekanfaaGreatDoorLexH
import Derived.Lib.Index
namespace Go.Proofs.YtnlbhnmiekanfaaGreatDoor
open Go.RowKit
set_option linter.unusedVariables false
set_option linter.unusedSimpArgs false
namespace LxC
open Lx
abbrev TF : TypeId := 114
abbrev thrown (a e : Int) : Ending := .panicked [{ v := .iface TF (.agg #[.int .i64 a, .int .i64 e]), recovered := false }]
set_option maxRecDepth 100000 in
set_option maxHeartbeats 1000000 in
theorem demand_yes (R : Nat) (a : Int) (w : World) : Calls Tryz.prog 164 #[.pointer (some ⟨R, 0, none⟩), .bool true, .int .i64 a] w fun e w' => e = .returned (.tuple #[]) ∧ w = w' := by
  go_enter Tryz.func164, Tryz.ntmps164
  go_wp2
  go_end0
  exact ⟨rfl, rfl⟩
set_option maxRecDepth 100000 in
set_option maxHeartbeats 1000000 in
theorem demand_no (R : Nat) (a : Int) (w : World) : Calls Tryz.prog 164 #[.pointer (some ⟨R, 0, none⟩), .bool false, .int .i64 a] w fun e w' => e = thrown a 10 ∧ Below w.heap.size w w' := by
  go_enter Tryz.func164, Tryz.ntmps164
  go_wp2
  exact ⟨rfl, rfl, (by first | exact Below.refl _ _ | exact (Below.refl _ _).alloc (Nat.le_refl _) _)⟩
def place : Option Nat → Int
  | none => -1
  | some j => (j : Int)
theorem index_end : ∀ (l : List UInt8), Lib.index l [42, 47] = place (endOf l)
  | [] => rfl
  | b :: l => by
    have ih := index_end l
    unfold Lib.index endOf
    have e : List.isPrefixOf [42, 47] (b :: l) = twoB 42 47 (b :: l) := prefix2 42 47 (b :: l)
    rw [e, ih]
    cases h1 : twoB 42 47 (b :: l) with
    | true => rfl
    | false =>
      cases h2 : endOf l with
      | none => rfl
      | some j =>
        have hj : (place (some j) == -1) = false := by
          show (((j : Nat) : Int) == -1) = false
          rw [beq_eq_false_iff_ne]; omega
        rw [hj]
        rfl
set_option maxRecDepth 100000 in
set_option maxHeartbeats 4000000 in
theorem remark_no {n : Rg} {R k : Nat} {w1 W : World} {fs : Fs} {s : ByteArray} (h : RdAt n w1 R fs s k W) (hk : k + 2 ≤ s.size) (hs : s.size ≤ 8192) (he : endOf (at_ s (k + 2)) = none) :
    Calls Tryz.prog 128 #[.pointer (some ⟨R, 0, none⟩)] W fun e w' => e = thrown (k : Int) 10 ∧ Below W.heap.size W w' := by
  have k0 : W.cell? ⟨R, 0, none⟩ = some (.string s) := Lib.cell_of_heap h.blk 0
  have k1 : W.cell? ⟨R, 1, none⟩ = some (.int .i64 (k : Int)) := Lib.cell_of_heap h.blk 1
  have e1 : (s.extract (k + 2) s.size).data.toList = at_ s (k + 2) := by
    rw [extract_list, List.take_of_length_le (by rw [at_len]; exact Nat.le_refl _)]
  obtain ⟨m, hm⟩ := h.base.max
  have hm' : W.cell? ⟨1, 0, none⟩ = some (.int .i64 m) := (h.low.cell (p := ⟨1, 0, none⟩) (by have := h.base.le; show 1 < n.lo; omega)).trans hm
  have ci := Tryz.strings_Index (s.extract (k + 2) s.size) ⟨#[42, 47]⟩ m W (by rw [ByteArray.size_extract]; omega) hm'
  rw [e1, show (ByteArray.mk #[42, 47]).data.toList = [42, 47] from rfl, index_end, he] at ci
  have cd := demand_no R (k : Int) W
  simp only [place] at ci
  clear e1 h he hm hm'
  go_enter Tryz.func128, Tryz.ntmps128
  go_wp2_with (first
    | (go_at_call 163; (with_reducible refine ci.mono ?_); rintro e w2 ⟨rfl, rfl⟩)
    | (go_at_call 164; (with_reducible refine cd.mono ?_); rintro e w3 ⟨rfl, hb⟩))
  exact ⟨rfl, rfl, hb⟩
set_option maxRecDepth 100000 in
set_option maxHeartbeats 4000000 in
theorem remark_yes {n : Rg} {R k j : Nat} {w1 W : World} {fs : Fs} {s : ByteArray} (h : RdAt n w1 R fs s k W) (hk : k + 2 ≤ s.size) (hs : s.size ≤ 8192) (he : endOf (at_ s (k + 2)) = some j) :
    Calls Tryz.prog 128 #[.pointer (some ⟨R, 0, none⟩)] W fun e w' => e = .returned (.tuple #[]) ∧ RdAt n w1 R fs s (k + 2 + j + 2) w' ∧ W.grownBy w' (some R) := by
  have k0 : W.cell? ⟨R, 0, none⟩ = some (.string s) := Lib.cell_of_heap h.blk 0
  have k1 : W.cell? ⟨R, 1, none⟩ = some (.int .i64 (k : Int)) := Lib.cell_of_heap h.blk 1
  have f1 : W.frozen? ⟨R, 1, none⟩ = false := Lib.frozen_of_heap h.blk 1
  have e1 : (s.extract (k + 2) s.size).data.toList = at_ s (k + 2) := by
    rw [extract_list, List.take_of_length_le (by rw [at_len]; exact Nat.le_refl _)]
  obtain ⟨m, hm⟩ := h.base.max
  have hm' : W.cell? ⟨1, 0, none⟩ = some (.int .i64 m) := (h.low.cell (p := ⟨1, 0, none⟩) (by have := h.base.le; show 1 < n.lo; omega)).trans hm
  have ci := Tryz.strings_Index (s.extract (k + 2) s.size) ⟨#[42, 47]⟩ m W (by rw [ByteArray.size_extract]; omega) hm'
  rw [e1, show (ByteArray.mk #[42, 47]).data.toList = [42, 47] from rfl, index_end, he] at ci
  have hj := endOf_le he
  rw [at_len] at hj
  have cd := demand_yes R (k : Int) W
  have H := Lib.hid h
  simp only [place] at ci
  clear e1 h he hm hm'
  go_enter Tryz.func128, Tryz.ntmps128
  go_wp2_with (first
    | (go_at_call 163; (with_reducible refine ci.mono ?_); rintro e w2 ⟨rfl, rfl⟩)
    | (go_at_call 164; (with_reducible refine cd.mono ?_); rintro e w3 ⟨rfl, rfl⟩))
  go_end0
  have e3 : ((k : Int) + 2 + (j : Int) + 2) = ((k + 2 + j + 2 : Nat) : Int) := by omega
  refine ⟨rfl, ?_, ?_⟩
  · have := H.out.set (k + 2 + j + 2)
    rw [← e3] at this
    exact this
  · exact gb_set _
theorem gp_skip : ∀ (l : List UInt8), gp l = ((gp (l.drop (cnt Lx.blank l))).1, cnt Lx.blank l + (gp (l.drop (cnt Lx.blank l))).2)
  | [] => rfl
  | b :: l => by
    cases h : Lx.blank b with
    | true =>
      rw [gp_blank h, cnt_yes h, List.drop_succ_cons]
      have := gp_skip l
      rw [this]
      simp only [Prod.mk.injEq, true_and]; omega
    | false => rw [cnt_no h, List.drop_zero]; simp
end LxC
end Go.Proofs.YtnlbhnmiekanfaaGreatDoor
