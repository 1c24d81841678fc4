/-
  The document's example: Parse of 1.5e3, run through Go's own ParseFloat. Condition: Go's listed variables hold what their text lays.
-/
import Derived.Test.YtnlbhnmiekanfaaGreatDoorLexAa
namespace Go.Proofs.YtnlbhnmiekanfaaGreatDoor
open Go.RowKit
set_option linter.unusedVariables false
namespace LxC
open Lx
theorem special1 (w : World) : Calls Tryz.prog 274 #[.string { data := #[49, 46, 53, 101, 51] }] w fun e w' => e = .returned (.tuple #[.float .f64 0, .int .i64 0, .bool false]) ∧ w' = w := by
  go_enter Tryz.func274, Tryz.ntmps274
  go_wp2
  go_ret3
  exact ⟨rfl, rfl⟩
theorem ret_u8 {k : IntKind} {a b : Int} (h : a = b) : Ending.returned (.int k a) = .returned (.int k b) := by rw [h]
theorem lower_of (c r : Int) (h : bits .or .u8 c 32 = r) (w : World) : Calls Tryz.prog 219 #[.int .u8 c] w fun e w' => e = .returned (.int .u8 r) ∧ w' = w := by
  have H := Lib.hid h
  clear h
  go_enter Tryz.func219, Tryz.ntmps219
  go_wp2
  go_ret
  exact ⟨ret_u8 H.out, rfl⟩
set_option maxRecDepth 100000 in
set_option maxHeartbeats 2000000 in
theorem readF1 (w : World) : Calls Tryz.prog 275 #[.string { data := #[49, 46, 53, 101, 51] }] w fun e w' => e = .returned (.tuple #[.int .u64 15, .int .i64 2, .bool false, .bool false, .bool false, .int .i64 5, .bool true]) ∧ w' = w := by
  have g0 : ({ data := #[49, 46, 53, 101, 51] } : ByteArray)[0].toNat = 49 := rfl
  have g1 : ({ data := #[49, 46, 53, 101, 51] } : ByteArray)[1].toNat = 46 := rfl
  have g2 : ({ data := #[49, 46, 53, 101, 51] } : ByteArray)[2].toNat = 53 := rfl
  have g3 : ({ data := #[49, 46, 53, 101, 51] } : ByteArray)[3].toNat = 101 := rfl
  have g4 : ({ data := #[49, 46, 53, 101, 51] } : ByteArray)[4].toNat = 51 := rfl
  go_enter Tryz.func275, Tryz.ntmps275
  go_wp2
  go_step3
  go_wp2
  go_step3
  go_wp2
  refine wp_loop_rounds 5 ?_
  rw [rounds_succ]
  go_wp2
  rw [rounds_succ]
  go_wp2
  rw [rounds_succ]
  go_wp2
  rw [rounds_succ]
  go_wp2_with (go_at_call 219; (first | refine (lower_of _ 101 (by kernel_rfl) _).mono ?_ | refine (lower_of _ 46 (by kernel_rfl) _).mono ?_); rintro e w' ⟨rfl, rfl⟩)
  refine wp_loop_rounds 3 ?_
  rw [rounds_succ]
  go_wp2
  rw [rounds_succ]
  go_wp2
  rw [Exit.noGoto_ret]
  exact bodyPost_ret (v := .tuple #[.int .u64 15, .int .i64 2, .bool false, .bool false, .bool false, .int .i64 5, .bool true]) (by simp [results, Tryz.results275, go_sem]) rfl ⟨rfl, rfl⟩
theorem exact1 (w : World) (hi : Laid w) :
    Calls Tryz.prog 285 #[.int .u64 15, .int .i64 2, .bool false] w fun e w' => (∃ f : Nat, e = .returned (.tuple #[.float .f64 f, .bool true])) ∧ ∃ k, w' = w.drewN k := by
  obtain ⟨h1, h2, p, o, c, h3, h4⟩ := hi
  obtain ⟨x, hx⟩ := h4 2 (by omega)
  clear h4
  obtain ⟨n, k, hr⟩ := run_fop .mul (.inl rfl) 85 (floatOfInt .f64 15) x w
  go_enter Tryz.func285, Tryz.ntmps285
  go_wp2
  go_ret2
  exact ⟨⟨n, rfl⟩, k, rfl⟩
theorem bool2_no (w : World) : Calls Tryz.prog 283 #[.bool false] w fun e w' => e = .returned (.int .u64 0) ∧ w' = w := by
  go_enter Tryz.func283, Tryz.ntmps283
  go_wp2
  go_ret
  exact ⟨rfl, rfl⟩
attribute [local go_sem] run_from run_bits
set_option maxRecDepth 100000 in
set_option maxHeartbeats 2000000 in
theorem atof1 (w : World) (hi : Laid w) :
    Calls Tryz.prog 268 #[.string { data := #[49, 46, 53, 101, 51] }] w fun e w' => (∃ f : Nat, e = .returned (.tuple #[.float .f64 f, .int .i64 5, .nilIface])) ∧ ∃ k, w' = w.drewN k := by
  have ho := hi.opt
  have c1 := exact1 w hi
  clear hi
  go_enter Tryz.func268, Tryz.ntmps268
  go_wp2_with (first
    | (go_at_call 274; refine (special1 _).mono ?_; rintro e w' ⟨rfl, rfl⟩)
    | (go_at_call 275; refine (readF1 _).mono ?_; rintro e w' ⟨rfl, rfl⟩)
    | (go_at_call 283; refine (bool2_no _).mono ?_; rintro e w' ⟨rfl, rfl⟩)
    | (go_at_call 285; refine c1.mono ?_; rintro e w' ⟨⟨f, rfl⟩, k, rfl⟩))
  go_ret3
  exact ⟨⟨_, rfl⟩, _, rfl⟩
theorem pre1 (w : World) (hi : Laid w) :
    Calls Tryz.prog 261 #[.string { data := #[49, 46, 53, 101, 51] }, .int .i64 64] w fun e w' => (∃ f : Nat, e = .returned (.tuple #[.float .f64 f, .int .i64 5, .nilIface])) ∧ ∃ k, w' = w.drewN k := by
  go_enter Tryz.func261, Tryz.ntmps261
  go_wp2_with (go_at_call 268; refine (atof1 _ hi).mono ?_; rintro e w' ⟨⟨f, rfl⟩, k, rfl⟩)
  go_ret3
  exact ⟨⟨_, rfl⟩, _, rfl⟩
theorem inner1 (w : World) (hi : Laid w) :
    Calls Tryz.prog 246 #[.string { data := #[49, 46, 53, 101, 51] }, .int .i64 64] w fun e w' => (∃ f : Nat, e = .returned (.tuple #[.float .f64 f, .nilIface])) ∧ ∃ k, w' = w.drewN k := by
  go_enter Tryz.func246, Tryz.ntmps246
  go_wp2_with (go_at_call 261; refine (pre1 _ hi).mono ?_; rintro e w' ⟨⟨f, rfl⟩, k, rfl⟩)
  go_ret2
  exact ⟨⟨_, rfl⟩, _, rfl⟩
theorem outer1 (w : World) (hi : Laid w) :
    Calls Tryz.prog 217 #[.string { data := #[49, 46, 53, 101, 51] }, .int .i64 64] w fun e w' => (∃ f : Nat, e = .returned (.tuple #[.float .f64 f, .nilIface])) ∧ ∃ k, w' = w.drewN k := by
  go_enter Tryz.func217, Tryz.ntmps217
  go_wp2_with (go_at_call 246; refine (inner1 _ hi).mono ?_; rintro e w' ⟨⟨f, rfl⟩, k, rfl⟩)
  go_ret2
  exact ⟨⟨_, rfl⟩, _, rfl⟩
theorem parse1 (w : World) (hi : Laid w) :
    Calls Tryz.prog 190 #[.string { data := #[49, 46, 53, 101, 51] }] w fun e w' => ∃ v : Int, e = .returned (.tuple #[.int .u64 v, .int .i64 0]) ∧ Below w.heap.size w w' := by
  have c1 := fun w => isText_ { data := #[49, 46, 53, 101, 51] } w (by decide)
  rw [show isReal (ByteArray.mk #[49, 46, 53, 101, 51]).data.toList = true by decide] at c1
  go_enter Tryz.func190, Tryz.ntmps190
  go_wp2_with (first
    | (go_at_call 216; refine (c1 _).mono ?_; rintro e w' ⟨rfl, rfl⟩)
    | (go_at_call 217; refine (outer1 _ hi).mono ?_; rintro e w' ⟨⟨f, rfl⟩, k, rfl⟩)
    | (go_at_call 29; refine (bits_ _ _).mono ?_; rintro e w' ⟨⟨v, rfl⟩, rfl⟩))
  go_ret2
  exact ⟨v, rfl, below_draws (Below.refl _ _) _⟩
theorem parseAt1 {w : World} (hi : Laid w) : ParseAt w.heap.size w { data := #[49, 46, 53, 101, 51] } :=
  fun W h1 h2 => parse1 W (hi.below h2 (Nat.le_refl _))
end LxC
end Go.Proofs.YtnlbhnmiekanfaaGreatDoor
