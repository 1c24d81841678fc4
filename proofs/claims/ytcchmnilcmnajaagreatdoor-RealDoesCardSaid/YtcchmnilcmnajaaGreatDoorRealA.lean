/-
  The document's example: Parse of 1.5e1, run through Go's own ParseFloat. Condition: Go's listed variables hold what their text lays.
-/
import Derived.Test.YtcchmnilcmnajaaGreatDoorRealD
import Derived.Control
import Derived.WalkMore
import Derived.LoopN
import Derived.Deep.QuietTactic
import Derived.BigQuiet
import Derived.Laws.Slices
namespace Go.Proofs.YtcchmnilcmnajaaGreatDoor
open Go.RowKit
set_option linter.unusedVariables false
namespace RA
open RM RC
theorem count1 (w : World) : Calls Tryz.prog 66 #[.string { data := #[49, 46, 53, 101, 49] }] w fun e w' => e = .returned (.int .i64 1) ∧ w' = w := by
  go_enter Tryz.func66, Tryz.ntmps66
  go_wp2
  refine wp_loop_rounds 2 ?_
  rw [rounds_succ]
  go_wp2
  rw [rounds_succ]
  go_wp2
  go_ret
  exact ⟨rfl, rfl⟩
theorem count2 (w : World) : Calls Tryz.prog 66 #[.string { data := #[53, 101, 49] }] w fun e w' => e = .returned (.int .i64 1) ∧ w' = w := by
  go_enter Tryz.func66, Tryz.ntmps66
  go_wp2
  refine wp_loop_rounds 2 ?_
  rw [rounds_succ]
  go_wp2
  rw [rounds_succ]
  go_wp2
  go_ret
  exact ⟨rfl, rfl⟩
theorem count3 (w : World) : Calls Tryz.prog 66 #[.string { data := #[49] }] w fun e w' => e = .returned (.int .i64 1) ∧ w' = w := by
  go_enter Tryz.func66, Tryz.ntmps66
  go_wp2
  refine wp_loop_rounds 2 ?_
  rw [rounds_succ]
  go_wp2
  rw [rounds_succ]
  go_wp2
  go_ret
  exact ⟨rfl, rfl⟩
theorem cut1P (w : World) : Calls Tryz.prog 82 #[.string { data := #[46, 53, 101, 49] }, .string { data := #[46] }] w fun e w' => e = .returned (.bool true) ∧ w' = w := by
  go_enter Tryz.func82, Tryz.ntmps82
  go_wp2
  go_ret
  exact ⟨congrArg (fun z => Ending.returned (.bool z)) (by kernel_rfl), rfl⟩
theorem cut1S (w : World) : Calls Tryz.prog 85 #[.string { data := #[46, 53, 101, 49] }, .string { data := #[46] }] w fun e w' => e = .returned (.tuple #[.string { data := #[53, 101, 49] }, .bool true]) ∧ w' = w := by
  go_enter Tryz.func85, Tryz.ntmps85
  go_wp2_with (go_at_call 82; refine (cut1P _).mono ?_; rintro e w' ⟨rfl, rfl⟩)
  go_ret2
  exact ⟨rfl, rfl⟩
theorem cut1 (w : World) : Calls Tryz.prog 67 #[.string { data := #[46, 53, 101, 49] }, .string { data := #[46] }] w fun e w' => e = .returned (.tuple #[.string { data := #[53, 101, 49] }, .bool true]) ∧ w' = w := by
  go_enter Tryz.func67, Tryz.ntmps67
  go_wp2_with (go_at_call 85; refine (cut1S _).mono ?_; rintro e w' ⟨rfl, rfl⟩)
  go_ret2
  exact ⟨rfl, rfl⟩
theorem cut2P (w : World) : Calls Tryz.prog 82 #[.string { data := #[101, 49] }, .string { data := #[101] }] w fun e w' => e = .returned (.bool true) ∧ w' = w := by
  go_enter Tryz.func82, Tryz.ntmps82
  go_wp2
  go_ret
  exact ⟨congrArg (fun z => Ending.returned (.bool z)) (by kernel_rfl), rfl⟩
theorem cut2S (w : World) : Calls Tryz.prog 85 #[.string { data := #[101, 49] }, .string { data := #[101] }] w fun e w' => e = .returned (.tuple #[.string { data := #[49] }, .bool true]) ∧ w' = w := by
  go_enter Tryz.func85, Tryz.ntmps85
  go_wp2_with (go_at_call 82; refine (cut2P _).mono ?_; rintro e w' ⟨rfl, rfl⟩)
  go_ret2
  exact ⟨rfl, rfl⟩
theorem cut2 (w : World) : Calls Tryz.prog 67 #[.string { data := #[101, 49] }, .string { data := #[101] }] w fun e w' => e = .returned (.tuple #[.string { data := #[49] }, .bool true]) ∧ w' = w := by
  go_enter Tryz.func67, Tryz.ntmps67
  go_wp2_with (go_at_call 85; refine (cut2S _).mono ?_; rintro e w' ⟨rfl, rfl⟩)
  go_ret2
  exact ⟨rfl, rfl⟩
theorem tail (w : World) : Calls Tryz.prog 68 #[.string { data := #[101, 49] }] w fun e w' => e = .returned (.bool true) ∧ w' = w := by
  go_enter Tryz.func68, Tryz.ntmps68
  go_wp2_with (first
    | (go_at_call 67; refine (cut2 _).mono ?_; rintro e w' ⟨rfl, rfl⟩)
    | (go_at_call 66; refine (count3 _).mono ?_; rintro e w' ⟨rfl, rfl⟩))
  go_ret
  exact ⟨rfl, rfl⟩
theorem text (w : World) : Calls Tryz.prog 46 #[.string { data := #[49, 46, 53, 101, 49] }] w fun e w' => e = .returned (.bool true) ∧ w' = w := by
  go_enter Tryz.func46, Tryz.ntmps46
  go_wp2_with (first
    | (go_at_call 67; refine (cut1 _).mono ?_; rintro e w' ⟨rfl, rfl⟩)
    | (go_at_call 66; (first | with_reducible refine (count1 _).mono ?_ | with_reducible refine (count2 _).mono ?_); rintro e w' ⟨rfl, rfl⟩)
    | (go_at_call 68; refine (tail _).mono ?_; rintro e w' ⟨rfl, rfl⟩))
  go_ret
  exact ⟨rfl, rfl⟩
theorem special (w : World) : Calls Tryz.prog 107 #[.string { data := #[49, 46, 53, 101, 49] }] w fun e w' => e = .returned (.tuple #[.float .f64 0, .int .i64 0, .bool false]) ∧ w' = w := by
  go_enter Tryz.func107, Tryz.ntmps107
  go_wp2
  go_ret3
  exact ⟨rfl, rfl⟩
theorem lower_of (c r : Int) (h : bits .or .u8 c 32 = r) (w : World) : Calls Tryz.prog 91 #[.int .u8 c] w fun e w' => e = .returned (.int .u8 r) ∧ w' = w := by
  have H := Lib.hid h
  clear h
  go_enter Tryz.func91, Tryz.ntmps91
  go_wp2
  go_ret
  exact ⟨RC.ret_int H.out, rfl⟩
set_option maxRecDepth 100000 in
set_option maxHeartbeats 2000000 in
theorem readF (w : World) : Calls Tryz.prog 108 #[.string { data := #[49, 46, 53, 101, 49] }] w fun e w' => e = .returned (.tuple #[.int .u64 15, .int .i64 0, .bool false, .bool false, .bool false, .int .i64 5, .bool true]) ∧ w' = w := by
  have g0 : ({ data := #[49, 46, 53, 101, 49] } : ByteArray)[0].toNat = 49 := rfl
  have g1 : ({ data := #[49, 46, 53, 101, 49] } : ByteArray)[1].toNat = 46 := rfl
  have g2 : ({ data := #[49, 46, 53, 101, 49] } : ByteArray)[2].toNat = 53 := rfl
  have g3 : ({ data := #[49, 46, 53, 101, 49] } : ByteArray)[3].toNat = 101 := rfl
  have g4 : ({ data := #[49, 46, 53, 101, 49] } : ByteArray)[4].toNat = 49 := rfl
  go_enter Tryz.func108, Tryz.ntmps108
  go_wp2
  go_step3
  go_wp2
  go_step3
  go_wp2
  refine wp_loop_rounds 5 ?_
  rw [rounds_succ]
  go_wp2
  rw [rounds_succ]
  go_wp2
  rw [rounds_succ]
  go_wp2
  rw [rounds_succ]
  go_wp2_with (go_at_call 91; (first | refine (lower_of _ 101 (by kernel_rfl) _).mono ?_ | refine (lower_of _ 46 (by kernel_rfl) _).mono ?_); rintro e w' ⟨rfl, rfl⟩)
  refine wp_loop_rounds 3 ?_
  rw [rounds_succ]
  go_wp2
  rw [rounds_succ]
  go_wp2
  rw [Exit.noGoto_ret]
  exact bodyPost_ret (v := .tuple #[.int .u64 15, .int .i64 0, .bool false, .bool false, .bool false, .int .i64 5, .bool true]) (by simp [results, Tryz.results108, go_sem]) rfl ⟨rfl, rfl⟩

theorem exact15 (w : World) (hi : w.cell? ⟨7, 0, none⟩ = some (.int .u64 52)) :
    Calls Tryz.prog 118 #[.int .u64 15, .int .i64 0, .bool false] w fun e w' => e = .returned (.tuple #[.float .f64 (floatOfInt .f64 15), .bool true]) ∧ w' = w := by
  go_enter Tryz.func118, Tryz.ntmps118
  go_wp2
  go_ret2
  exact ⟨rfl, rfl⟩
theorem bool2_no (w : World) : Calls Tryz.prog 116 #[.bool false] w fun e w' => e = .returned (.int .u64 0) ∧ w' = w := by
  go_enter Tryz.func116, Tryz.ntmps116
  go_wp2
  go_ret
  exact ⟨rfl, rfl⟩
attribute [local go_sem] run_from run_bits run_from'
set_option maxRecDepth 100000 in
set_option maxHeartbeats 2000000 in
theorem atof (w : World) (hi : w.cell? ⟨7, 0, none⟩ = some (.int .u64 52)) (ho : w.cell? ⟨6, 0, none⟩ = some (.bool true)) :
    Calls Tryz.prog 101 #[.string { data := #[49, 46, 53, 101, 49] }] w fun e w' => e = .returned (.tuple #[.float .f64 (floatOfInt .f64 15), .int .i64 5, .nilIface]) ∧ w' = w := by
  go_enter Tryz.func101, Tryz.ntmps101
  go_wp2_with (first
    | (go_at_call 107; refine (special _).mono ?_; rintro e w' ⟨rfl, rfl⟩)
    | (go_at_call 108; refine (readF _).mono ?_; rintro e w' ⟨rfl, rfl⟩)
    | (go_at_call 116; refine (bool2_no _).mono ?_; rintro e w' ⟨rfl, rfl⟩)
    | (go_at_call 118; refine (exact15 _ hi).mono ?_; rintro e w' ⟨rfl, rfl⟩))
  go_ret3
  exact ⟨rfl, rfl⟩
theorem pre (w : World) (hi : w.cell? ⟨7, 0, none⟩ = some (.int .u64 52)) (ho : w.cell? ⟨6, 0, none⟩ = some (.bool true)) :
    Calls Tryz.prog 86 #[.string { data := #[49, 46, 53, 101, 49] }, .int .i64 64] w fun e w' => e = .returned (.tuple #[.float .f64 (floatOfInt .f64 15), .int .i64 5, .nilIface]) ∧ w' = w := by
  go_enter Tryz.func86, Tryz.ntmps86
  go_wp2_with (go_at_call 101; refine (atof _ hi ho).mono ?_; rintro e w' ⟨rfl, rfl⟩)
  go_ret3
  exact ⟨rfl, rfl⟩
theorem inner (w : World) (hi : w.cell? ⟨7, 0, none⟩ = some (.int .u64 52)) (ho : w.cell? ⟨6, 0, none⟩ = some (.bool true)) :
    Calls Tryz.prog 69 #[.string { data := #[49, 46, 53, 101, 49] }, .int .i64 64] w fun e w' => e = .returned (.tuple #[.float .f64 (floatOfInt .f64 15), .nilIface]) ∧ w' = w := by
  go_enter Tryz.func69, Tryz.ntmps69
  go_wp2_with (go_at_call 86; refine (pre _ hi ho).mono ?_; rintro e w' ⟨rfl, rfl⟩)
  go_ret2
  exact ⟨rfl, rfl⟩
theorem outer (w : World) (hi : w.cell? ⟨7, 0, none⟩ = some (.int .u64 52)) (ho : w.cell? ⟨6, 0, none⟩ = some (.bool true)) :
    Calls Tryz.prog 47 #[.string { data := #[49, 46, 53, 101, 49] }, .int .i64 64] w fun e w' => e = .returned (.tuple #[.float .f64 (floatOfInt .f64 15), .nilIface]) ∧ w' = w := by
  go_enter Tryz.func47, Tryz.ntmps47
  go_wp2_with (go_at_call 69; refine (inner _ hi ho).mono ?_; rintro e w' ⟨rfl, rfl⟩)
  go_ret2
  exact ⟨rfl, rfl⟩
theorem fifteen : canon (floatOfInt .f64 15) = 4624633867356078080 := by kernel_rfl
theorem parse (w : World) (hi : w.cell? ⟨7, 0, none⟩ = some (.int .u64 52)) (ho : w.cell? ⟨6, 0, none⟩ = some (.bool true)) :
    Calls Tryz.prog 21 #[.string { data := #[49, 46, 53, 101, 49] }] w fun e w' => e = .returned (.tuple #[.int .u64 4624633867356078080, .int .i64 0]) ∧ w' = w := by
  have hb := fun w => bits_ (floatOfInt .f64 15) w
  rw [fifteen] at hb
  go_enter Tryz.func21, Tryz.ntmps21
  go_wp2_with (first
    | (go_at_call 46; refine (text _).mono ?_; rintro e w' ⟨rfl, rfl⟩)
    | (go_at_call 47; refine (outer _ hi ho).mono ?_; rintro e w' ⟨rfl, rfl⟩)
    | (go_at_call 26; refine (hb _).mono ?_; rintro e w' ⟨rfl, rfl⟩))
  go_ret2
  exact ⟨rfl, rfl⟩
theorem quo00 : fop .quo 0 0 = 9221120237041090560 := by kernel_rfl
theorem ends : toWord 18442240474082181120 = 2147483648 := by kernel_rfl
theorem awake (w : World) (hi : w.cell? ⟨7, 0, none⟩ = some (.int .u64 52)) (ho : w.cell? ⟨6, 0, none⟩ = some (.bool true)) :
    Calls Tryz.prog 6 #[] w fun e w' => e = .returned (.bool true) ∧ ∃ k, w' = w.drewN k := by
  have hq := fun w => do_quo 0 0 w
  rw [quo00] at hq
  have ht := fun w => toWord_ 18442240474082181120 w
  rw [ends] at ht
  go_enter Tryz.func6, Tryz.ntmps6
  go_wp2_with (first
    | (go_at_call 21; refine (parse _ hi ho).mono ?_; rintro e w' ⟨rfl, rfl⟩)
    | (go_at_call 7; refine (hq _).mono ?_; rintro e w' ⟨rfl, k, rfl⟩)
    | (go_at_call 15; refine (ht _).mono ?_; rintro e w' ⟨rfl, rfl⟩))
  go_ret
  exact ⟨rfl, _, rfl⟩
end RA
end Go.Proofs.YtcchmnilcmnajaaGreatDoor
