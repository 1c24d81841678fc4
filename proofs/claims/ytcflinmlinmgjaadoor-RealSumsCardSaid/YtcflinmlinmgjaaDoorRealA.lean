/-
  The document's example: Parse of 1.5e1, run through Go's own ParseFloat. Condition: Go's listed variables hold what their text lays.
-/
import Derived.Test.YtcflinmlinmgjaaDoorRealD
import Derived.Control
import Derived.WalkMore
import Derived.LoopN
import Derived.Deep.QuietTactic
import Derived.BigQuiet
import Derived.Laws.Slices
namespace Go.Proofs.YtcflinmlinmgjaaDoor
open Go.RowKit
set_option linter.unusedVariables false
namespace RA
open RM RC
theorem count1 (w : World) : Calls Tryd.prog 28 #[.string { data := #[49, 46, 53, 101, 49] }] w fun e w' => e = .returned (.int .i64 1) ∧ w' = w := by
  go_enter Tryd.func28, Tryd.ntmps28
  go_wp2
  refine wp_loop_rounds 2 ?_
  rw [rounds_succ]
  go_wp2
  rw [rounds_succ]
  go_wp2
  go_ret
  exact ⟨rfl, rfl⟩
theorem count2 (w : World) : Calls Tryd.prog 28 #[.string { data := #[53, 101, 49] }] w fun e w' => e = .returned (.int .i64 1) ∧ w' = w := by
  go_enter Tryd.func28, Tryd.ntmps28
  go_wp2
  refine wp_loop_rounds 2 ?_
  rw [rounds_succ]
  go_wp2
  rw [rounds_succ]
  go_wp2
  go_ret
  exact ⟨rfl, rfl⟩
theorem count3 (w : World) : Calls Tryd.prog 28 #[.string { data := #[49] }] w fun e w' => e = .returned (.int .i64 1) ∧ w' = w := by
  go_enter Tryd.func28, Tryd.ntmps28
  go_wp2
  refine wp_loop_rounds 2 ?_
  rw [rounds_succ]
  go_wp2
  rw [rounds_succ]
  go_wp2
  go_ret
  exact ⟨rfl, rfl⟩
theorem cut1P (w : World) : Calls Tryd.prog 39 #[.string { data := #[46, 53, 101, 49] }, .string { data := #[46] }] w fun e w' => e = .returned (.bool true) ∧ w' = w := by
  go_enter Tryd.func39, Tryd.ntmps39
  go_wp2
  go_ret
  exact ⟨congrArg (fun z => Ending.returned (.bool z)) (by kernel_rfl), rfl⟩
theorem cut1S (w : World) : Calls Tryd.prog 33 #[.string { data := #[46, 53, 101, 49] }, .string { data := #[46] }] w fun e w' => e = .returned (.tuple #[.string { data := #[53, 101, 49] }, .bool true]) ∧ w' = w := by
  go_enter Tryd.func33, Tryd.ntmps33
  go_wp2_with (go_at_call 39; refine (cut1P _).mono ?_; rintro e w' ⟨rfl, rfl⟩)
  go_ret2
  exact ⟨rfl, rfl⟩
theorem cut1 (w : World) : Calls Tryd.prog 29 #[.string { data := #[46, 53, 101, 49] }, .string { data := #[46] }] w fun e w' => e = .returned (.tuple #[.string { data := #[53, 101, 49] }, .bool true]) ∧ w' = w := by
  go_enter Tryd.func29, Tryd.ntmps29
  go_wp2_with (go_at_call 33; refine (cut1S _).mono ?_; rintro e w' ⟨rfl, rfl⟩)
  go_ret2
  exact ⟨rfl, rfl⟩
theorem cut2P (w : World) : Calls Tryd.prog 39 #[.string { data := #[101, 49] }, .string { data := #[101] }] w fun e w' => e = .returned (.bool true) ∧ w' = w := by
  go_enter Tryd.func39, Tryd.ntmps39
  go_wp2
  go_ret
  exact ⟨congrArg (fun z => Ending.returned (.bool z)) (by kernel_rfl), rfl⟩
theorem cut2S (w : World) : Calls Tryd.prog 33 #[.string { data := #[101, 49] }, .string { data := #[101] }] w fun e w' => e = .returned (.tuple #[.string { data := #[49] }, .bool true]) ∧ w' = w := by
  go_enter Tryd.func33, Tryd.ntmps33
  go_wp2_with (go_at_call 39; refine (cut2P _).mono ?_; rintro e w' ⟨rfl, rfl⟩)
  go_ret2
  exact ⟨rfl, rfl⟩
theorem cut2 (w : World) : Calls Tryd.prog 29 #[.string { data := #[101, 49] }, .string { data := #[101] }] w fun e w' => e = .returned (.tuple #[.string { data := #[49] }, .bool true]) ∧ w' = w := by
  go_enter Tryd.func29, Tryd.ntmps29
  go_wp2_with (go_at_call 33; refine (cut2S _).mono ?_; rintro e w' ⟨rfl, rfl⟩)
  go_ret2
  exact ⟨rfl, rfl⟩
theorem tail (w : World) : Calls Tryd.prog 30 #[.string { data := #[101, 49] }] w fun e w' => e = .returned (.bool true) ∧ w' = w := by
  go_enter Tryd.func30, Tryd.ntmps30
  go_wp2_with (first
    | (go_at_call 29; refine (cut2 _).mono ?_; rintro e w' ⟨rfl, rfl⟩)
    | (go_at_call 28; refine (count3 _).mono ?_; rintro e w' ⟨rfl, rfl⟩))
  go_ret
  exact ⟨rfl, rfl⟩
theorem text (w : World) : Calls Tryd.prog 21 #[.string { data := #[49, 46, 53, 101, 49] }] w fun e w' => e = .returned (.bool true) ∧ w' = w := by
  go_enter Tryd.func21, Tryd.ntmps21
  go_wp2_with (first
    | (go_at_call 29; refine (cut1 _).mono ?_; rintro e w' ⟨rfl, rfl⟩)
    | (go_at_call 28; (first | with_reducible refine (count1 _).mono ?_ | with_reducible refine (count2 _).mono ?_); rintro e w' ⟨rfl, rfl⟩)
    | (go_at_call 30; refine (tail _).mono ?_; rintro e w' ⟨rfl, rfl⟩))
  go_ret
  exact ⟨rfl, rfl⟩
theorem special (w : World) : Calls Tryd.prog 45 #[.string { data := #[49, 46, 53, 101, 49] }] w fun e w' => e = .returned (.tuple #[.float .f64 0, .int .i64 0, .bool false]) ∧ w' = w := by
  go_enter Tryd.func45, Tryd.ntmps45
  go_wp2
  go_ret3
  exact ⟨rfl, rfl⟩
theorem lower_of (c r : Int) (h : bits .or .u8 c 32 = r) (w : World) : Calls Tryd.prog 62 #[.int .u8 c] w fun e w' => e = .returned (.int .u8 r) ∧ w' = w := by
  have H := Lib.hid h
  clear h
  go_enter Tryd.func62, Tryd.ntmps62
  go_wp2
  go_ret
  exact ⟨RC.ret_int H.out, rfl⟩
set_option maxRecDepth 100000 in
set_option maxHeartbeats 2000000 in
theorem readF (w : World) : Calls Tryd.prog 46 #[.string { data := #[49, 46, 53, 101, 49] }] w fun e w' => e = .returned (.tuple #[.int .u64 15, .int .i64 0, .bool false, .bool false, .bool false, .int .i64 5, .bool true]) ∧ w' = w := by
  have g0 : ({ data := #[49, 46, 53, 101, 49] } : ByteArray)[0].toNat = 49 := rfl
  have g1 : ({ data := #[49, 46, 53, 101, 49] } : ByteArray)[1].toNat = 46 := rfl
  have g2 : ({ data := #[49, 46, 53, 101, 49] } : ByteArray)[2].toNat = 53 := rfl
  have g3 : ({ data := #[49, 46, 53, 101, 49] } : ByteArray)[3].toNat = 101 := rfl
  have g4 : ({ data := #[49, 46, 53, 101, 49] } : ByteArray)[4].toNat = 49 := rfl
  go_enter Tryd.func46, Tryd.ntmps46
  go_wp2
  go_step3
  go_wp2
  go_step3
  go_wp2
  refine wp_loop_rounds 5 ?_
  rw [rounds_succ]
  go_wp2
  rw [rounds_succ]
  go_wp2
  rw [rounds_succ]
  go_wp2
  rw [rounds_succ]
  go_wp2_with (go_at_call 62; (first | refine (lower_of _ 101 (by kernel_rfl) _).mono ?_ | refine (lower_of _ 46 (by kernel_rfl) _).mono ?_); rintro e w' ⟨rfl, rfl⟩)
  refine wp_loop_rounds 3 ?_
  rw [rounds_succ]
  go_wp2
  rw [rounds_succ]
  go_wp2
  rw [Exit.noGoto_ret]
  exact bodyPost_ret (v := .tuple #[.int .u64 15, .int .i64 0, .bool false, .bool false, .bool false, .int .i64 5, .bool true]) (by simp [results, Tryd.results46, go_sem]) rfl ⟨rfl, rfl⟩

theorem exact15 (w : World) (hi : w.cell? ⟨5, 0, none⟩ = some (.int .u64 52)) :
    Calls Tryd.prog 56 #[.int .u64 15, .int .i64 0, .bool false] w fun e w' => e = .returned (.tuple #[.float .f64 (floatOfInt .f64 15), .bool true]) ∧ w' = w := by
  go_enter Tryd.func56, Tryd.ntmps56
  go_wp2
  go_ret2
  exact ⟨rfl, rfl⟩
theorem bool2_no (w : World) : Calls Tryd.prog 54 #[.bool false] w fun e w' => e = .returned (.int .u64 0) ∧ w' = w := by
  go_enter Tryd.func54, Tryd.ntmps54
  go_wp2
  go_ret
  exact ⟨rfl, rfl⟩
attribute [local go_sem] run_from run_bits run_from'
set_option maxRecDepth 100000 in
set_option maxHeartbeats 2000000 in
theorem atof (w : World) (hi : w.cell? ⟨5, 0, none⟩ = some (.int .u64 52)) (ho : w.cell? ⟨4, 0, none⟩ = some (.bool true)) :
    Calls Tryd.prog 41 #[.string { data := #[49, 46, 53, 101, 49] }] w fun e w' => e = .returned (.tuple #[.float .f64 (floatOfInt .f64 15), .int .i64 5, .nilIface]) ∧ w' = w := by
  go_enter Tryd.func41, Tryd.ntmps41
  go_wp2_with (first
    | (go_at_call 45; refine (special _).mono ?_; rintro e w' ⟨rfl, rfl⟩)
    | (go_at_call 46; refine (readF _).mono ?_; rintro e w' ⟨rfl, rfl⟩)
    | (go_at_call 54; refine (bool2_no _).mono ?_; rintro e w' ⟨rfl, rfl⟩)
    | (go_at_call 56; refine (exact15 _ hi).mono ?_; rintro e w' ⟨rfl, rfl⟩))
  go_ret3
  exact ⟨rfl, rfl⟩
theorem pre (w : World) (hi : w.cell? ⟨5, 0, none⟩ = some (.int .u64 52)) (ho : w.cell? ⟨4, 0, none⟩ = some (.bool true)) :
    Calls Tryd.prog 34 #[.string { data := #[49, 46, 53, 101, 49] }, .int .i64 64] w fun e w' => e = .returned (.tuple #[.float .f64 (floatOfInt .f64 15), .int .i64 5, .nilIface]) ∧ w' = w := by
  go_enter Tryd.func34, Tryd.ntmps34
  go_wp2_with (go_at_call 41; refine (atof _ hi ho).mono ?_; rintro e w' ⟨rfl, rfl⟩)
  go_ret3
  exact ⟨rfl, rfl⟩
theorem inner (w : World) (hi : w.cell? ⟨5, 0, none⟩ = some (.int .u64 52)) (ho : w.cell? ⟨4, 0, none⟩ = some (.bool true)) :
    Calls Tryd.prog 31 #[.string { data := #[49, 46, 53, 101, 49] }, .int .i64 64] w fun e w' => e = .returned (.tuple #[.float .f64 (floatOfInt .f64 15), .nilIface]) ∧ w' = w := by
  go_enter Tryd.func31, Tryd.ntmps31
  go_wp2_with (go_at_call 34; refine (pre _ hi ho).mono ?_; rintro e w' ⟨rfl, rfl⟩)
  go_ret2
  exact ⟨rfl, rfl⟩
theorem outer (w : World) (hi : w.cell? ⟨5, 0, none⟩ = some (.int .u64 52)) (ho : w.cell? ⟨4, 0, none⟩ = some (.bool true)) :
    Calls Tryd.prog 22 #[.string { data := #[49, 46, 53, 101, 49] }, .int .i64 64] w fun e w' => e = .returned (.tuple #[.float .f64 (floatOfInt .f64 15), .nilIface]) ∧ w' = w := by
  go_enter Tryd.func22, Tryd.ntmps22
  go_wp2_with (go_at_call 31; refine (inner _ hi ho).mono ?_; rintro e w' ⟨rfl, rfl⟩)
  go_ret2
  exact ⟨rfl, rfl⟩
theorem fifteen : canon (floatOfInt .f64 15) = 4624633867356078080 := by kernel_rfl
theorem parse (w : World) (hi : w.cell? ⟨5, 0, none⟩ = some (.int .u64 52)) (ho : w.cell? ⟨4, 0, none⟩ = some (.bool true)) :
    Calls Tryd.prog 12 #[.string { data := #[49, 46, 53, 101, 49] }] w fun e w' => e = .returned (.tuple #[.int .u64 4624633867356078080, .int .i64 0]) ∧ w' = w := by
  have hb := fun w => bits_ (floatOfInt .f64 15) w
  rw [fifteen] at hb
  go_enter Tryd.func12, Tryd.ntmps12
  go_wp2_with (first
    | (go_at_call 21; refine (text _).mono ?_; rintro e w' ⟨rfl, rfl⟩)
    | (go_at_call 22; refine (outer _ hi ho).mono ?_; rintro e w' ⟨rfl, rfl⟩)
    | (go_at_call 15; refine (hb _).mono ?_; rintro e w' ⟨rfl, rfl⟩))
  go_ret2
  exact ⟨rfl, rfl⟩
theorem quo00 : fop .quo 0 0 = 9221120237041090560 := by kernel_rfl
theorem ends : toWord 18442240474082181120 = 2147483648 := by kernel_rfl
theorem awake (w : World) (hi : w.cell? ⟨5, 0, none⟩ = some (.int .u64 52)) (ho : w.cell? ⟨4, 0, none⟩ = some (.bool true)) :
    Calls Tryd.prog 6 #[] w fun e w' => e = .returned (.bool true) ∧ ∃ k, w' = w.drewN k := by
  have hq := fun w => do_quo 0 0 w
  rw [quo00] at hq
  have ht := fun w => toWord_ 18442240474082181120 w
  rw [ends] at ht
  go_enter Tryd.func6, Tryd.ntmps6
  go_wp2_with (first
    | (go_at_call 12; refine (parse _ hi ho).mono ?_; rintro e w' ⟨rfl, rfl⟩)
    | (go_at_call 13; refine (hq _).mono ?_; rintro e w' ⟨rfl, k, rfl⟩)
    | (go_at_call 14; refine (ht _).mono ?_; rintro e w' ⟨rfl, rfl⟩))
  go_ret
  exact ⟨rfl, _, rfl⟩
end RA
end Go.Proofs.YtcflinmlinmgjaaDoor
