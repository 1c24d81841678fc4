/-
  Decimals in memory, moved by powers of two, and rounded. Condition: Go's own table lies.
-/
import Derived.Test.YtldglmehchkbeaaGreatDoorLexBk
namespace Go.Proofs.YtldglmehchkbeaaGreatDoor
open Go.RowKit
set_option linter.unusedVariables false
set_option linter.unusedSimpArgs false
namespace LxC
open Lx
set_option maxRecDepth 100000 in
set_option maxHeartbeats 8000000 in
theorem shl_ (w : World) (G nd k : Nat) (c : Nat → Nat) (dp : Int) (ng tr : Bool) (h : DcAt w G c nd dp ng tr) (hv : Vd c nd) (hk1 : 1 ≤ k) (hk2 : k ≤ 60) (hC : Cheats w) (hdp1 : -1000000000 ≤ dp) (hdp2 : dp ≤ 1000000000) :
    Calls Tryz.prog 170 #[.pointer (some ⟨G, 0, none⟩), .int .i64 (k : Int)] w (LeftPost G nd c dp ng w) := by
  have cl := left_ w G nd k c dp ng tr h hv hk1 hk2 hC hdp1 hdp2
  have k0 := h.nd_
  have N0 : ((nd : Int) == 0) = false := by rw [beq_eq_false_iff_ne]; have := hv.one; omega
  have hg : ((k : Int) > 0) := by omega
  have hg0 : 0 < k := hk1
  have hg2 : ¬ ((k : Int) > 60) := by omega
  have hg3 : (k : Int) ≤ 60 := by omega
  clear h hv hC
  go_enter Tryz.func170, Tryz.ntmps170
  go_wp2
  go_loopg [1] 1 (fun gg v1 wr => v1 = .int .i64 (k : Int) ∧ wr = w)
  case atStart => exact ⟨rfl, rfl⟩
  case round =>
    obtain ⟨rfl, rfl⟩ := hrel
    go_wp2_with ((with_reducible refine cl.mono ?_); rintro e' w' ⟨rfl, hD, hB⟩; have HD := Lib.hid hD; have HB := Lib.hid hB; clear hD hB)
    go_end0
    exact ⟨rfl, HD.out, HB.out⟩
set_option maxRecDepth 100000 in
set_option maxHeartbeats 8000000 in
theorem shr_ (w : World) (G nd k : Nat) (c : Nat → Nat) (dp : Int) (ng tr : Bool) (h : DcAt w G c nd dp ng tr) (hv : Vd c nd) (hk1 : 1 ≤ k) (hk2 : k ≤ 60) (hdp1 : -1000000000 ≤ dp) (hdp2 : dp ≤ 1000000000) :
    Calls Tryz.prog 170 #[.pointer (some ⟨G, 0, none⟩), .int .i64 (-(k : Int))] w (RightPost G nd c dp ng w) := by
  have cl := right_ w G nd k c dp ng tr h hv hk1 hk2 hdp1 hdp2
  have k0 := h.nd_
  have N0 : ((nd : Int) == 0) = false := by rw [beq_eq_false_iff_ne]; have := hv.one; omega
  have hg : ¬ (-(k : Int) > 0) := by omega
  have hg0 : 0 < k := hk1
  have hg1 : (-(k : Int) < 0) := by omega
  have hg2 : ¬ (-(k : Int) < -60) := by omega
  have hg3 : (k : Int) ≤ 60 := by omega
  clear h hv
  go_enter Tryz.func170, Tryz.ntmps170
  go_wp2
  go_loopg [1] 1 (fun gg v1 wr => v1 = .int .i64 (-(k : Int)) ∧ wr = w)
  case atStart => exact ⟨rfl, rfl⟩
  case round =>
    obtain ⟨rfl, rfl⟩ := hrel
    go_wp2_with ((with_reducible refine cl.mono ?_); rintro e' w' ⟨rfl, hD, hB⟩; have HD := Lib.hid hD; have HB := Lib.hid hB; clear hD hB)
    go_end0
    exact ⟨rfl, HD.out, HB.out⟩
/-- moved far to the right -/
def FarPost (G : Nat) (dp : Int) (ng : Bool) (w : World) (e : Ending) (w' : World) : Prop := e = .returned (.tuple #[]) ∧ (∃ (c' : Nat → Nat) (nd' : Nat) (dp' : Int) (tr' : Bool), DcAt w' G c' nd' dp' ng tr' ∧ Vd c' nd' ∧ dp - 16000000 ≤ dp' ∧ dp' ≤ dp) ∧ Below G w w'
set_option maxRecDepth 100000 in
set_option maxHeartbeats 8000000 in
theorem far_ (w : World) (G nd k : Nat) (c : Nat → Nat) (dp : Int) (ng tr : Bool) (h : DcAt w G c nd dp ng tr) (hv : Vd c nd) (hk1 : 1 ≤ k) (hk2 : k ≤ 1000000) (hdp1 : -50000000 ≤ dp) (hdp2 : dp ≤ 50000000) :
    Calls Tryz.prog 170 #[.pointer (some ⟨G, 0, none⟩), .int .i64 (-(k : Int))] w (FarPost G dp ng w) := by
  have k0 := h.nd_
  have N0 : ((nd : Int) == 0) = false := by rw [beq_eq_false_iff_ne]; have := hv.one; omega
  have H0 := Lib.hid h
  have HV := Lib.hid hv
  have hg : ¬ (-(k : Int) > 0) := by omega
  have hg0 : 0 < k := hk1
  have hg1 : (-(k : Int) < 0) := by omega
  clear h hv
  go_enter Tryz.func170, Tryz.ntmps170
  go_wp2
  go_loopg [1] k (fun gg v1 wr => ∃ (m nd1 : Nat) (c1 : Nat → Nat) (dp1 : Int) (t1 : Bool), m ≤ gg ∧ 1 ≤ m ∧ m ≤ k ∧ v1 = .int .i64 (-(m : Int)) ∧ dp - 15 * ((k : Int) - (m : Int)) ≤ dp1 ∧ dp1 ≤ dp ∧ Aside (DcAt wr G c1 nd1 dp1 ng t1) ∧ Aside (Vd c1 nd1) ∧ Aside (Below G w wr))
  case atStart => exact ⟨k, nd, c, dp, tr, by omega, by omega, by omega, rfl, by omega, by omega, H0.out, HV.out, Below.refl _ _⟩
  case round =>
    obtain ⟨m, nd1, c1, dp1, t1, hgg, hm1, hmk, rfl, hd1, hd2, A1, A2, A3⟩ := hrel
    by_cases hm : 60 < m
    · have hm2 : (-(m : Int) < -60) := by omega
      have cl := right_ wr G nd1 60 c1 dp1 ng t1 A1.out A2.out (by omega) (by omega) (by omega) (by omega)
      have cl2 : Calls Tryz.prog 178 #[.pointer (some ⟨G, 0, none⟩), .int .u64 60] wr (RightPost G nd1 c1 dp1 ng wr) := cl
      clear cl
      go_wp2_with ((with_reducible refine cl2.mono ?_); rintro e' w' ⟨rfl, ⟨c2, nd2, ρ, t2, hD, hV, hρ, -⟩, hB⟩; have HD := Lib.hid hD; have HV2 := Lib.hid hV; have HB := Lib.hid hB; clear hD hB hV)
      go_roundg (m - 60)
      case measure => omega
      case rel => exact ⟨m - 60, nd2, c2, _, t2, by omega, by omega, by omega, by go_num, by omega, by omega, HD.out, HV2.out, A3.out.trans HB.out⟩
    · have hm2 : ¬ (-(m : Int) < -60) := by omega
      have hm3 : (m : Int) ≤ 60 := by omega
      have cl := right_ wr G nd1 m c1 dp1 ng t1 A1.out A2.out (by omega) (by omega) (by omega) (by omega)
      go_wp2_with ((with_reducible refine cl.mono ?_); rintro e' w' ⟨rfl, ⟨c2, nd2, ρ, t2, hD, hV, hρ, -⟩, hB⟩; have HD := Lib.hid hD; have HV2 := Lib.hid hV; have HB := Lib.hid hB; clear hD hB hV)
      go_end0
      exact ⟨rfl, ⟨c2, nd2, _, t2, HD.out, HV2.out, by omega, by omega⟩, A3.out.trans HB.out⟩
def AnyBool (w : World) (e : Ending) (w' : World) : Prop := (∃ b : Bool, e = .returned (.bool b)) ∧ ∃ k, w' = w.drewN k
end LxC
end Go.Proofs.YtldglmehchkbeaaGreatDoor
