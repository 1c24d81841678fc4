/-
  Decimals in memory, rounded to whole numbers: some number comes. No condition.
-/
import Derived.Test.YtldglmehchkbeaaGreatDoorLexBl
namespace Go.Proofs.YtldglmehchkbeaaGreatDoor
open Go.RowKit
set_option linter.unusedVariables false
set_option linter.unusedSimpArgs false
namespace LxC
open Lx
def SomeBool (w : World) (e : Ending) (w' : World) : Prop := (∃ b : Bool, e = .returned (.bool b)) ∧ w = w'
set_option maxRecDepth 100000 in
set_option maxHeartbeats 8000000 in
theorem up_ (w : World) (G nd : Nat) (c : Nat → Nat) (dp : Int) (ng tr : Bool) (h : DcAt w G c nd dp ng tr) (hv : Vd c nd) (hdp1 : -1000000000 ≤ dp) (hdp2 : dp ≤ 1000000000) :
    Calls Tryz.prog 179 #[.pointer (some ⟨G, 0, none⟩), .int .i64 dp] w (SomeBool w) := by
  have k0 := h.nd_
  have k3 := h.tr_
  have hnd1 := hv.one
  have hnd8 := hv.most
  rcases (show dp < 0 ∨ (nd : Int) ≤ dp ∨ ∃ d : Nat, dp = d ∧ d < nd by
    by_cases h1 : dp < 0
    · exact .inl h1
    · by_cases h2 : (nd : Int) ≤ dp
      · exact .inr (.inl h2)
      · exact .inr (.inr ⟨dp.toNat, by omega, by omega⟩)) with h1 | h1 | ⟨d, rfl, h1⟩
  · clear h hv
    go_enter Tryz.func179, Tryz.ntmps179
    go_wp2
    go_ret
    exact ⟨⟨_, rfl⟩, rfl⟩
  · have h2 : ¬ dp < 0 := by omega
    have h3 : 0 ≤ dp := by omega
    have h4 : dp ≥ (nd : Int) := h1
    clear h hv
    go_enter Tryz.func179, Tryz.ntmps179
    go_wp2
    go_ret
    exact ⟨⟨_, rfl⟩, rfl⟩
  · have h2 : ¬ (d : Int) < 0 := by omega
    have h4 : ¬ ((d : Int) ≥ (nd : Int)) := by omega
    have h5 : ¬ (nd ≤ d) := by omega
    have k1 : w.cell? ⟨G, d, none⟩ = some (.int .u8 ((c d : Nat) : Int)) := h.byte (by omega)
    have hd8 : d < 800 := by omega
    by_cases hc : c d = 53
    · have B1 : (((c d : Nat) : Int) == 53) = true := by rw [beq_iff_eq]; omega
      by_cases he : d + 1 = nd
      · have B2 : ((d : Int) + 1 == (nd : Int)) = true := by rw [beq_iff_eq]; omega
        cases tr
        · by_cases hd0 : d = 0
          · have hd1 : ¬ ((d : Int) > 0) := by omega
            have hd2 : ¬ (0 < d) := by omega
            clear h hv hc he hd0
            go_enter Tryz.func179, Tryz.ntmps179
            go_wp2
            go_ret
            exact ⟨⟨_, rfl⟩, rfl⟩
          · have hd1 : ((d : Int) > 0) := by omega
            have hd2 : 0 < d := by omega
            have k2 : w.cell? ⟨G, d - 1, none⟩ = some (.int .u8 ((c (d - 1) : Nat) : Int)) := h.byte (by omega)
            clear h hv hc he hd0
            go_enter Tryz.func179, Tryz.ntmps179
            go_wp2
            go_ret
            exact ⟨⟨_, rfl⟩, rfl⟩
        · clear h hv hc he
          go_enter Tryz.func179, Tryz.ntmps179
          go_wp2
          go_ret
          exact ⟨⟨_, rfl⟩, rfl⟩
      · have B2 : ((d : Int) + 1 == (nd : Int)) = false := by rw [beq_eq_false_iff_ne]; omega
        clear h hv hc he
        go_enter Tryz.func179, Tryz.ntmps179
        go_wp2
        go_ret
        exact ⟨⟨_, rfl⟩, rfl⟩
    · have B1 : (((c d : Nat) : Int) == 53) = false := by rw [beq_eq_false_iff_ne]; omega
      clear h hv hc
      go_enter Tryz.func179, Tryz.ntmps179
      go_wp2
      go_ret
      exact ⟨⟨_, rfl⟩, rfl⟩
def SomeWord (w : World) (e : Ending) (w' : World) : Prop := (∃ x : Int, e = .returned (.int .u64 x)) ∧ w = w'
set_option maxRecDepth 100000 in
set_option maxHeartbeats 8000000 in
theorem whole_ (w : World) (G nd : Nat) (c : Nat → Nat) (dp : Int) (ng tr : Bool) (h : DcAt w G c nd dp ng tr) (hv : Vd c nd) (hdp1 : -1000000000 ≤ dp) (hdp2 : dp ≤ 1000000000) :
    Calls Tryz.prog 171 #[.pointer (some ⟨G, 0, none⟩)] w (SomeWord w) := by
  have k0 := h.nd_
  have k2 := h.dp_
  have HB := fun (i : Nat) (hi : i < nd) => (show w.cell? ⟨G, i, none⟩ = some (.int .u8 ((c i : Nat) : Int)) from h.byte (by have := hv.most; omega))
  have hnd8 := hv.most
  have cu := up_ w G nd c dp ng tr h hv hdp1 hdp2
  have H2 := Lib.hid HB
  clear h hv HB
  by_cases hbig : dp > 20
  · clear cu
    go_enter Tryz.func171, Tryz.ntmps171
    go_wp2
    go_ret
    exact ⟨⟨_, rfl⟩, rfl⟩
  · have hbig2 : dp ≤ 20 := by omega
    go_enter Tryz.func171, Tryz.ntmps171
    go_wp2
    go_loopg [3, 4] 800 (fun gg v3 v4 wr => ∃ (i : Nat) (x : Int), nd - i ≤ gg ∧ i ≤ nd ∧ v3 = .int .i64 (i : Int) ∧ v4 = .int .u64 x ∧ wr = w)
    case atStart => exact ⟨0, 0, by omega, by omega, rfl, rfl, rfl⟩
    case round =>
      obtain ⟨i, x, hgg, hi, rfl, rfl, rfl⟩ := hrel
      by_cases hid : (i : Int) < dp
      · by_cases hin : i < nd
        · have hin2 : (i : Int) < (nd : Int) := by omega
          have k1 := H2.out i hin
          have hi8 : i < 800 := by omega
          go_wp2
          go_roundg (nd - (i + 1))
          case measure => omega
          case rel => exact ⟨i + 1, _, by omega, by omega, by go_num, rfl, rfl⟩
        · have hin2 : ¬ (i : Int) < (nd : Int) := by omega
          go_wp2
          go_loopg [3, 4] 800 (fun gg v3 v4 wz => ∃ (j : Nat) (x : Int), (20 : Int) - j ≤ gg ∧ j ≤ 900 ∧ v3 = .int .i64 (j : Int) ∧ v4 = .int .u64 x ∧ wz = wr)
          case atStart => exact ⟨i, _, by omega, by omega, rfl, rfl, rfl⟩
          case round =>
            clear hid hin hin2
            obtain ⟨j, x, hgg2, hj9, rfl, rfl, rfl⟩ := hrel
            by_cases hjd : (j : Int) < dp
            · go_wp2
              go_roundg (20 - (j + 1))
              case measure => omega
              case rel => exact ⟨j + 1, _, by omega, by omega, by go_num, rfl, rfl⟩
            · go_wp2_with ((with_reducible refine cu.mono ?_); rintro e' w' ⟨⟨b, rfl⟩, rfl⟩)
              all_goals
                go_ret
                exact ⟨⟨_, rfl⟩, rfl⟩
      · go_wp2
        go_loopg [3, 4] 800 (fun gg v3 v4 wz => ∃ (j : Nat) (x : Int), (20 : Int) - j ≤ gg ∧ j ≤ 900 ∧ v3 = .int .i64 (j : Int) ∧ v4 = .int .u64 x ∧ wz = wr)
        case atStart => exact ⟨i, _, by omega, by omega, rfl, rfl, rfl⟩
        case round =>
          clear hid
          obtain ⟨j, x, hgg2, hj9, rfl, rfl, rfl⟩ := hrel
          by_cases hjd : (j : Int) < dp
          · go_wp2
            go_roundg (20 - (j + 1))
            case measure => omega
            case rel => exact ⟨j + 1, _, by omega, by omega, by go_num, rfl, rfl⟩
          · go_wp2_with ((with_reducible refine cu.mono ?_); rintro e' w' ⟨⟨b, rfl⟩, rfl⟩)
            all_goals
              go_ret
              exact ⟨⟨_, rfl⟩, rfl⟩
end LxC
end Go.Proofs.YtldglmehchkbeaaGreatDoor
