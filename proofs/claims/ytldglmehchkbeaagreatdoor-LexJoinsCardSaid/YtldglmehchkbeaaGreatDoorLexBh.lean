/-
  Decimals in memory: noughts at their end are dropped; is a decimal's beginning below a text? No condition.
-/
import Derived.Test.YtldglmehchkbeaaGreatDoorLexBg
import Derived.Deep.QuietTactic
import Derived.BigQuiet
namespace Go.Proofs.YtldglmehchkbeaaGreatDoor
open Go.RowKit
set_option linter.unusedVariables false
set_option linter.unusedSimpArgs false
namespace LxC
open Lx
theorem DcAt.draws {w : World} {G nd : Nat} {c : Nat → Nat} {dp : Int} {ng tr : Bool} (h : DcAt w G c nd dp ng tr) (k : Nat) : DcAt (w.drewN k) G c nd dp ng tr := ⟨h.row⟩
def TrimPost (G : Nat) (c : Nat → Nat) (dp : Int) (ng tr : Bool) (w : World) (e : Ending) (w' : World) : Prop := e = .returned (.tuple #[]) ∧ (∃ nd', DcAt w' G c nd' dp ng tr ∧ Vd c nd') ∧ Below G w w'
set_option maxRecDepth 100000 in
set_option maxHeartbeats 4000000 in
theorem trim_ (w : World) (G nd : Nat) (c : Nat → Nat) (dp : Int) (ng tr : Bool) (h : DcAt w G c nd dp ng tr) (hv : Vd c nd) : Calls Tryz.prog 183 #[.pointer (some ⟨G, 0, none⟩)] w (TrimPost G c dp ng tr w) := by
  have HV := Lib.hid hv
  have H0 := Lib.hid h
  clear h hv
  go_enter Tryz.func183, Tryz.ntmps183
  go_wp2
  go_loopg [] nd (fun gg wr => ∃ k : Nat, k ≤ gg ∧ k ≤ nd ∧ 1 ≤ k ∧ Aside (DcAt wr G c k dp ng tr) ∧ Aside (Below G w wr))
  case atStart => exact ⟨nd, by omega, by omega, HV.out.one, H0.out, Below.refl _ _⟩
  case round =>
    obtain ⟨k, hgg, hk, hk1, A1, A2⟩ := hrel
    have hnd := HV.out.most
    have k0 := A1.out.nd_
    have k1 : wr.cell? ⟨G, k - 1, none⟩ = _ := A1.out.byte (i := k - 1) (by omega)
    have hpos : (0 : Int) < (k : Int) := by omega
    have hp0 : 0 < k := hk1
    have hw1 : IntKind.i64.wrap ((k : Int) - 1) = ((k - 1 : Nat) : Int) := by rw [IntKind.wrap_i64]; omega
    by_cases hz : c (k - 1) = 48
    · have hk2 : 2 ≤ k := by
        have := HV.out.top
        rcases Nat.lt_or_ge k 2 with h | h
        · have e : k - 1 = 0 := by omega
          rw [e] at hz; omega
        · exact h
      have B48 : (((c (k - 1) : Nat) : Int) == 48) = true := by rw [beq_iff_eq]; omega
      clear hz
      go_wp2
      go_quiet (fail)
      have D1 : Aside (DcAt (wr.drewN nq) G c k dp ng tr) := A1.out.draws nq
      have hf := D1.out.free 800
      have hk0 := D1.out.nd_
      have D2 : Aside (DcAt ((wr.drewN nq).setCell ⟨G, 800, none⟩ (.int .i64 ((k - 1 : Nat) : Int))) G c (k - 1) dp ng tr) := D1.out.ndSet (k - 1)
      have D3 : Aside (Below G w ((wr.drewN nq).setCell ⟨G, 800, none⟩ (.int .i64 ((k - 1 : Nat) : Int)))) := (below_draws A2.out nq).setCell (p := ⟨G, 800, none⟩) (Nat.le_refl _) _
      go_wp2
      go_roundg (k - 1)
      case measure => omega
      case rel => exact ⟨k - 1, by omega, by omega, by omega, D2.out, D3.out⟩
    · have B48 : (((c (k - 1) : Nat) : Int) == 48) = false := by rw [beq_eq_false_iff_ne]; omega
      go_wp2
      go_quiet (fail)
      have D1 : Aside (DcAt (wr.drewN nq) G c k dp ng tr) := A1.out.draws nq
      have hk0 := D1.out.nd_
      have K0 : ((k : Int) == 0) = false := by rw [beq_eq_false_iff_ne]; omega
      go_wp2
      go_end0
      exact ⟨rfl, ⟨k, D1.out, ⟨hk1, by omega, fun i hi => HV.out.lo i (by omega), fun i hi => HV.out.hi i (by omega), HV.out.top⟩⟩, below_draws A2.out nq⟩
theorem drew3 (w : World) (a b c : Nat) : ∃ k, ((w.drewN a).drewN b).drewN c = w.drewN k := ⟨a + (b + c), by rw [World.drewN_drewN, World.drewN_drewN]⟩
def bytesOf (c : Nat → Nat) (nd : Nat) : List Nat := Dc.dl (fun i => c i - 48) 0 nd
def digsOf (s : ByteArray) : List Nat := s.data.toList.map fun b => b.toNat - 48
theorem digsOf_len (s : ByteArray) : (digsOf s).length = s.size := by unfold digsOf; rw [List.length_map]; rfl
theorem digsOf_get (s : ByteArray) (i : Nat) (h : i < s.size) : (digsOf s)[i]? = some (s[i].toNat - 48) := by
  unfold digsOf
  rw [List.getElem?_map, List.getElem?_eq_getElem (by rw [Array.length_toList]; exact h)]
  rfl
def LessPost (r : Bool) (w : World) (e : Ending) (w' : World) : Prop := e = .returned (.bool r) ∧ ∃ k, w' = w.drewN k
set_option maxRecDepth 100000 in
set_option maxHeartbeats 4000000 in
theorem less_ (w : World) (G nd : Nat) (c : Nat → Nat) (dp : Int) (ng tr : Bool) (s : ByteArray) (h : DcAt w G c nd dp ng tr) (hv : Vd c nd) (hs : ∀ i (h : i < s.size), 48 ≤ s[i].toNat) (hm : s.size ≤ 100) :
    Calls Tryz.prog 182 #[.slice (some ⟨G, 0, none⟩) nd 800, .string s] w (LessPost (Dc.less (bytesOf c nd) (digsOf s)) w) := by
  have HV := Lib.hid hv
  have H0 := Lib.hid h
  have HS := Lib.hid hs
  have hnd := hv.most
  clear h hv hs
  go_enter Tryz.func182, Tryz.ntmps182
  go_wp2
  go_loopg [5] s.size (fun gg vi wr => ∃ k : Nat, s.size - k ≤ gg ∧ k ≤ s.size ∧ vi = .int .i64 (k : Int) ∧ Aside (DcAt wr G c nd dp ng tr) ∧ Aside (∃ n, wr = w.drewN n) ∧ Aside (Dc.less (bytesOf c nd) (digsOf s) = Dc.less ((bytesOf c nd).drop k) ((digsOf s).drop k)))
  case atStart => exact ⟨0, by omega, by omega, rfl, H0.out, ⟨0, rfl⟩, rfl⟩
  case round =>
    obtain ⟨k, hgg, hk, rfl, A1, A2, A3⟩ := hrel
    by_cases hlt : k < s.size
    · have hlt2 : (k : Int) < (s.size : Int) := by omega
      by_cases hkn : k < nd
      · have hkn2 : ¬ ((k : Int) ≥ (nd : Int)) := by omega
        have k1 : wr.cell? ⟨G, k, none⟩ = some (.int .u8 ((c k : Nat) : Int)) := A1.out.byte (by omega)
        have hlo := HV.out.lo k hkn
        have hlo2 := HS.out k hlt
        have hg := Dc.less_go (B := bytesOf c nd) (S := digsOf s) (Dc.dl_get (fun i => c i - 48) nd 0 k hkn) (digsOf_get s k hlt)
        simp only [Nat.zero_add] at hg
        have HG := Lib.hid hg
        clear hg
        by_cases he : c k = s[k].toNat
        · have E1 : (((c k : Nat) : Int) != (s[k].toNat : Int)) = false := by rw [bne_eq_false_iff_eq]; omega
          have A4 : Aside (Dc.less (bytesOf c nd) (digsOf s) = Dc.less ((bytesOf c nd).drop (k + 1)) ((digsOf s).drop (k + 1))) := by
            show _ = _
            rw [A3.out, HG.out, if_pos (by omega)]
          clear he
          go_wp2
          go_quiet (fail)
          have A5 : Aside (DcAt (wr.drewN nq) G c nd dp ng tr) := A1.out.draws nq
          have A6 : Aside (∃ n, wr.drewN nq = w.drewN n) := by
            obtain ⟨n, rfl⟩ := A2.out
            exact ⟨n + nq, by rw [World.drewN_drewN]⟩
          go_wp2
          go_roundg (s.size - (k + 1))
          case measure => omega
          case rel => exact ⟨k + 1, by omega, by omega, by go_num, A5.out, A6.out, A4.out⟩
        · have E1 : (((c k : Nat) : Int) != (s[k].toNat : Int)) = true := by rw [bne_iff_ne]; omega
          have A4 : Aside (Dc.less (bytesOf c nd) (digsOf s) = decide (c k < s[k].toNat)) := by
            show _ = _
            rw [A3.out, HG.out, if_neg (by omega), Bool.eq_iff_iff, decide_eq_true_eq, decide_eq_true_eq]
            omega
          clear he
          go_wp2
          go_quiet (fail)
          have k2 : (wr.drewN nq).cell? ⟨G, k, none⟩ = some (.int .u8 ((c k : Nat) : Int)) := k1
          go_wp2
          go_quiet (fail)
          go_wp2
          go_ret
          exact ⟨by rw [A4.out]; rfl, by
            obtain ⟨n, rfl⟩ := A2.out
            exact drew3 w _ _ _⟩
      · have hkn2 : ((k : Int) ≥ (nd : Int)) := by omega
        have hkn3 : nd ≤ k := by omega
        have A4 : Aside (Dc.less (bytesOf c nd) (digsOf s) = true) := by
          show _ = _
          rw [A3.out]
          exact Dc.less_short (by unfold bytesOf; rw [Dc.dl_len]; omega) (by rw [digsOf_len]; exact hlt)
        go_wp2
        go_ret
        exact ⟨by rw [A4.out]; rfl, A2.out⟩
    · have hlt2 : ¬ ((k : Int) < (s.size : Int)) := by omega
      have A4 : Aside (Dc.less (bytesOf c nd) (digsOf s) = false) := by
        show _ = _
        rw [A3.out]
        exact Dc.less_end (by rw [digsOf_len]; omega)
      go_wp2
      go_ret
      exact ⟨by rw [A4.out]; rfl, A2.out⟩
end LxC
end Go.Proofs.YtldglmehchkbeaaGreatDoor
