/-
  The program's digits of base 16, as many as are asked: a contract. Condition: the number has no more digits than are asked, and these are 16 at the most.
-/
import Derived.Test.YtieehjkmfmkfjaaGreatDoorRealR
import Derived.Test.YtieehjkmfmkfjaaGreatDoorObjH
import Derived.Deep.RegionHeld3
namespace Go.Proofs.YtieehjkmfmkfjaaGreatDoor
open Go.RowKit
set_option linter.unusedVariables false
set_option linter.unusedSimpArgs false
namespace OD
open RH
set_option maxRecDepth 100000 in
set_option maxHeartbeats 4000000 in
theorem digits_ (u m : Nat) (hm : m ≤ 16) (hu : u < 16 ^ m) (h1 : 1 ≤ m) (w : World) (ht : Tab w) :
    Calls Tryz.prog 46 #[.int .u64 (u : Int), .int .i64 (m : Int)] w fun e w' => e = .returned (.string ⟨(RX.hexL m u).toArray⟩) ∧ Below w.heap.size w w' := by
  have hu64 : u < 18446744073709551616 := Nat.lt_of_lt_of_le hu (by
    have : 16 ^ m ≤ 16 ^ 16 := Nat.pow_le_pow_right (by omega) hm
    exact this)
  have c1 := fmt u hu64 w ht
  have HU := Lib.hid hu
  clear hu
  go_enter Tryz.func46, Tryz.ntmps46
  go_wp2_with (first
    | (go_at_call 64; refine c1.mono ?_; rintro e w1 ⟨s, rfl, k1, k2, k3, kl, k4, hb⟩; have kle := Least.le kl HU.out h1; have K4 := Lib.hid k4; have K3 := Lib.hid k3; clear k4 k3 kl)
    | (go_at_call 65; refine (RR.rep' _ (m - s.size) (by omega) (by omega) _).mono ?_; rintro e w' ⟨rfl, rfl⟩))
  go_ret
  refine ⟨congrArg (fun z => Ending.returned (.string z)) ?_, hb⟩
  have e := RX.hexL_pad (j := m - s.size) K3.out
  rw [show m - s.size + s.size = m by omega] at e
  rw [e, ← K4.out]
  apply ByteArray.ext
  simp
theorem digits8 (u : Nat) (hu : u < 4294967296) (w : World) (ht : Tab w) :
    Calls Tryz.prog 46 #[.int .u64 (u : Int), .int .i64 8] w fun e w' => e = .returned (.string ⟨(RX.hexL 8 u).toArray⟩) ∧ Below w.heap.size w w' := digits_ u 8 (by omega) hu (by omega) w ht
theorem digits16 (u : Nat) (hu : u < 18446744073709551616) (w : World) (ht : Tab w) :
    Calls Tryz.prog 46 #[.int .u64 (u : Int), .int .i64 16] w fun e w' => e = .returned (.string ⟨(RX.hexL 16 u).toArray⟩) ∧ Below w.heap.size w w' := digits_ u 16 (by omega) hu (by omega) w ht
theorem Tab.below {w w' : World} {B : Nat} (h : Tab w) (hb : Below B w w') (hB : w.heap.size ≤ B) : Tab w' := by
  obtain ⟨h1, h2⟩ := h
  exact ⟨Nat.lt_of_lt_of_le h1 hb.size, (hb.cell (p := ⟨5, 15, none⟩) (Nat.lt_of_lt_of_le h1 hB)).trans h2⟩
end OD
end Go.Proofs.YtieehjkmfmkfjaaGreatDoor
