/-
  What strconv.ParseUint and real.Unhex answer of sixteen digits of base 16, each a contract. Conditions: the digits are a number's below 2^64; Go's table of bits holds what its text lays.
-/
import Derived.Test.YtcflinmlinmgjaaGreatDoorRealH
import Derived.Test.YtcflinmlinmgjaaGreatDoorRealA
import Derived.LoopTactic
import Derived.Lib.ConvBytes
namespace Go.Proofs.YtcflinmlinmgjaaGreatDoor
open Go.RowKit
set_option linter.unusedVariables false
namespace RU
open RM RC RH
/-- '[]byte(s)': a new row that reads as s -/
theorem bytes_of (s : ByteArray) (w : World) : ∃ (c : Nat) (w1 : World), (convert 9 80 (.string s)).run Tryz.prog w = .ok (.slice (some ⟨w.heap.size, 0, none⟩) s.size c) w1 ∧ Below w.heap.size w w1 ∧
    ∀ j (b : UInt8), s.data[j]? = some b → w1.cell? ⟨w.heap.size, j, none⟩ = some (.int .u8 (b.toNat : Int)) := by
  refine ⟨_, Lib.bytesWorld w 5 s, Lib.run_convert_string_bytes w _ _ _ s Tryz.underlying9 Tryz.underlying80 Tryz.underlying5, ?_, fun j b hb => ?_⟩
  · refine ⟨rfl, rfl, rfl, ?_, fun i hi => Lib.bytesWorld_at_old w _ s i hi⟩
    rw [Lib.bytesWorld_size]; omega
  · obtain ⟨hj, hb2⟩ := Array.getElem?_eq_some_iff.1 hb
    rw [Lib.bytesWorld_cell w _ s j hj]
    congr 2
    rw [List.getD, List.getElem?_eq_getElem (by simpa using hj)]
    simp [hb2]
def mx : Int := 18446744073709551615
def cutoff : Nat := 1152921504606846976
/-- a digit's byte, and lower of it -/
theorem lower_dg (d : Nat) (h1 : 10 ≤ d) (h : d < 16) : bits .or .u8 ((87 + d : Nat) : Int) 32 = ((87 + d : Nat) : Int) := by
  have hd : d = 10 ∨ d = 11 ∨ d = 12 ∨ d = 13 ∨ d = 14 ∨ d = 15 := by omega
  rcases hd with rfl | rfl | rfl | rfl | rfl | rfl <;> decide +kernel
set_option maxRecDepth 100000 in
set_option maxHeartbeats 4000000 in
theorem parseU (s : ByteArray) (n : Nat) (hn : n < 18446744073709551616) (hsz : s.size = 16) (hat : ∀ i, i < 16 → s.data[i]? = some (RX.dg (n / 16 ^ (15 - i) % 16))) (w : World) :
    Calls Tryz.prog 75 #[.string s, .int .i64 16, .int .i64 64] w fun e w' => e = .returned (.tuple #[.int .u64 (n : Int), .nilIface]) ∧ Below w.heap.size w w' := by
  obtain ⟨c, w1, hcv, hb1, hcell⟩ := bytes_of s w
  have hcell2 : ∀ i, i < 16 → w1.cell? ⟨w.heap.size, i, none⟩ = some (.int .u8 ((RX.dg (n / 16 ^ (15 - i) % 16)).toNat : Int)) := fun i hi => hcell i _ (hat i hi)
  have Hcell := Lib.hid hcell2
  clear hcell2 hcell hat
  have hemp : s.toList.isEmpty = false := by
    rw [ByteArray.toList_eq, List.isEmpty_eq_false_iff]
    intro e
    have h1 := congrArg List.length e
    rw [Array.length_toList] at h1
    have h2 : s.data.size = 16 := hsz
    rw [h2] at h1
    cases h1
  have hmx : IntKind.u64.wrap (IntKind.u64.wrap 18446744073709551616 - 1) = mx := by decide
  have Hn64 := Lib.hid hn
  clear hn
  rw [hsz] at hcv
  go_enter Tryz.func75, Tryz.ntmps75
  go_wp2
  clear hcv hmx hemp
  go_loopw [12, 13, 101] (fun un x i w' => w' = w1 ∧ un = .bool false ∧ ∃ k : Nat, k ≤ 16 ∧ i = .int .i64 (k : Int) ∧ x = .int .u64 ((n / 16 ^ (16 - k) : Nat) : Int)) (fun _ _ i _ => 16 - (intOf i).toNat)
  case atStart => exact ⟨rfl, rfl, 0, by omega, rfl, by have := Hn64.out; rw [Nat.div_eq_of_lt (by rw [show (16:Nat) ^ (16 - 0) = 18446744073709551616 by decide]; exact this)]; rfl⟩
  case round =>
    obtain ⟨rfl, rfl, k, hk, rfl, rfl⟩ := hrel
    by_cases h16 : k < 16
    · have hc := Hcell.out k h16
      have hd : n / 16 ^ (15 - k) % 16 < 16 := Nat.mod_lt _ (by omega)
      have hnext : n / 16 ^ (16 - k) * 16 + n / 16 ^ (15 - k) % 16 = n / 16 ^ (16 - (k + 1)) := by
        rw [show 16 - (k + 1) = 15 - k by omega, show 16 - k = (15 - k) + 1 by omega, Nat.pow_succ, ← Nat.div_div_eq_div_mul]
        omega
      have hv : n / 16 ^ (16 - k) < 1152921504606846976 := by
        rw [Nat.div_lt_iff_lt_mul (Nat.pow_pos (by omega))]
        have := Hn64.out
        have : 16 ^ 1 ≤ 16 ^ (16 - k) := Nat.pow_le_pow_right (by omega) (by omega)
        omega
      have e1 := RX.dg_nat hd
      have Hn := Lib.hid hnext
      clear hnext
      generalize n / 16 ^ (15 - k) % 16 = d at *
      generalize n / 16 ^ (16 - k) = v at *
      have hcut : decide ((v : Int) ≥ 1152921504606846976) = false := decide_eq_false (by omega)
      have hwr1 : IntKind.u64.wrap ((v : Int) * 16) = (v : Int) * 16 := by rw [IntKind.wrap_u64]; omega
      have hwr2 : ∀ x : Int, x = d → ∃ t : Int, IntKind.u64.wrap ((v : Int) * 16 + x) = t ∧ (v : Int) * 16 ≤ t ∧ t ≤ mx ∧ Hid (t = ((v * 16 + d : Nat) : Int)) := by
        intro x hx
        refine ⟨(v : Int) * 16 + x, by rw [IntKind.wrap_u64]; omega, by omega, by unfold mx; omega, ?_⟩
        exact Lib.hid (by omega)
      clear hv
      by_cases h10 : d < 10
      · rw [if_pos h10] at e1
        rw [e1] at hc
        clear e1
        obtain ⟨t, ht, t1, t2, t3⟩ := hwr2 (48 + (d : Int) - 48) (by omega)
        clear hwr2
        go_wp2
        refine ⟨⟨trivial, rfl, k + 1, by omega, by go_num, ?_⟩, by simp [intOf]; omega⟩
        rw [← Hn.out, t3.out]
      · rw [if_neg h10] at e1
        rw [e1] at hc
        clear e1
        obtain ⟨t, ht, t1, t2, t3⟩ := hwr2 (87 + (d : Int) - 97 + 10) (by omega)
        clear hwr2
        have hl := lower_dg d (by omega) hd
        go_wp2_with (go_at_call 92; refine (RA.lower_of _ (87 + (d : Int)) (by first | exact hl | simpa using hl) _).mono ?_; rintro e w' ⟨rfl, rfl⟩)
        refine ⟨⟨trivial, rfl, k + 1, by omega, by go_num, ?_⟩, by simp [intOf]; omega⟩
        rw [← Hn.out, t3.out]
    · have hk16 : k = 16 := by omega
      subst hk16
      go_wp2
      go_ret2
      exact ⟨by simp, hb1⟩
theorem parseO (s : ByteArray) (n : Nat) (hn : n < 18446744073709551616) (hsz : s.size = 16) (hat : ∀ i, i < 16 → s.data[i]? = some (RX.dg (n / 16 ^ (15 - i) % 16))) (w : World) :
    Calls Tryz.prog 52 #[.string s, .int .i64 16, .int .i64 64] w fun e w' => e = .returned (.tuple #[.int .u64 (n : Int), .nilIface]) ∧ Below w.heap.size w w' := by
  have c := fun w => parseU s n hn hsz hat w
  clear hat hn
  go_enter Tryz.func52, Tryz.ntmps52
  go_wp2_with (go_at_call 75; refine (c _).mono ?_; rintro e w' ⟨rfl, hb⟩)
  go_ret2
  exact ⟨rfl, hb⟩
/-- Unhex of Hex's digits -/
theorem unhex (n : Nat) (hn : W n) (hc : canon n = n) (w : World) (ht : Tab w) :
    Calls Tryz.prog 24 #[.string ⟨(RX.hexL 16 n).toArray⟩] w fun e w' => e = .returned (.tuple #[.int .u64 (n : Int), .int .i64 0]) ∧ Below w.heap.size w w' := by
  obtain ⟨s, hs, hsz, hat⟩ : ∃ s : ByteArray, s = ⟨(RX.hexL 16 n).toArray⟩ ∧ s.size = 16 ∧ ∀ i, i < 16 → s.data[i]? = some (RX.dg (n / 16 ^ (15 - i) % 16)) :=
    ⟨_, rfl, RX.hexL_length 16 n, fun i hi => by simpa using RX.hexL_at 16 n i hi⟩
  have c1 := fun w => parseO s n hn hsz hat w
  have c2 : ∀ w1, Below w.heap.size w w1 → Calls Tryz.prog 18 #[.int .u64 (n : Int)] w1 fun e w' => e = .returned (.string s) ∧ Below w1.heap.size w1 w' := fun w1 hb => by
    have h := hex n hn w1 ⟨Nat.lt_of_lt_of_le ht.1 hb.size, (hb.cell ht.1).trans ht.2⟩
    rw [hc, ← hs] at h
    exact h
  rw [← hs]
  have Hs := Lib.hid hs
  have Hz := Lib.hid hsz
  have hz : decide ((s.size : Int) = 16) = true := decide_eq_true (by omega)
  have hz2 : ((s.size : Int) == 16) = true := by rw [beq_iff_eq]; omega
  have hz3 : ((s.size : Int) != 16) = false := by rw [bne_eq_false_iff_eq]; omega
  clear hs hat hsz hc
  go_enter Tryz.func24, Tryz.ntmps24
  go_wp2_with (first
    | (go_at_call 52; refine (c1 _).mono ?_; rintro e w1 ⟨rfl, hb⟩)
    | (go_at_call 18; refine (c2 _ hb).mono ?_; rintro e w2 ⟨rfl, hb2⟩))
  go_ret2
  exact ⟨rfl, hb.trans (hb2.mono hb.size)⟩
end RU
end Go.Proofs.YtcflinmlinmgjaaGreatDoor
