/-
  Which digits are a word's, told. Condition: the text is of digits, one at least.
-/
import Derived.Test.YtnlbhnmiekanfaaGreatDoorLexT
import Derived.Lib.ParseIntBMem
import Derived.Lib.AtoiErrMem
namespace Go.Proofs.YtnlbhnmiekanfaaGreatDoor
open Go.RowKit
set_option linter.unusedVariables false
set_option linter.unusedSimpArgs false
namespace LxC
open Lx
def valF (acc : Nat) (l : List UInt8) : Nat := l.foldl (fun n b => n * 10 + (b.toNat - 48)) acc
theorem valF_ge : ∀ (l : List UInt8) (acc : Nat), acc ≤ valF acc l
  | [], acc => Nat.le_refl _
  | b :: l, acc => by
    have := valF_ge l (acc * 10 + (b.toNat - 48))
    show acc ≤ valF (acc * 10 + (b.toNat - 48)) l
    omega
theorem parse_digits : ∀ (l : List UInt8) (acc : Nat), acc ≤ 4294967295 → (∀ b ∈ l, digit b = true) →
    Lib.parseUintM 4294967295 acc l = if valF acc l ≤ 4294967295 then .ok (valF acc l) else .range
  | [], acc, h, _ => by
    show Lib.NumEnd.ok acc = if acc ≤ 4294967295 then .ok acc else .range
    rw [if_pos h]
  | b :: l, acc, h, hd => by
    have hb : digit b = true := hd b (List.mem_cons_self ..)
    have hb' : 48 ≤ b.toNat ∧ b.toNat ≤ 57 := by
      unfold digit at hb
      rw [Bool.and_eq_true] at hb
      exact ⟨of_decide_eq_true hb.1, of_decide_eq_true hb.2⟩
    unfold Lib.parseUintM
    rw [if_pos hb', if_neg (by omega)]
    show _ = if valF (acc * 10 + (b.toNat - 48)) l ≤ 4294967295 then Lib.NumEnd.ok (valF (acc * 10 + (b.toNat - 48)) l) else .range
    by_cases hle : 4294967295 < acc * 10 + (b.toNat - 48)
    · have := valF_ge l (acc * 10 + (b.toNat - 48))
      rw [if_pos hle, if_neg (by omega)]
    · rw [if_neg hle]
      exact parse_digits l _ (by omega) fun x hx => hd x (List.mem_cons_of_mem _ hx)
set_option maxRecDepth 100000 in
set_option maxHeartbeats 4000000 in
theorem parseUint_ok (s : ByteArray) (w : World) (hs : s.size ≤ 8192) (h0 : s.size ≠ 0) (u : Nat) (h : Lib.parseUintM 4294967295 0 s.data.toList = .ok u) :
    Calls Tryz.prog 172 #[.string s, .int .i64 10, .int .i64 32] w fun e w' => e = .returned (.tuple #[.int .u64 (u : Int), .nilIface]) ∧ Below w.heap.size w w' := by
  have c := Tryz.internal_strconv_ParseUint_10_b32 s h0 (by omega) w
  rw [h] at c
  simp only [Lib.uintTupleM] at c
  clear h
  go_enter Tryz.func172, Tryz.ntmps172
  go_wp2_with (go_at_call 193; (with_reducible refine c.mono ?_); rintro e w' ⟨rfl, hw⟩; have HW := Lib.hid hw; clear hw)
  go_ret2
  exact ⟨rfl, by rw [HW.out]; exact Lib.bytesWorld_below _ _ _⟩
set_option maxRecDepth 100000 in
set_option maxHeartbeats 4000000 in
theorem parseUint_range (s : ByteArray) (w : World) (hs : s.size ≤ 8192) (h0 : s.size ≠ 0) (h : Lib.parseUintM 4294967295 0 s.data.toList = .range) (h3 : 3 < w.heap.size)
    (hr : ∃ ev, w.cell? ⟨3, 0, none⟩ = some ev ∧ (ev = .nilIface ∨ ∃ te pe, ev = .iface te pe)) :
    Calls Tryz.prog 172 #[.string s, .int .i64 10, .int .i64 32] w fun e w' => ∃ T N, e = .returned (.tuple #[.int .u64 4294967295, .iface T (.pointer (some ⟨N, 0, none⟩))]) ∧ Below w.heap.size w w' := by
  have c := Tryz.internal_strconv_ParseUint_10_b32 s h0 (by omega) w
  rw [h] at c
  simp only [Lib.uintTupleM] at c
  clear h
  obtain ⟨ev, he, hev⟩ := hr
  have h3r : 3 < w.heap.size := Nat.lt_of_lt_of_le (show 3 < 4 by decide) h3
  have HE := Lib.hid he
  have HEV := Lib.hid hev
  clear he hev
  go_enter Tryz.func172, Tryz.ntmps172
  go_wp2_with (first
    | (go_at_call 193; (with_reducible refine c.mono ?_); rintro e w2 ⟨rfl, hw⟩; have hb := Lib.bytesWorld_below w 5 s; rw [← hw] at hb; have HB := Lib.hid hb; clear hw c hb)
    | (go_at_call 194; (with_reducible refine (Tryz.strconv_toError_range _ s 10 32 ev w2 (by omega) ((HB.out.cell (p := ⟨3, 0, none⟩) h3r).trans HE.out) HEV.out).mono ?_); rintro e w3 ⟨N, rfl, hN, hblk, hb3⟩; have HB3 := Lib.hid hb3; clear hblk hb3))
  go_ret2
  exact ⟨_, _, rfl, HB.out.trans (HB3.out.mono HB.out.size)⟩
set_option maxRecDepth 100000 in
set_option maxHeartbeats 4000000 in
theorem isInt_ (s : ByteArray) (w : World) (hs : s.size ≤ 8192) (h0 : s.size ≠ 0) (hd : ∀ b ∈ s.data.toList, digit b = true) (h3 : 3 < w.heap.size)
    (hr : ∃ ev, w.cell? ⟨3, 0, none⟩ = some ev ∧ (ev = .nilIface ∨ ∃ te pe, ev = .iface te pe)) :
    Calls Tryz.prog 166 #[.string s] w fun e w' => e = .returned (.bool (Lx.isInt s.data.toList)) ∧ Below w.heap.size w w' := by
  have hz : s.size = s.data.toList.length := by simp
  have hpd := parse_digits s.data.toList 0 (by omega) hd
  have hi : Lx.isInt s.data.toList = (decide (s.size ≤ 10) && decide (valF 0 s.data.toList ≤ 4294967295)) := by rw [hz]; rfl
  rw [hi]
  clear hi hz hd
  by_cases hv : valF 0 s.data.toList ≤ 4294967295
  · rw [if_pos hv] at hpd
    rw [decide_eq_true hv, Bool.and_true]
    have c := parseUint_ok s w hs h0 _ hpd
    clear hpd hv hr
    generalize valF 0 s.data.toList = u at *
    by_cases h10 : s.size ≤ 10
    all_goals
      go_enter Tryz.func166, Tryz.ntmps166
      go_wp2_with (go_at_call 172; (with_reducible refine c.mono ?_); rintro e w' ⟨rfl, hb⟩)
      go_ret
      exact ⟨ret_bool (by simp [h10]; try omega), hb⟩
  · rw [if_neg hv] at hpd
    rw [decide_eq_false hv, Bool.and_false]
    have c := parseUint_range s w hs h0 hpd h3 hr
    clear hpd hv hr
    go_enter Tryz.func166, Tryz.ntmps166
    go_wp2_with (go_at_call 172; (with_reducible refine c.mono ?_); rintro e w' ⟨T, N, rfl, hb⟩)
    go_ret
    exact ⟨rfl, hb⟩
end LxC
end Go.Proofs.YtnlbhnmiekanfaaGreatDoor
