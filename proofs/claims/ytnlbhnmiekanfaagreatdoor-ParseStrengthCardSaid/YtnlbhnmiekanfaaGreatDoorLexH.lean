/-
  The reader: one byte, all bytes that are such, what begins with two bytes. Condition: the reader lies in memory, and its text is not too long.
-/
import Derived.Test.YtnlbhnmiekanfaaGreatDoorLexF
import Derived.Test.YtnlbhnmiekanfaaGreatDoorLexK
import Derived.Lib.Strings
namespace Go.Proofs.YtnlbhnmiekanfaaGreatDoor
open Go.RowKit
set_option linter.unusedVariables false
set_option linter.unusedSimpArgs false
namespace LxC
open Lx
theorem gb_trans {a b c : World} {R : Option Nat} (h : a.grownBy b R) (k : b.grownBy c R) : a.grownBy c R :=
  ⟨k.os.trans h.os, k.tape.trans h.tape, k.output.trans h.output, Nat.le_trans h.size k.size, fun i hi hr => (k.block i (Nat.lt_of_lt_of_le hi h.size) hr).trans (h.block i hi hr)⟩
theorem gb_below {a b : World} {R : Option Nat} (h : Below a.heap.size a b) : a.grownBy b R := ⟨h.os, h.tape, h.output, h.size, fun i hi _ => h.block i hi⟩
theorem gb_refl {a : World} {R : Option Nat} : a.grownBy a R := gb_below (Below.refl _ _)
theorem gb_set {a : World} {R i : Nat} (v : Value) : a.grownBy (a.setCell ⟨R, i, none⟩ v) (some R) :=
  ⟨rfl, rfl, rfl, by simp [World.setCell], fun k _ hk => Below.heap_setCell _ _ _ _ (fun e => hk (by rw [e]))⟩
set_option maxRecDepth 100000 in
set_option maxHeartbeats 2000000 in
theorem one_no {n : Rg} {R k : Nat} {f : Value} {w1 W : World} {fs : Fs} {s : ByteArray} {p : UInt8 → Bool} (h : RdAt n w1 R fs s k W) (hk : k ≤ s.size) (hs : s.size ≤ 8192) (hf : Tells n w1 f p) (hp : sees p (at_ s k) = false) :
    Calls Tryz.prog 161 #[.pointer (some ⟨R, 0, none⟩), f] W fun e w' => e = .returned (.bool false) ∧ Below W.heap.size W w' := by
  have c := sees_ h hk hs hf
  rw [hp] at c
  obtain ⟨g, lb, rfl⟩ := hf.form
  clear hp h
  go_enter Tryz.func161, Tryz.ntmps161
  go_wp2_with (go_at_call 129; (with_reducible refine c.mono ?_); rintro e w' ⟨rfl, hb'⟩)
  go_ret
  exact ⟨rfl, hb'⟩
set_option maxRecDepth 100000 in
set_option maxHeartbeats 2000000 in
theorem one_yes {n : Rg} {R k : Nat} {f : Value} {w1 W : World} {fs : Fs} {s : ByteArray} {p : UInt8 → Bool} (h : RdAt n w1 R fs s k W) (hs : s.size ≤ 8192) (hf : Tells n w1 f p) (hp : sees p (at_ s k) = true) :
    Calls Tryz.prog 161 #[.pointer (some ⟨R, 0, none⟩), f] W fun e w' => e = .returned (.bool true) ∧ RdAt n w1 R fs s (k + 1) w' ∧ W.grownBy w' (some R) := by
  have hk := sees_lt s k hp
  have c := sees_ h (Nat.le_of_lt hk) hs hf
  rw [hp] at c
  obtain ⟨g, lb, rfl⟩ := hf.form
  have H := Lib.hid h
  clear hp h
  go_enter Tryz.func161, Tryz.ntmps161
  go_wp2_with (go_at_call 129; (with_reducible refine c.mono ?_); rintro e w2 ⟨rfl, hb'⟩; have H2 := Lib.hid (H.out.below hb'); have k1 : w2.cell? ⟨R, 1, none⟩ = some (.int .i64 (k : Int)) := Lib.cell_of_heap H2.out.blk 1; have f1 : w2.frozen? ⟨R, 1, none⟩ = false := Lib.frozen_of_heap H2.out.blk 1; have HB := Lib.hid hb'; clear hb')
  go_ret
  exact ⟨rfl, H2.out.set (k + 1), gb_trans (gb_below HB.out) (gb_set _)⟩
set_option maxRecDepth 100000 in
set_option maxHeartbeats 2000000 in
theorem all_ {n : Rg} {R k : Nat} {f : Value} {w1 W : World} {fs : Fs} {s : ByteArray} {p : UInt8 → Bool} (h : RdAt n w1 R fs s k W) (hk : k ≤ s.size) (hs : s.size ≤ 8192) (hf : Tells n w1 f p) :
    Calls Tryz.prog 126 #[.pointer (some ⟨R, 0, none⟩), f] W fun e w' => e = .returned (.tuple #[]) ∧ RdAt n w1 R fs s (k + cnt p (at_ s k)) w' ∧ W.grownBy w' (some R) := by
  obtain ⟨g, lb, e⟩ := hf.form
  have H := Lib.hid h
  have HT := Lib.hid hf
  have hl := cnt_at_le p s k hk
  have HL := Lib.hid hl
  clear h hf hl
  obtain ⟨m, hm⟩ : ∃ m, k + cnt p (at_ s k) = m := ⟨_, rfl⟩
  rw [hm]
  have HM := Lib.hid hm
  clear hm
  subst e
  go_enter Tryz.func126, Tryz.ntmps126
  go_wp2_with fail
  go_loopg [6] s.size (fun gg _ wr => ∃ kk : Nat, kk ≤ s.size ∧ s.size - kk ≤ gg ∧ Aside (RdAt n w1 R fs s kk wr) ∧ Aside (W.grownBy wr (some R)) ∧ Aside (kk + cnt p (at_ s kk) = m))
  case atStart => exact ⟨k, hk, by omega, H.out, gb_refl, HM.out⟩
  case round =>
    obtain ⟨kk, hkk, hg, A1, A2, A3⟩ := hrel
    cases hp : sees p (at_ s kk) with
    | true =>
      have hlt := sees_lt s kk hp
      have c := one_yes A1.out hs HT.out hp
      have HP := Lib.hid (cnt_sees_yes hp)
      clear hp
      go_wp2_with (go_at_call 161; (with_reducible refine c.mono ?_); rintro e w2 ⟨rfl, h2, g2⟩; have H2 := Lib.hid h2; have G2 := Lib.hid g2; clear h2 g2)
      go_roundg (s.size - (kk + 1))
      case measure => omega
      case rel => exact ⟨kk + 1, by omega, by omega, H2.out, gb_trans A2.out G2.out, by have := A3.out; have h3 := HP.out; rw [at_drop] at h3; show kk + 1 + cnt p (at_ s (kk + 1)) = m; omega⟩
    | false =>
      have c := one_no A1.out hkk hs HT.out hp
      have HP := Lib.hid (cnt_sees_no hp)
      clear hp
      go_wp2_with (go_at_call 161; (with_reducible refine c.mono ?_); rintro e w2 ⟨rfl, hb'⟩; have HB := Lib.hid hb'; clear hb')
      go_end0
      have e : kk = m := by have := A3.out; have := HP.out; omega
      exact ⟨rfl, by rw [← e]; exact A1.out.below HB.out, gb_trans A2.out (gb_below HB.out)⟩
theorem prefix2 (a c : UInt8) (l : List UInt8) : Lib.hasPrefix l [a, c] = twoB a c l := by
  unfold Lib.hasPrefix
  rcases l with _ | ⟨x, _ | ⟨y, t⟩⟩
  · rfl
  · show ((a == x) && false) = (isB a x && false)
    simp
  · rw [twoB_cons]
    simp only [List.isPrefixOf, Bool.and_true]
    rw [Bool.eq_iff_iff]; simp only [Bool.and_eq_true, beq_iff_eq]
    constructor <;> (rintro ⟨rfl, rfl⟩; exact ⟨rfl, rfl⟩)
set_option maxRecDepth 100000 in
set_option maxHeartbeats 4000000 in
theorem begins_ {n : Rg} {R k : Nat} {w1 W : World} {fs : Fs} {s : ByteArray} (a c : UInt8) (h : RdAt n w1 R fs s k W) (hk : k ≤ s.size) (hs : s.size ≤ 8192) :
    Calls Tryz.prog 127 #[.pointer (some ⟨R, 0, none⟩), .string ⟨#[a, c]⟩] W fun e w' => e = .returned (.bool (twoB a c (at_ s k))) ∧ Below W.heap.size W w' := by
  have k0 : W.cell? ⟨R, 0, none⟩ = some (.string s) := Lib.cell_of_heap h.blk 0
  have k1 : W.cell? ⟨R, 1, none⟩ = some (.int .i64 (k : Int)) := Lib.cell_of_heap h.blk 1
  have e1 : (s.extract k s.size).data.toList = at_ s k := by
    rw [extract_list, List.take_of_length_le (by rw [at_len]; exact Nat.le_refl _)]
  have cp := fun w => Tryz.strings_HasPrefix (s.extract k s.size) ⟨#[a, c]⟩ w
  rw [e1] at cp
  have e2 : Lib.hasPrefix (at_ s k) (ByteArray.mk #[a, c]).data.toList = twoB a c (at_ s k) := prefix2 a c _
  rw [e2] at cp
  clear e1 e2 h
  generalize twoB a c (at_ s k) = r at *
  go_enter Tryz.func127, Tryz.ntmps127
  go_wp2
  go_quiet ((go_at_call 162; exact Calls.quiet_of_same (cp _)))
  go_wp2
  go_ret
  exact ⟨rfl, rfl, rfl, rfl, Nat.le_refl _, fun _ _ => rfl⟩
end LxC
end Go.Proofs.YtnlbhnmiekanfaaGreatDoor
