/-
  Functions that tell bytes: what from, among, not and either make, and what these answer. Condition: what they captured lies in memory as it was.
-/
import Derived.Test.YtnlbhnmiekanfaaGreatDoorProg
import Derived.Test.YtnlbhnmiekanfaaGreatDoorShelf
import Derived.Test.YtnlbhnmiekanfaaGreatDoorLexN
import Derived.WalkKit
import Derived.OwnWalk
import Derived.Laws.OwnMore
import Derived.Laws.Cells
import Derived.WalkSpells
import Derived.Lib.Hide
namespace Go.Proofs.YtnlbhnmiekanfaaGreatDoor
open Go.RowKit
set_option linter.unusedVariables false
set_option linter.unusedSimpArgs false
namespace LxC
open Lx
/-- memory up to hi, but for three blocks from lo on, that may be written -/
structure Rg where
  lo : Nat
  hi : Nat
structure Un (n : Rg) (w W : World) : Prop where
  os : W.os = w.os
  tape : W.tape = w.tape
  output : W.output = w.output
  size : w.heap.size ≤ W.heap.size
  block : ∀ k, k < n.hi → (k < n.lo ∨ n.lo + 3 ≤ k) → W.heap[k]? = w.heap[k]?
theorem Un.refl (n : Rg) (w : World) : Un n w w := ⟨rfl, rfl, rfl, Nat.le_refl _, fun _ _ _ => rfl⟩
theorem Un.trans {n : Rg} {a b c : World} (h : Un n a b) (k : Un n b c) : Un n a c :=
  ⟨k.os.trans h.os, k.tape.trans h.tape, k.output.trans h.output, Nat.le_trans h.size k.size, fun i hi hl => (k.block i hi hl).trans (h.block i hi hl)⟩
theorem Un.of {n : Rg} {m : Nat} {w W : World} (h : Below m w W) (hm : n.hi ≤ m) : Un n w W :=
  ⟨h.os, h.tape, h.output, h.size, fun k hk _ => h.block k (Nat.lt_of_lt_of_le hk hm)⟩
theorem Un.thenB {n : Rg} {m : Nat} {a b c : World} (h : Un n a b) (k : Below m b c) (hm : n.hi ≤ m) : Un n a c := h.trans (Un.of k hm)
theorem Un.mono {n m : Rg} {w W : World} (h : Un n w W) (hl : m.lo = n.lo) (hm : m.hi ≤ n.hi) : Un m w W :=
  ⟨h.os, h.tape, h.output, h.size, fun k hk hw => h.block k (Nat.lt_of_lt_of_le hk hm) (by rw [← hl]; exact hw)⟩
theorem Un.low {n : Rg} {w W : World} (h : Un n w W) (hl : n.lo ≤ n.hi) : Below n.lo w W :=
  ⟨h.os, h.tape, h.output, h.size, fun k hk => h.block k (Nat.lt_of_lt_of_le hk hl) (.inl hk)⟩
/-- a function value that tells whether a byte is such, in every world in which all of a range lies as in w -/
def Tells (n : Rg) (w : World) (f : Value) (p : UInt8 → Bool) : Prop :=
  ∃ g lb, f = .func (.func g) #[] lb ∧ (∀ args W, (callFunc g args).run Tryz.prog W = .ok (.enter g args) W) ∧ ∀ (W : World) (b : UInt8), n.hi ≤ W.heap.size → Un n w W → Calls Tryz.prog g (#[.int .u8 (b.toNat : Int)] ++ lb) W fun e w' => e = .returned (.bool (p b)) ∧ Below W.heap.size W w'
theorem Tells.later {n m : Rg} {w W : World} {f : Value} {p : UInt8 → Bool} (h : Tells n w f p) (hb : Un n w W) (hl : m.lo = n.lo) (hnm : n.hi ≤ m.hi) : Tells m W f p := by
  obtain ⟨g, lb, e, he, hc⟩ := h
  exact ⟨g, lb, e, he, fun W' b hm hb' => hc W' b (by omega) (hb.trans (hb'.mono hl.symm hnm))⟩
theorem Tells.congr {n : Rg} {w : World} {f : Value} {p q : UInt8 → Bool} (h : Tells n w f p) (hpq : ∀ b, p b = q b) : Tells n w f q := by
  obtain rfl : p = q := funext hpq
  exact h
theorem u8_bd (b : UInt8) : 0 ≤ (b.toNat : Int) ∧ (b.toNat : Int) ≤ 255 := by
  have := b.toNat_lt
  omega
theorem ret_bool {a b : Bool} (h : a = b) : Ending.returned (.bool a) = .returned (.bool b) := by rw [h]
set_option maxRecDepth 100000 in
set_option maxHeartbeats 1000000 in
theorem from_ (x y : Int) (w : World) :
    Calls Tryz.prog 85 #[.int .u8 x, .int .u8 y] w fun e w' => e = .returned (.func (.func 119) #[] #[.pointer (some ⟨w.heap.size, 0, none⟩), .pointer (some ⟨w.heap.size + 1, 0, none⟩)]) ∧ w' = (w.alloc (.cells #[.int .u8 x] 5)).alloc (.cells #[.int .u8 y] 5) := by
  have hmf : ∀ (fn : Fn) (first cap : Array Value) (w : World), (Instr.makeFunc fn first cap).run Tryz.prog w = .ok (.func fn first cap) w := fun _ _ _ _ => rfl
  go_enter Tryz.func85, Tryz.ntmps85
  go_wp2
  go_ret
  exact ⟨by simp, rfl⟩
set_option maxRecDepth 100000 in
set_option maxHeartbeats 1000000 in
theorem from1_ (x y z : Int) (B C : Nat) (W : World) (hx : W.cell? ⟨B, 0, none⟩ = some (.int .u8 x)) (hy : W.cell? ⟨C, 0, none⟩ = some (.int .u8 y)) :
    Calls Tryz.prog 119 #[.int .u8 z, .pointer (some ⟨B, 0, none⟩), .pointer (some ⟨C, 0, none⟩)] W fun e w' => e = .returned (.bool (decide (x ≤ z) && decide (z ≤ y))) ∧ W = w' := by
  by_cases h : x ≤ z
  · have hd : decide (x ≤ z) = true := decide_eq_true h
    go_enter Tryz.func119, Tryz.ntmps119
    go_wp2
    go_ret
    exact ⟨by simp [h], rfl⟩
  · have hd : decide (x ≤ z) = false := decide_eq_false h
    go_enter Tryz.func119, Tryz.ntmps119
    go_wp2
    go_ret
    exact ⟨by simp [h], rfl⟩
theorem tells_from (lo : Nat) (x y : Int) (w : World) (hlo : lo + 3 ≤ w.heap.size) (p : UInt8 → Bool) (hp : ∀ b : UInt8, p b = (decide (x ≤ (b.toNat : Int)) && decide ((b.toNat : Int) ≤ y))) :
    Tells ⟨lo, w.heap.size + 2⟩ ((w.alloc (.cells #[.int .u8 x] 5)).alloc (.cells #[.int .u8 y] 5)) (.func (.func 119) #[] #[.pointer (some ⟨w.heap.size, 0, none⟩), .pointer (some ⟨w.heap.size + 1, 0, none⟩)]) p := by
  refine ⟨_, _, rfl, enters_of Tryz.func119 (by kernel_rfl) rfl, fun W b hn hb => ?_⟩
  have h1 := (hb.block w.heap.size (by show w.heap.size < w.heap.size + 2; omega) (.inr hlo)).trans ((Lib.alloc_old _ _ _ (by simp)).trans (heap_alloc_new w (.cells #[.int .u8 x] 5)))
  have h3 := heap_alloc_new (w.alloc (.cells #[.int .u8 x] 5)) (.cells #[.int .u8 y] 5)
  rw [World.size_alloc] at h3
  have h2 := (hb.block (w.heap.size + 1) (by show w.heap.size + 1 < w.heap.size + 2; omega) (.inr (by show lo + 3 ≤ w.heap.size + 1; omega))).trans h3
  refine (from1_ x y b.toNat w.heap.size (w.heap.size + 1) W (Lib.cell_of_heap h1 0) (Lib.cell_of_heap h2 0)).mono ?_
  rintro e w' ⟨rfl, rfl⟩
  exact ⟨ret_bool (hp b).symm, Below.refl _ _⟩
/-- which bytes stand in a text -/
def isIn (l : List UInt8) (b : UInt8) : Bool := l.contains b
theorem indexByte_has (l : List UInt8) (b : UInt8) : decide (Lib.indexByte l b ≥ 0) = isIn l b := by
  induction l with
  | nil => rfl
  | cons a l ih =>
    unfold isIn at ih ⊢
    unfold Lib.indexByte
    rw [List.contains_cons]
    by_cases h : a = b
    · subst h; simp
    · have h1 : (a == b) = false := by simpa using h
      have h2 : (b == a) = false := by simpa using fun e => h e.symm
      rw [h1, h2, Bool.false_or, ← ih]
      have hg := Lib.indexByte_ge l b
      by_cases h3 : Lib.indexByte l b = -1
      · simp [h3]
      · have h4 : (Lib.indexByte l b == -1) = false := by simpa using h3
        rw [if_neg (by simp), h4, if_neg (by simp)]
        rw [Bool.eq_iff_iff]; simp; omega
theorem toUInt8_nat (b : UInt8) : ((b.toNat : Int)).toNat.toUInt8 = b := by simp
set_option maxRecDepth 100000 in
set_option maxHeartbeats 1000000 in
theorem among_ (s : ByteArray) (w : World) :
    Calls Tryz.prog 86 #[.string s] w fun e w' => e = .returned (.func (.func 120) #[] #[.pointer (some ⟨w.heap.size, 0, none⟩)]) ∧ w' = w.alloc (.cells #[.string s] 9) := by
  have hmf : ∀ (fn : Fn) (first cap : Array Value) (w : World), (Instr.makeFunc fn first cap).run Tryz.prog w = .ok (.func fn first cap) w := fun _ _ _ _ => rfl
  go_enter Tryz.func86, Tryz.ntmps86
  go_wp2
  go_ret
  exact ⟨rfl, rfl⟩
set_option maxRecDepth 100000 in
set_option maxHeartbeats 1000000 in
theorem among1_ (s : ByteArray) (b : UInt8) (B : Nat) (W : World) (hx : W.cell? ⟨B, 0, none⟩ = some (.string s)) :
    Calls Tryz.prog 120 #[.int .u8 (b.toNat : Int), .pointer (some ⟨B, 0, none⟩)] W fun e w' => e = .returned (.bool (isIn s.data.toList b)) ∧ W = w' := by
  have c := fun w => Tryz.strings_IndexByte s (b.toNat : Int) w
  rw [toUInt8_nat] at c
  have HI := Lib.hid (indexByte_has s.data.toList b)
  generalize Lib.indexByte s.data.toList b = x at *
  go_enter Tryz.func120, Tryz.ntmps120
  go_wp2_with (go_at_call 121; (with_reducible refine (c _).mono ?_); rintro e w' ⟨rfl, rfl⟩)
  go_ret
  exact ⟨ret_bool HI.out, rfl⟩
theorem tells_among (lo : Nat) (s : ByteArray) (w : World) (hlo : lo + 3 ≤ w.heap.size) (p : UInt8 → Bool) (hp : ∀ b : UInt8, p b = isIn s.data.toList b) :
    Tells ⟨lo, w.heap.size + 1⟩ (w.alloc (.cells #[.string s] 9)) (.func (.func 120) #[] #[.pointer (some ⟨w.heap.size, 0, none⟩)]) p := by
  refine ⟨_, _, rfl, enters_of Tryz.func120 (by kernel_rfl) rfl, fun W b hn hb => ?_⟩
  have h1 := (hb.block w.heap.size (by show w.heap.size < w.heap.size + 1; omega) (.inr hlo)).trans (heap_alloc_new w (.cells #[.string s] 9))
  refine (among1_ s b w.heap.size W (Lib.cell_of_heap h1 0)).mono ?_
  rintro e w' ⟨rfl, rfl⟩
  exact ⟨ret_bool (hp b).symm, Below.refl _ _⟩
end LxC
end Go.Proofs.YtnlbhnmiekanfaaGreatDoor
