/-
  The reader of a text, made: where it lies, and what its functions tell. Condition: none.
-/
import Derived.Test.YtnlbhnmiekanfaaGreatDoorLexD
import Derived.Outline
namespace Go.Proofs.YtnlbhnmiekanfaaGreatDoor
open Go.RowKit
set_option linter.unusedVariables false
set_option linter.unusedSimpArgs false
namespace LxC
open Lx
abbrev Fv (g : Nat) (lb : Array Value) : Value := .func (.func g) #[] lb
theorem Tells.up {lo : Nat} {w W : World} {f : Value} {p : UInt8 → Bool} (h : Tells ⟨lo, w.heap.size⟩ w f p) (hb : Below w.heap.size w W) : Tells ⟨lo, W.heap.size⟩ W f p :=
  h.later (Un.of hb (Nat.le_refl _)) rfl hb.size
theorem from2_ (lo : Nat) (x y : Int) (p : UInt8 → Bool) (hp : ∀ b : UInt8, p b = (decide (x ≤ (b.toNat : Int)) && decide ((b.toNat : Int) ≤ y))) (w : World) (hlo : lo + 3 ≤ w.heap.size) :
    Calls Tryz.prog 85 #[.int .u8 x, .int .u8 y] w fun e w' => ∃ lb, e = .returned (.func (.func 119) #[] lb) ∧ Tells ⟨lo, w'.heap.size⟩ w' (Fv 119 lb) p ∧ Below w.heap.size w w' := by
  refine (from_ x y w).mono ?_
  rintro e w' ⟨rfl, rfl⟩
  have h := tells_from lo x y w hlo p hp
  rw [show w.heap.size + 2 = ((w.alloc (.cells #[.int .u8 x] 5)).alloc (.cells #[.int .u8 y] 5)).heap.size by simp] at h
  exact ⟨_, rfl, h, ((Below.refl _ _).alloc (Nat.le_refl _) _).alloc (by simp) _⟩
theorem among2_ (lo : Nat) (s : ByteArray) (p : UInt8 → Bool) (hp : ∀ b : UInt8, p b = isIn s.data.toList b) (w : World) (hlo : lo + 3 ≤ w.heap.size) :
    Calls Tryz.prog 86 #[.string s] w fun e w' => ∃ lb, e = .returned (.func (.func 120) #[] lb) ∧ Tells ⟨lo, w'.heap.size⟩ w' (Fv 120 lb) p ∧ Below w.heap.size w w' := by
  refine (among_ s w).mono ?_
  rintro e w' ⟨rfl, rfl⟩
  have h := tells_among lo s w hlo p hp
  rw [show w.heap.size + 1 = (w.alloc (.cells #[.string s] 9)).heap.size by simp] at h
  exact ⟨_, rfl, h, (Below.refl _ _).alloc (Nat.le_refl _) _⟩
theorem not2_ (lo g : Nat) (lb : Array Value) {p : UInt8 → Bool} (q : UInt8 → Bool) (hq : ∀ b, q b = !p b) (w : World) (hlo : lo + 3 ≤ w.heap.size) (hf : Tells ⟨lo, w.heap.size⟩ w (Fv g lb) p) :
    Calls Tryz.prog 88 #[.func (.func g) #[] lb] w fun e w' => ∃ lb', e = .returned (.func (.func 125) #[] lb') ∧ Tells ⟨lo, w'.heap.size⟩ w' (Fv 125 lb') q ∧ Below w.heap.size w w' := by
  refine (not_ g lb w).mono ?_
  rintro e w' ⟨rfl, rfl⟩
  have h := tells_not hf (Nat.le_refl _) hlo q hq
  rw [show w.heap.size + 1 = (w.alloc (.cells #[.func (.func g) #[] lb] 138)).heap.size by simp] at h
  exact ⟨_, rfl, h, (Below.refl _ _).alloc (Nat.le_refl _) _⟩
theorem either2_ {lo A n : Nat} {fs : List Value} {ps : List (UInt8 → Bool)} (w : World) (hf : fs.length = n) (hl : ps.length = n) (hn : n ≤ 1000) (hA : w.heap[A]? = some (.cells fs.toArray 138 (0, 0))) (hAlo : lo + 3 ≤ A)
    (ht : ∀ (j : Nat) (v : Value) (p : UInt8 → Bool), fs[j]? = some v → ps[j]? = some p → Tells ⟨lo, w.heap.size⟩ w v p) (q : UInt8 → Bool) (hq : ∀ b, q b = (ps.map (· b)).any id) :
    Calls Tryz.prog 87 #[.slice (some ⟨A, 0, none⟩) n n] w fun e w' => ∃ lb', e = .returned (.func (.func 122) #[] lb') ∧ Tells ⟨lo, w'.heap.size⟩ w' (Fv 122 lb') q ∧ Below w.heap.size w w' := by
  refine (either_ A n w).mono ?_
  rintro e w' ⟨rfl, rfl⟩
  have hlt : A < w.heap.size := (Array.getElem?_eq_some_iff.1 hA).1
  have h := tells_either (m := ⟨lo, w.heap.size⟩) (w0 := w) hf hl hn hlt hAlo (Nat.le_refl _) (Un.refl _ _) (fun j v hv => (Lib.cell_of_heap hA j).trans (by simpa using hv)) ht q hq
  rw [show w.heap.size + 1 = (w.alloc (.cells #[.slice (some ⟨A, 0, none⟩) n n] 173)).heap.size by simp] at h
  exact ⟨_, rfl, h, (Below.refl _ _).alloc (Nat.le_refl _) _⟩
/-- a reader's functions -/
structure Fs where
  blank : Value
  line : Value
  letter : Value
  name : Value
  digit : Value
  point : Value
  power : Value
  sign : Value
  number : Value
structure Fs.Ok (fs : Fs) (n : Rg) (w : World) : Prop where
  blank : Tells n w fs.blank Lx.blank
  line : Tells n w fs.line Lx.inLine
  letter : Tells n w fs.letter Lx.letter
  name : Tells n w fs.name Lx.inName
  digit : Tells n w fs.digit Lx.digit
  point : Tells n w fs.point (Lx.isB 46)
  power : Tells n w fs.power (Lx.isB 101)
  sign : Tells n w fs.sign Lx.plus
  number : Tells n w fs.number Lx.inNumber
abbrev TR : TypeId := 144
def rdCells (s : ByteArray) (k : Int) (fs : Fs) : Array Value := #[.string s, .int .i64 k, fs.blank, fs.line, fs.letter, fs.name, fs.digit, fs.point, fs.power, fs.sign, fs.number]
def NewR (lo : Nat) (s : ByteArray) (w : World) (e : Ending) (w' : World) : Prop :=
  ∃ (fs : Fs) (w1 : World), e = .returned (.pointer (some ⟨w1.heap.size, 0, none⟩)) ∧ fs.Ok ⟨lo, w1.heap.size⟩ w1 ∧ Below w.heap.size w w1 ∧ w' = w1.alloc (.cells (rdCells s 0 fs) TR)
theorem digit_eq (b : UInt8) : digit b = (decide ((48 : Int) ≤ (b.toNat : Int)) && decide ((b.toNat : Int) ≤ 57)) := by
  unfold digit; rw [Bool.eq_iff_iff]; simp; omega
def lower (b : UInt8) : Bool := decide ((97 : Int) ≤ (b.toNat : Int)) && decide ((b.toNat : Int) ≤ 122)
def upper (b : UInt8) : Bool := decide ((65 : Int) ≤ (b.toNat : Int)) && decide ((b.toNat : Int) ≤ 90)
theorem letter_eq (b : UInt8) : letter b = ([lower, upper, isB 95].map (· b)).any id := by
  unfold letter lower upper isB; rw [Bool.eq_iff_iff]; simp [← UInt8.toNat_inj]; omega
theorem inName_eq (b : UInt8) : inName b = ([letter, digit].map (· b)).any id := by simp [inName]
theorem inNumber_eq (b : UInt8) : inNumber b = ([inName, isB 46].map (· b)).any id := by simp [inNumber, isB]
theorem isB_eq (c b : UInt8) : isB c b = isIn [c] b := by
  unfold isB isIn; rw [Bool.eq_iff_iff]; simp
theorem blank_eq (b : UInt8) : Lx.blank b = isIn [9, 10, 13, 32] b := by
  unfold Lx.blank isIn; rw [Bool.eq_iff_iff]; simp [or_assoc]
theorem plus_eq (b : UInt8) : plus b = isIn [43, 45] b := by
  unfold plus isIn; rw [Bool.eq_iff_iff]; simp
theorem inLine_eq (b : UInt8) : inLine b = !isB 10 b := rfl
set_option maxRecDepth 100000 in
set_option maxHeartbeats 4000000 in
theorem newReader_ (lo : Nat) (s : ByteArray) (w : World) (hlo : lo + 3 ≤ w.heap.size) : Calls Tryz.prog 62 #[.string s] w (NewR lo s w) := by
  have c1 := fun w => from2_ lo 48 57 digit digit_eq w
  have c2 := fun w => among2_ lo ⟨#[46]⟩ (isB 46) (isB_eq 46) w
  have c3 := fun w => from2_ lo 97 122 lower (fun _ => rfl) w
  have c4 := fun w => from2_ lo 65 90 upper (fun _ => rfl) w
  have c5 := fun w => among2_ lo ⟨#[95]⟩ (isB 95) (isB_eq 95) w
  have c6 := fun w => among2_ lo ⟨#[9, 10, 13, 32]⟩ Lx.blank blank_eq w
  have c7 := fun w => among2_ lo ⟨#[10]⟩ (isB 10) (isB_eq 10) w
  have c8 := fun w => among2_ lo ⟨#[101]⟩ (isB 101) (isB_eq 101) w
  have c9 := fun w => among2_ lo ⟨#[43, 45]⟩ plus plus_eq w
  go_enter Tryz.func62, Tryz.ntmps62
  go_wp2_with (first
    | ((with_reducible refine (c1 _ (by omega)).mono ?_); rintro e w1 ⟨l1, rfl, t1, b1⟩; have hz1 := b1.size)
    | ((with_reducible refine (c2 _ (by omega)).mono ?_); rintro e w2 ⟨l2, rfl, t2, b2⟩; have hz2 := b2.size)
    | ((with_reducible refine (c3 _ (by omega)).mono ?_); rintro e w3 ⟨l3, rfl, t3, b3⟩; have hz3 := b3.size)
    | ((with_reducible refine (c4 _ (by omega)).mono ?_); rintro e w4 ⟨l4, rfl, t4, b4⟩; have hz4 := b4.size)
    | ((with_reducible refine (c5 _ (by omega)).mono ?_); rintro e w5 ⟨l5, rfl, t5, b5⟩; have hz5 := b5.size))
  have T3 := t3.up (b4.trans (b5.mono b4.size))
  have T4 := t4.up b5
  have x6 := heap_alloc_new w5 (.cells #[Fv 119 l3, Fv 119 l4, Fv 120 l5] 138)
  have b6 : Below w5.heap.size w5 (w5.alloc (.cells #[Fv 119 l3, Fv 119 l4, Fv 120 l5] 138)) := (Below.refl _ _).alloc (Nat.le_refl _) _
  refine (either2_ (lo := lo) (fs := [Fv 119 l3, Fv 119 l4, Fv 120 l5]) (ps := [lower, upper, isB 95]) _ rfl rfl (by simp) x6 (by omega) (fun j v p hv hp => ?_) letter letter_eq).mono ?_
  · have hj : j < 3 := (List.getElem?_eq_some_iff.1 hv).1
    match j, hj with
    | 0, _ => cases hv; cases hp; exact T3.up b6
    | 1, _ => cases hv; cases hp; exact T4.up b6
    | 2, _ => cases hv; cases hp; exact t5.up b6
  rintro e w7 ⟨l7, rfl, t7, b7⟩
  have hz7 : w5.heap.size ≤ w7.heap.size := by have := b7.size; rw [World.size_alloc] at this; omega
  have B7 : Below w1.heap.size w1 w7 := (((b2.trans (b3.mono b2.size)).trans (b4.mono (by have := b2.size; have := b3.size; omega))).trans (b5.mono (by have := b2.size; have := b3.size; have := b4.size; omega))).trans ((b6.trans (b7.mono b6.size)).mono (by have := b2.size; have := b3.size; have := b4.size; have := b5.size; omega))
  have T1 := t1.up B7
  have B72 : Below w2.heap.size w2 w7 := ((b3.trans (b4.mono b3.size)).trans (b5.mono (by have := b3.size; have := b4.size; omega))).trans ((b6.trans (b7.mono b6.size)).mono (by have := b3.size; have := b4.size; have := b5.size; omega))
  have T2 := t2.up B72
  have BW7 := b1.trans (B7.mono b1.size)
  clear t1 t2 t3 t4 t5 T3 T4 b1 b2 b3 b4 b5 b6 b7 x6 B7 B72 c1 c2 c3 c4 c5
  go_wp2_with fail
  have x8 := heap_alloc_new w7 (.cells #[Fv 122 l7, Fv 119 l1] 138)
  have b8 : Below w7.heap.size w7 (w7.alloc (.cells #[Fv 122 l7, Fv 119 l1] 138)) := (Below.refl _ _).alloc (Nat.le_refl _) _
  refine (either2_ (lo := lo) (fs := [Fv 122 l7, Fv 119 l1]) (ps := [letter, digit]) _ rfl rfl (by simp) x8 (by omega) (fun j v p hv hp => ?_) inName inName_eq).mono ?_
  · have hj : j < 2 := (List.getElem?_eq_some_iff.1 hv).1
    match j, hj with
    | 0, _ => cases hv; cases hp; exact t7.up b8
    | 1, _ => cases hv; cases hp; exact T1.up b8
  rintro e w9 ⟨l9, rfl, t9, b9⟩
  have hz9 : w7.heap.size ≤ w9.heap.size := by have := b9.size; rw [World.size_alloc] at this; omega
  have B9 := b8.trans (b9.mono b8.size)
  have T7 := t7.up B9
  have S1 := T1.up B9
  have S2 := T2.up B9
  have BW9 := BW7.trans (B9.mono BW7.size)
  clear t7 T1 T2 b8 b9 x8 B9 BW7
  go_wp2_with (first
    | ((with_reducible refine (c6 _ (by omega)).mono ?_); rintro e w10 ⟨l10, rfl, t10, b10⟩; have hz10 := b10.size)
    | ((with_reducible refine (c7 _ (by omega)).mono ?_); rintro e w11 ⟨l11, rfl, t11, b11⟩; have hz11 := b11.size; have c10 := not2_ lo 120 l11 inLine inLine_eq w11 (by omega) t11)
    | ((with_reducible refine c10.mono ?_); rintro e w12 ⟨l12, rfl, t12, b12⟩; have hz12 := b12.size; clear c10)
    | ((with_reducible refine (c8 _ (by omega)).mono ?_); rintro e w13 ⟨l13, rfl, t13, b13⟩; have hz13 := b13.size)
    | ((with_reducible refine (c9 _ (by omega)).mono ?_); rintro e w14 ⟨l14, rfl, t14, b14⟩; have hz14 := b14.size))
  have B12 := b12.trans ((b13.trans (b14.mono b13.size)).mono b12.size)
  have B10 := b11.trans (B12.mono b11.size)
  have B13 := b13.trans (b14.mono b13.size)
  have B9 := b10.trans (B10.mono b10.size)
  have x15 := heap_alloc_new w14 (.cells #[Fv 122 l9, Fv 120 l2] 138)
  have b15 : Below w14.heap.size w14 (w14.alloc (.cells #[Fv 122 l9, Fv 120 l2] 138)) := (Below.refl _ _).alloc (Nat.le_refl _) _
  have U9 := t9.up B9
  have U2 := S2.up B9
  have U1 := S1.up B9
  have U7 := T7.up B9
  have U10 := t10.up B10
  have U12 := t12.up B13
  have U13 := t13.up b14
  have BW := BW9.trans (B9.mono BW9.size)
  clear c6 c7 c8 c9 t9 S2 S1 T7 t10 t11 t12 t13 B9 B10 B12 B13 b10 b11 b12 b13 b14 BW9
  refine (either2_ (lo := lo) (fs := [Fv 122 l9, Fv 120 l2]) (ps := [inName, isB 46]) _ rfl rfl (by simp) x15 (by omega) (fun j v p hv hp => ?_) inNumber inNumber_eq).mono ?_
  · have hj : j < 2 := (List.getElem?_eq_some_iff.1 hv).1
    match j, hj with
    | 0, _ => cases hv; cases hp; exact U9.up b15
    | 1, _ => cases hv; cases hp; exact U2.up b15
  rintro e w16 ⟨l16, rfl, t16, b16⟩
  have B16 := b15.trans (b16.mono b15.size)
  have hF : Fs.Ok ⟨Fv 120 l10, Fv 125 l12, Fv 122 l7, Fv 122 l9, Fv 119 l1, Fv 120 l2, Fv 120 l13, Fv 120 l14, Fv 122 l16⟩ ⟨lo, w16.heap.size⟩ w16 :=
    ⟨U10.up B16, U12.up B16, U7.up B16, U9.up B16, U1.up B16, U2.up B16, U13.up B16, t14.up B16, t16⟩
  have HF := Lib.hid hF
  have HB := Lib.hid (BW.trans (B16.mono BW.size))
  clear hF U10 U12 U7 U9 U1 U2 U13 t14 t16 B16 BW b15 b16 x15
  go_wp2_with fail
  go_ret
  exact ⟨_, w16, rfl, HF.out, HB.out, rfl⟩
end LxC
end Go.Proofs.YtnlbhnmiekanfaaGreatDoor
