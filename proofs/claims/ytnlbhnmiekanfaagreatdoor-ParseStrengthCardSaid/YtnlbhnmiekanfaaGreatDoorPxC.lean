/-
  ParK ParL ParN, joined.
  Conditions: those that are written at each.
-/
import Derived.Test.YtnlbhnmiekanfaaGreatDoorPxB
/-
  The parser's unaries, each way through. Condition: what the parser holds lies in memory.
-/
namespace Go.Proofs.YtnlbhnmiekanfaaGreatDoor
open Go.RowKit
set_option linter.unusedVariables false
set_option linter.unusedSimpArgs false
namespace PaC
open Pa Lx
attribute [local go_sem] fld0 fld1 fld2
variable {N : Nat} {Rl : Bs → Prop}
abbrev five (w : World) : World := w.alloc (.cells #[.string ⟨#[45]⟩, .string ⟨#[33]⟩, .string ⟨#[126]⟩, .string ⟨#[42]⟩, .string ⟨#[38]⟩] 9)
abbrev sl5 (w : World) : Value := .slice (some ⟨w.heap.size, 0, none⟩) 5 5
theorem signs5 {w : World} {B : Nat} (h : w.heap[B]? = some (.cells #[.string ⟨#[45]⟩, .string ⟨#[33]⟩, .string ⟨#[126]⟩, .string ⟨#[42]⟩, .string ⟨#[38]⟩] 9 (0, 0))) : SignsAt w B unaries := fun j v hj => by
  match j, hj with
  | 0, hj => cases hj; exact Lib.cell_of_heap h 0
  | 1, hj => cases hj; exact Lib.cell_of_heap h 1
  | 2, hj => cases hj; exact Lib.cell_of_heap h 2
  | 3, hj => cases hj; exact Lib.cell_of_heap h 3
  | 4, hj => cases hj; exact Lib.cell_of_heap h 4
  | j + 5, hj => simp [unaries] at hj
theorem sees5 {w : World} {G d : Nat} {t : Tok} {r : List Tok} {b : Bool} (h : PAt N w G (t :: r) d) (hx : Pa.sees (t :: r) unaries = b) : Calls Tryz.prog 134 #[ptr G, sl5 w] (five w) (OkPost N G d (.bool b) (t :: r) w) := by
  have hb := (Below.refl w.heap.size w).alloc (Nat.le_refl _) (.cells #[.string ⟨#[45]⟩, .string ⟨#[33]⟩, .string ⟨#[126]⟩, .string ⟨#[42]⟩, .string ⟨#[38]⟩] 9)
  have c := sees_ (c := 5) (n := 5) (h.below hb) (signs5 (heap_alloc_new w _)) rfl (by omega) (by simp)
  rw [hx] at c
  exact c.mono fun e w' hq => ⟨hq.1, (h.below hb).below hq.2, (Keep.of hb).trans (Keep.of hq.2)⟩
theorem sees1 {w : World} {G d : Nat} {t : Tok} {r : List Tok} {b : Bool} (x : Bs) (h : PAt N w G (t :: r) d) (hx : Pa.sees (t :: r) [x] = b) : Calls Tryz.prog 134 #[ptr G, sl1 w] (one w x.toArray) (OkPost N G d (.bool b) (t :: r) w) := by
  have hb := (Below.refl w.heap.size w).alloc (Nat.le_refl _) (.cells #[.string ⟨x.toArray⟩] 9)
  have c := sees_ (c := 1) (n := 1) (h.below hb) (signs1 (x := x) (heap_alloc_new w _)) rfl (by omega) (by simp)
  rw [hx] at c
  exact c.mono fun e w' hq => ⟨hq.1, (h.below hb).below hq.2, (Keep.of hb).trans (Keep.of hq.2)⟩
theorem behind2 {w : World} {G d : Nat} {x t : Tok} {r : List Tok} (h : PAt N w G (x :: t :: r) d) : Calls Tryz.prog 143 #[ptr G] w (OkPost N G d (tokV t) (x :: t :: r) w) :=
  (behind_ h).mono fun e w' hq => ⟨hq.1, h.below hq.2, Keep.of hq.2⟩
/-- one expression alone in a slice -/
theorem ks_one {P Q : Nat → Prop} {w w' : World} {x : Ex} {c : List Value} {B : Nat} (h : ExAt P w x c) (hs : Same P w w') (hPQ : ∀ b, P b → Q b) (hB : Q B) (hh : w'.heap[B]? = some (.cells c.toArray TE (0, 0))) : KsAt Q w' [x] (.slice (some ⟨B, 0, none⟩) 1 1) := by
  refine .some [x] B 0 1 [c] rfl (by simp) (by simp) (by decide) hB (Array.getElem?_eq_some_iff.1 hh).1 ?_ ?_
  · intro i r hi j v hj
    match i, hi with
    | 0, hi =>
      cases hi
      unfold World.cell?
      simp only [hh]
      rw [show 0 + 0 * 8 + j = j by omega, List.getElem?_toArray]
      exact hj
    | i + 1, hi => simp at hi
  · intro i r k hi hk
    match i, hi, hk with
    | 0, hi, hk => cases hi; cases hk; exact h.mono hs hPQ
    | i + 1, hi, hk => simp at hi
theorem leaves_un {R : Ending → World → Prop} {tmps : Array Value} {B : Nat} {w w' : World} {G : Nat} (k n b t p : Int) (op nm : ByteArray) (kv : Value) (old : Array Value)
    (hp : tmps.getD 2 undef = .pointer (some ⟨B, 0, none⟩)) (hB : B ≠ G) (hg : w.heap[B]? = some (.cells old TE (0, 0))) (hk : Keep G (w.setRow B (ex8 k op nm n b kv t p)) w') (hQ : R (.returned (.agg (ex8 k op nm n b kv t p))) w') :
    Leaves Tryz.prog Tryz.f171 tmps R [] .returning w' :=
  ⟨_, results_cell_row Tryz.results171 tmps w' B TE (ex8 k op nm n b kv t p) (0, 0) _ hp (hk.at hB (setRow_heap _ _ _ _ _ _ hg)) Tryz.underlying41 rfl (size8 k n b t p op nm kv), hQ⟩
set_option maxRecDepth 100000 in
set_option maxHeartbeats 4000000 in
theorem unary_deep {w : World} {G d : Nat} {t : Tok} {r : List Tok} (h : PAt N w G (t :: r) d) (hd : 40 ≤ d) : Calls Tryz.prog 171 #[ptr G] w (BadPost G (t.place : Int) 12 w) := by
  have hb : Below w.heap.size w (w.alloc (.cells z8 TE)) := (Below.refl _ _).alloc (Nat.le_refl _) _
  have cd := deeper_no (h.below hb) hd
  have HB := Lib.hid hb
  clear h hb hd
  go_enter_defers Tryz.func171, Tryz.ntmps171
  go_wp2_with ((with_reducible refine cd.mono ?_); rintro e w1 ⟨rfl, hp, hk⟩; have HW := Lib.hid hp; have HK := Lib.hid hk; clear hp hk cd)
  exact ⟨rfl, HW.out, (Keep.of HB.out).trans HK.out⟩
set_option maxRecDepth 100000 in
set_option maxHeartbeats 4000000 in
theorem unary_post_bad {w : World} {G d : Nat} {t : Tok} {r : List Tok} {p er : Nat} (h : PAt N w G (t :: r) d) (hd : d < 40) (h5 : Pa.sees (t :: r) unaries = false) (hx : Pa.sees (t :: r) [[40]] = false) (ca : ∀ W, PAt N W G (t :: r) (d + 1) → Calls Tryz.prog 192 #[ptr G] W (BadPost G (p : Int) (er : Int) W)) :
    Calls Tryz.prog 171 #[ptr G] w (BadPost G (p : Int) (er : Int) w) := by
  have hlt := h.base
  have cd := deeper2 (o := .cells z8 TE) h (by simp) hd
  have HD := Lib.hid hd
  have HZ := Lib.hid (heap_alloc_new w (.cells z8 TE))
  have c1 : ∀ W, PAt N W G (t :: r) (d + 1) → Calls Tryz.prog 64 #[ptr G] W (OkPost N G (d + 1) (tokV t) (t :: r) W) := fun W hW => next2 hW
  have c2 : ∀ W, PAt N W G (t :: r) (d + 1) → Calls Tryz.prog 134 #[ptr G, sl5 W] (five W) (OkPost N G (d + 1) (.bool false) (t :: r) W) := fun W hW => sees5 hW h5
  have c3 : ∀ W, PAt N W G (t :: r) (d + 1) → Calls Tryz.prog 134 #[ptr G, sl1 W] (one W #[40]) (OkPost N G (d + 1) (.bool false) (t :: r) W) := fun W hW => sees1 [40] hW hx
  clear h hd h5 hx
  go_enter_defers Tryz.func171, Tryz.ntmps171
  go_wp2_with (first
    | ((with_reducible refine cd.mono ?_); rintro e w1 ⟨rfl, hv, hp, hk⟩; have HV1 := Lib.hid hv; have HP1 := Lib.hid hp; have HK1 := Lib.hid hk; clear hp hk cd hv)
    | ((with_reducible refine (c1 _ HP1.out).mono ?_); rintro e w2 ⟨rfl, hp, hk⟩; have HP2 := Lib.hid hp; have HK2 := Lib.hid (HK1.out.trans hk); have HV2 := Lib.hid (hk.at (by omega) HV1.out); clear hp hk)
    | ((with_reducible refine (c2 _ HP2.out).mono ?_); rintro e w3 ⟨rfl, hp, hk⟩; have HP3 := Lib.hid hp; have HK3 := Lib.hid (HK2.out.trans hk); have HV3 := Lib.hid (hk.at (by omega) HV2.out); clear hp hk)
    | ((with_reducible refine (c3 _ HP3.out).mono ?_); rintro e w4 ⟨rfl, hp, hk⟩; have HP4 := Lib.hid hp; have HK4 := Lib.hid (HK3.out.trans hk); have HV4 := Lib.hid (hk.at (by omega) HV3.out); clear hp hk)
    | ((with_reducible refine (ca _ HP4.out).mono ?_); rintro e w5 ⟨rfl, hp, hk⟩; have HW := Lib.hid hp; have HK5 := Lib.hid (HK4.out.trans hk); have HV5 := Lib.hid (hk.at (by omega) HV4.out); clear hp hk))
  refine leaves_cons (f := 170) (args := #[.pointer (some ⟨w.heap.size + 1, 0, none⟩)]) (by simp) (by simp [go_sem]) ?_
  refine (falls_back HW.out HV5.out _).mono ?_
  rintro e u' wz ⟨rfl, rfl, hpz, hkz⟩
  exact ⟨rfl, hpz, (HK5.out.trans hkz).first⟩
set_option maxRecDepth 100000 in
set_option maxHeartbeats 4000000 in
theorem unary_post {w : World} {G d : Nat} {t : Tok} {r r2 : List Tok} {x : Ex} (h : PAt N w G (t :: r) d) (hd : d < 40) (h5 : Pa.sees (t :: r) unaries = false) (hx : Pa.sees (t :: r) [[40]] = false) (ca : ∀ W, PAt N W G (t :: r) (d + 1) → Calls Tryz.prog 192 #[ptr G] W (ExOk N G (d + 1) x r2 W)) :
    Calls Tryz.prog 171 #[ptr G] w (ExOk N G d x r2 w) := by
  have hlt := h.base
  have cd := deeper2 (o := .cells z8 TE) h (by simp) hd
  have HD := Lib.hid hd
  have HZ := Lib.hid (heap_alloc_new w (.cells z8 TE))
  have c1 : ∀ W, PAt N W G (t :: r) (d + 1) → Calls Tryz.prog 64 #[ptr G] W (OkPost N G (d + 1) (tokV t) (t :: r) W) := fun W hW => next2 hW
  have c2 : ∀ W, PAt N W G (t :: r) (d + 1) → Calls Tryz.prog 134 #[ptr G, sl5 W] (five W) (OkPost N G (d + 1) (.bool false) (t :: r) W) := fun W hW => sees5 hW h5
  have c3 : ∀ W, PAt N W G (t :: r) (d + 1) → Calls Tryz.prog 134 #[ptr G, sl1 W] (one W #[40]) (OkPost N G (d + 1) (.bool false) (t :: r) W) := fun W hW => sees1 [40] hW hx
  clear h hd h5 hx
  go_enter_defers Tryz.func171, Tryz.ntmps171
  go_wp2_with (first
    | ((with_reducible refine cd.mono ?_); rintro e w1 ⟨rfl, hv, hp, hk⟩; have HV1 := Lib.hid hv; have HP1 := Lib.hid hp; have HK1 := Lib.hid hk; clear hp hk cd hv)
    | ((with_reducible refine (c1 _ HP1.out).mono ?_); rintro e w2 ⟨rfl, hp, hk⟩; have HP2 := Lib.hid hp; have HK2 := Lib.hid (HK1.out.trans hk); have HV2 := Lib.hid (hk.at (by omega) HV1.out); clear hp hk)
    | ((with_reducible refine (c2 _ HP2.out).mono ?_); rintro e w3 ⟨rfl, hp, hk⟩; have HP3 := Lib.hid hp; have HK3 := Lib.hid (HK2.out.trans hk); have HV3 := Lib.hid (hk.at (by omega) HV2.out); clear hp hk)
    | ((with_reducible refine (c3 _ HP3.out).mono ?_); rintro e w4 ⟨rfl, hp, hk⟩; have HP4 := Lib.hid hp; have HK4 := Lib.hid (HK3.out.trans hk); have HV4 := Lib.hid (hk.at (by omega) HV3.out); clear hp hk)
    | ((with_reducible refine (ca _ HP4.out).mono ?_); rintro e w5 ⟨c, rfl, hex, hp, hk⟩; obtain ⟨k1, op1, nm1, n1, b1, t1, p1, a1, l1, q1, e1, z1, -⟩ := hex.eight; rw [e1]; have HP5 := Lib.hid hp; have HK5 := Lib.hid (HK4.out.trans hk); have HV5 := Lib.hid (hk.at (by omega) HV4.out); have hzz := rowK HZ.out hlt HK5.out; have hs3 := HK4.out.size; simp only [World.size_alloc] at hs3; have HX := Lib.hid hex; have HE := Lib.hid e1; clear hp hk hex e1)
    | ((with_reducible refine store8 rfl (.tmp 2) (.tmp 49) rfl w.heap.size k1 n1 b1 t1 p1 ⟨op1.toArray⟩ ⟨nm1.toArray⟩ a1 l1 q1 ?xa ?xb z8 rfl hzz ?_); (case xa => simp [go_sem]); (case xb => simp [go_sem])))
  refine leaves_cons (f := 170) (args := #[.pointer (some ⟨w.heap.size + 1, 0, none⟩)]) (by simp) (by simp [go_sem]) ?_
  refine (goes_back (HP5.out.row (by omega) _) HD.out ((setRow_other _ _ _ _ (by omega)).trans HV5.out) _).mono ?_
  rintro e u' wz ⟨rfl, rfl, hpz, hkz⟩
  refine leaves_un _ _ _ _ _ _ _ _ _ rfl (by omega) hzz hkz ⟨c, by rw [HE.out], ?_, hpz, ((HK5.out.first.row (Nat.le_refl _) _).trans hkz)⟩
  exact (HX.out.mono (Same.row (G := G) (Keep.refl G w5) (by omega) (by omega) _) (New.le (by omega))).mono (Same.of hkz (by omega)) fun b hb => hb
set_option maxRecDepth 100000 in
set_option maxHeartbeats 4000000 in
theorem unary_open_bad {w : World} {G d : Nat} {t v : Tok} {r : List Tok} {p er : Nat} (h : PAt N w G (t :: v :: r) d) (hd : d < 40) (h5 : Pa.sees (t :: v :: r) unaries = false) (hx : Pa.sees (t :: v :: r) [[40]] = true) (hk : v.kind ≠ 5) (ca : ∀ W, PAt N W G (t :: v :: r) (d + 1) → Calls Tryz.prog 192 #[ptr G] W (BadPost G (p : Int) (er : Int) W)) :
    Calls Tryz.prog 171 #[ptr G] w (BadPost G (p : Int) (er : Int) w) := by
  have hlt := h.base
  have cd := deeper2 (o := .cells z8 TE) h (by simp) hd
  have HD := Lib.hid hd
  have HZ := Lib.hid (heap_alloc_new w (.cells z8 TE))
  have c1 : ∀ W, PAt N W G (t :: v :: r) (d + 1) → Calls Tryz.prog 64 #[ptr G] W (OkPost N G (d + 1) (tokV t) (t :: v :: r) W) := fun W hW => next2 hW
  have c2 : ∀ W, PAt N W G (t :: v :: r) (d + 1) → Calls Tryz.prog 134 #[ptr G, sl5 W] (five W) (OkPost N G (d + 1) (.bool false) (t :: v :: r) W) := fun W hW => sees5 hW h5
  have c3 : ∀ W, PAt N W G (t :: v :: r) (d + 1) → Calls Tryz.prog 134 #[ptr G, sl1 W] (one W #[40]) (OkPost N G (d + 1) (.bool true) (t :: v :: r) W) := fun W hW => sees1 [40] hW hx
  have c4 : ∀ W, PAt N W G (t :: v :: r) (d + 1) → Calls Tryz.prog 143 #[ptr G] W (OkPost N G (d + 1) (tokV v) (t :: v :: r) W) := fun W hW => behind2 hW
  have K5 : ((v.kind : Int) == 5) = false := by rw [beq_eq_false_iff_ne]; omega
  clear h hd h5 hx hk
  go_enter_defers Tryz.func171, Tryz.ntmps171
  go_wp2_with (first
    | ((with_reducible refine cd.mono ?_); rintro e w1 ⟨rfl, hv, hp, hk⟩; have HV1 := Lib.hid hv; have HP1 := Lib.hid hp; have HK1 := Lib.hid hk; clear hp hk cd hv)
    | ((with_reducible refine (c1 _ HP1.out).mono ?_); rintro e w2 ⟨rfl, hp, hk⟩; have HP2 := Lib.hid hp; have HK2 := Lib.hid (HK1.out.trans hk); have HV2 := Lib.hid (hk.at (by omega) HV1.out); clear hp hk)
    | ((with_reducible refine (c2 _ HP2.out).mono ?_); rintro e w3 ⟨rfl, hp, hk⟩; have HP3 := Lib.hid hp; have HK3 := Lib.hid (HK2.out.trans hk); have HV3 := Lib.hid (hk.at (by omega) HV2.out); clear hp hk)
    | ((with_reducible refine (c3 _ HP3.out).mono ?_); rintro e w4 ⟨rfl, hp, hk⟩; have HP4 := Lib.hid hp; have HK4 := Lib.hid (HK3.out.trans hk); have HV4 := Lib.hid (hk.at (by omega) HV3.out); clear hp hk)
    | ((with_reducible refine (c4 _ HP4.out).mono ?_); rintro e w5 ⟨rfl, hp, hk⟩; have HP5 := Lib.hid hp; have HK5 := Lib.hid (HK4.out.trans hk); have HV5 := Lib.hid (hk.at (by omega) HV4.out); clear hp hk)
    | ((with_reducible refine (ca _ HP5.out).mono ?_); rintro e w6 ⟨rfl, hp, hk⟩; have HW := Lib.hid hp; have HK6 := Lib.hid (HK5.out.trans hk); have HV6 := Lib.hid (hk.at (by omega) HV5.out); clear hp hk))
  refine leaves_cons (f := 170) (args := #[.pointer (some ⟨w.heap.size + 1, 0, none⟩)]) (by simp) (by simp [go_sem]) ?_
  refine (falls_back HW.out HV6.out _).mono ?_
  rintro e u' wz ⟨rfl, rfl, hpz, hkz⟩
  exact ⟨rfl, hpz, (HK6.out.trans hkz).first⟩
set_option maxRecDepth 100000 in
set_option maxHeartbeats 4000000 in
theorem unary_open {w : World} {G d : Nat} {t v : Tok} {r r2 : List Tok} {x : Ex} (h : PAt N w G (t :: v :: r) d) (hd : d < 40) (h5 : Pa.sees (t :: v :: r) unaries = false) (hx : Pa.sees (t :: v :: r) [[40]] = true) (hk : v.kind ≠ 5) (ca : ∀ W, PAt N W G (t :: v :: r) (d + 1) → Calls Tryz.prog 192 #[ptr G] W (ExOk N G (d + 1) x r2 W)) :
    Calls Tryz.prog 171 #[ptr G] w (ExOk N G d x r2 w) := by
  have hlt := h.base
  have cd := deeper2 (o := .cells z8 TE) h (by simp) hd
  have HD := Lib.hid hd
  have HZ := Lib.hid (heap_alloc_new w (.cells z8 TE))
  have c1 : ∀ W, PAt N W G (t :: v :: r) (d + 1) → Calls Tryz.prog 64 #[ptr G] W (OkPost N G (d + 1) (tokV t) (t :: v :: r) W) := fun W hW => next2 hW
  have c2 : ∀ W, PAt N W G (t :: v :: r) (d + 1) → Calls Tryz.prog 134 #[ptr G, sl5 W] (five W) (OkPost N G (d + 1) (.bool false) (t :: v :: r) W) := fun W hW => sees5 hW h5
  have c3 : ∀ W, PAt N W G (t :: v :: r) (d + 1) → Calls Tryz.prog 134 #[ptr G, sl1 W] (one W #[40]) (OkPost N G (d + 1) (.bool true) (t :: v :: r) W) := fun W hW => sees1 [40] hW hx
  have c4 : ∀ W, PAt N W G (t :: v :: r) (d + 1) → Calls Tryz.prog 143 #[ptr G] W (OkPost N G (d + 1) (tokV v) (t :: v :: r) W) := fun W hW => behind2 hW
  have K5 : ((v.kind : Int) == 5) = false := by rw [beq_eq_false_iff_ne]; omega
  clear h hd h5 hx hk
  go_enter_defers Tryz.func171, Tryz.ntmps171
  go_wp2_with (first
    | ((with_reducible refine cd.mono ?_); rintro e w1 ⟨rfl, hv, hp, hk⟩; have HV1 := Lib.hid hv; have HP1 := Lib.hid hp; have HK1 := Lib.hid hk; clear hp hk cd hv)
    | ((with_reducible refine (c1 _ HP1.out).mono ?_); rintro e w2 ⟨rfl, hp, hk⟩; have HP2 := Lib.hid hp; have HK2 := Lib.hid (HK1.out.trans hk); have HV2 := Lib.hid (hk.at (by omega) HV1.out); clear hp hk)
    | ((with_reducible refine (c2 _ HP2.out).mono ?_); rintro e w3 ⟨rfl, hp, hk⟩; have HP3 := Lib.hid hp; have HK3 := Lib.hid (HK2.out.trans hk); have HV3 := Lib.hid (hk.at (by omega) HV2.out); clear hp hk)
    | ((with_reducible refine (c3 _ HP3.out).mono ?_); rintro e w4 ⟨rfl, hp, hk⟩; have HP4 := Lib.hid hp; have HK4 := Lib.hid (HK3.out.trans hk); have HV4 := Lib.hid (hk.at (by omega) HV3.out); clear hp hk)
    | ((with_reducible refine (c4 _ HP4.out).mono ?_); rintro e w5 ⟨rfl, hp, hk⟩; have HP5 := Lib.hid hp; have HK5 := Lib.hid (HK4.out.trans hk); have HV5 := Lib.hid (hk.at (by omega) HV4.out); clear hp hk)
    | ((with_reducible refine (ca _ HP5.out).mono ?_); rintro e w6 ⟨c, rfl, hex, hp, hk⟩; obtain ⟨k1, op1, nm1, n1, b1, t1, p1, a1, l1, q1, e1, z1, -⟩ := hex.eight; rw [e1]; have HP6 := Lib.hid hp; have HK6 := Lib.hid (HK5.out.trans hk); have HV6 := Lib.hid (hk.at (by omega) HV5.out); have hzz := rowK HZ.out hlt HK6.out; have hs3 := HK5.out.size; simp only [World.size_alloc] at hs3; have HX := Lib.hid hex; have HE := Lib.hid e1; clear hp hk hex e1)
    | ((with_reducible refine store8 rfl (.tmp 2) (.tmp 49) rfl w.heap.size k1 n1 b1 t1 p1 ⟨op1.toArray⟩ ⟨nm1.toArray⟩ a1 l1 q1 ?xa ?xb z8 rfl hzz ?_); (case xa => simp [go_sem]); (case xb => simp [go_sem])))
  refine leaves_cons (f := 170) (args := #[.pointer (some ⟨w.heap.size + 1, 0, none⟩)]) (by simp) (by simp [go_sem]) ?_
  refine (goes_back (HP6.out.row (by omega) _) HD.out ((setRow_other _ _ _ _ (by omega)).trans HV6.out) _).mono ?_
  rintro e u' wz ⟨rfl, rfl, hpz, hkz⟩
  refine leaves_un _ _ _ _ _ _ _ _ _ rfl (by omega) hzz hkz ⟨c, by rw [HE.out], ?_, hpz, ((HK6.out.first.row (Nat.le_refl _) _).trans hkz)⟩
  exact (HX.out.mono (Same.row (G := G) (Keep.refl G w6) (by omega) (by omega) _) (New.le (by omega))).mono (Same.of hkz (by omega)) fun b hb => hb
set_option maxRecDepth 100000 in
set_option maxHeartbeats 4000000 in
theorem unary_sign_bad {w : World} {G d : Nat} {t v : Tok} {r : List Tok} {p er : Nat} (h : PAt N w G (t :: v :: r) d) (hd : d < 40) (h5 : Pa.sees (t :: v :: r) unaries = true) (ca : ∀ W, PAt N W G (v :: r) (d + 1) → Calls Tryz.prog 171 #[ptr G] W (BadPost G (p : Int) (er : Int) W)) :
    Calls Tryz.prog 171 #[ptr G] w (BadPost G (p : Int) (er : Int) w) := by
  have hlt := h.base
  have cd := deeper2 (o := .cells z8 TE) h (by simp) hd
  have HD := Lib.hid hd
  have HZ := Lib.hid (heap_alloc_new w (.cells z8 TE))
  have c1 : ∀ W, PAt N W G (t :: v :: r) (d + 1) → Calls Tryz.prog 64 #[ptr G] W (OkPost N G (d + 1) (tokV t) (t :: v :: r) W) := fun W hW => next2 hW
  have c2 : ∀ W, PAt N W G (t :: v :: r) (d + 1) → Calls Tryz.prog 134 #[ptr G, sl5 W] (five W) (OkPost N G (d + 1) (.bool true) (t :: v :: r) W) := fun W hW => sees5 hW h5
  have c3 : ∀ W, PAt N W G (t :: v :: r) (d + 1) → Calls Tryz.prog 135 #[ptr G] W (OkPost N G (d + 1) (tokV t) (v :: r) W) := fun W hW => read_ hW
  clear h hd h5
  go_enter_defers Tryz.func171, Tryz.ntmps171
  go_wp2_with (first
    | ((with_reducible refine cd.mono ?_); rintro e w1 ⟨rfl, hv, hp, hk⟩; have HV1 := Lib.hid hv; have HP1 := Lib.hid hp; have HK1 := Lib.hid hk; clear hp hk cd hv)
    | ((with_reducible refine (c1 _ HP1.out).mono ?_); rintro e w2 ⟨rfl, hp, hk⟩; have HP2 := Lib.hid hp; have HK2 := Lib.hid (HK1.out.trans hk); have HV2 := Lib.hid (hk.at (by omega) HV1.out); clear hp hk)
    | ((with_reducible refine (c2 _ HP2.out).mono ?_); rintro e w3 ⟨rfl, hp, hk⟩; have HP3 := Lib.hid hp; have HK3 := Lib.hid (HK2.out.trans hk); have HV3 := Lib.hid (hk.at (by omega) HV2.out); clear hp hk)
    | ((with_reducible refine (c3 _ HP3.out).mono ?_); rintro e w4 ⟨rfl, hp, hk⟩; have HP4 := Lib.hid hp; have HK4 := Lib.hid (HK3.out.trans hk); have HV4 := Lib.hid (hk.at (by omega) HV3.out); clear hp hk)
    | ((with_reducible refine (ca _ HP4.out).mono ?_); rintro e w5 ⟨rfl, hp, hk⟩; have HW := Lib.hid hp; have HK5 := Lib.hid (HK4.out.trans hk); have HV5 := Lib.hid (hk.at (by omega) HV4.out); clear hp hk))
  refine leaves_cons (f := 170) (args := #[.pointer (some ⟨w.heap.size + 1, 0, none⟩)]) (by simp) (by simp [go_sem]) ?_
  refine (falls_back HW.out HV5.out _).mono ?_
  rintro e u' wz ⟨rfl, rfl, hpz, hkz⟩
  exact ⟨rfl, hpz, (HK5.out.trans hkz).first⟩
set_option maxRecDepth 100000 in
set_option maxHeartbeats 4000000 in
theorem unary_sign {w : World} {G d : Nat} {t v : Tok} {r r2 : List Tok} {x : Ex} (h : PAt N w G (t :: v :: r) d) (hd : d < 40) (h5 : Pa.sees (t :: v :: r) unaries = true) (ca : ∀ W, PAt N W G (v :: r) (d + 1) → Calls Tryz.prog 171 #[ptr G] W (ExOk N G (d + 1) x r2 W)) :
    Calls Tryz.prog 171 #[ptr G] w (ExOk N G d (.mk 4 t.text [] 0 0 [x] 0 t.place) r2 w) := by
  have hlt := h.base
  have cd := deeper2 (o := .cells z8 TE) h (by simp) hd
  have HD := Lib.hid hd
  have HZ := Lib.hid (heap_alloc_new w (.cells z8 TE))
  have c1 : ∀ W, PAt N W G (t :: v :: r) (d + 1) → Calls Tryz.prog 64 #[ptr G] W (OkPost N G (d + 1) (tokV t) (t :: v :: r) W) := fun W hW => next2 hW
  have c2 : ∀ W, PAt N W G (t :: v :: r) (d + 1) → Calls Tryz.prog 134 #[ptr G, sl5 W] (five W) (OkPost N G (d + 1) (.bool true) (t :: v :: r) W) := fun W hW => sees5 hW h5
  have c3 : ∀ W, PAt N W G (t :: v :: r) (d + 1) → Calls Tryz.prog 135 #[ptr G] W (OkPost N G (d + 1) (tokV t) (v :: r) W) := fun W hW => read_ hW
  clear h hd h5
  go_enter_defers Tryz.func171, Tryz.ntmps171
  go_wp2_with (first
    | ((with_reducible refine cd.mono ?_); rintro e w1 ⟨rfl, hv, hp, hk⟩; have HV1 := Lib.hid hv; have HP1 := Lib.hid hp; have HK1 := Lib.hid hk; clear hp hk cd hv)
    | ((with_reducible refine (c1 _ HP1.out).mono ?_); rintro e w2 ⟨rfl, hp, hk⟩; have HP2 := Lib.hid hp; have HK2 := Lib.hid (HK1.out.trans hk); have HV2 := Lib.hid (hk.at (by omega) HV1.out); clear hp hk)
    | ((with_reducible refine (c2 _ HP2.out).mono ?_); rintro e w3 ⟨rfl, hp, hk⟩; have HP3 := Lib.hid hp; have HK3 := Lib.hid (HK2.out.trans hk); have HV3 := Lib.hid (hk.at (by omega) HV2.out); clear hp hk)
    | ((with_reducible refine (c3 _ HP3.out).mono ?_); rintro e w4 ⟨rfl, hp, hk⟩; have HP4 := Lib.hid hp; have HK4 := Lib.hid (HK3.out.trans hk); have HV4 := Lib.hid (hk.at (by omega) HV3.out); clear hp hk)
    | ((with_reducible refine (ca _ HP4.out).mono ?_); rintro e w5 ⟨c, rfl, hex, hp, hk⟩; obtain ⟨k1, op1, nm1, n1, b1, t1, p1, a1, l1, q1, e1, z1, -⟩ := hex.eight; rw [e1]; have HA := Lib.hid (Keep.of (G := G) ((Below.refl w5.heap.size w5).alloc (Nat.le_refl _) (.cells (ex8 k1 ⟨op1.toArray⟩ ⟨nm1.toArray⟩ n1 b1 (.slice a1 l1 q1) t1 p1) TE))); have HP5 := Lib.hid (hp.below ((Below.refl w5.heap.size w5).alloc (Nat.le_refl _) (.cells (ex8 k1 ⟨op1.toArray⟩ ⟨nm1.toArray⟩ n1 b1 (.slice a1 l1 q1) t1 p1) TE))); have HK5 := Lib.hid ((HK4.out.trans hk).trans HA.out); have HV5 := Lib.hid ((hk.trans HA.out).at (by omega) HV4.out); have hzz := rowK HZ.out hlt HK5.out; have hs3 := HK4.out.size; have hs4 := hk.size; simp only [World.size_alloc] at hs3; have HX := Lib.hid hex; have HE := Lib.hid e1; have HN := Lib.hid (heap_alloc_new w5 (.cells (ex8 k1 ⟨op1.toArray⟩ ⟨nm1.toArray⟩ n1 b1 (.slice a1 l1 q1) t1 p1) TE)); clear hp hk hex e1)
    | ((with_reducible refine store8 rfl (.tmp 2) (.tmp 23) rfl w.heap.size 4 0 0 0 t.place ⟨t.text.toArray⟩ ⟨#[]⟩ (some ⟨w5.heap.size, 0, none⟩) 1 1 ?xa ?xb z8 rfl hzz ?_); (case xa => simp [go_sem]); (case xb => simp [go_sem])))
  refine leaves_cons (f := 170) (args := #[.pointer (some ⟨w.heap.size + 1, 0, none⟩)]) (by simp) (by simp [go_sem]) ?_
  refine (goes_back (HP5.out.row (by omega) _) HD.out ((setRow_other _ _ _ _ (by omega)).trans HV5.out) _).mono ?_
  rintro e u' wz ⟨rfl, rfl, hpz, hkz⟩
  refine leaves_un _ _ _ _ _ _ _ _ _ rfl (by omega) hzz hkz ⟨_, rfl, ?_, hpz, ((HK5.out.first.row (Nat.le_refl _) _).trans hkz)⟩
  refine .mk 4 t.text [] 0 0 [x] 0 t.place _ (ks_one (HX.out.mono (Same.row (G := G) HA.out (by omega) (by omega) _) (New.le (by omega))) (Same.of hkz (by omega)) (fun b hb => hb) (show w.heap.size ≤ w5.heap.size by omega) ?_)
  rw [HE.out]
  exact hkz.at (by omega) ((setRow_other _ _ _ _ (by omega)).trans HN.out)
set_option maxRecDepth 100000 in
set_option maxHeartbeats 4000000 in
theorem unary_cast_typed {w : World} {G d : Nat} {t v : Tok} {r : List Tok} {p er : Nat} (h : PAt N w G (t :: v :: r) d) (hd : d < 40) (h5 : Pa.sees (t :: v :: r) unaries = false) (hx : Pa.sees (t :: v :: r) [[40]] = true) (hk : v.kind = 5) (ct : ∀ W, PAt N W G (v :: r) (d + 1) → Calls Tryz.prog 93 #[ptr G] W (BadPost G (p : Int) (er : Int) W)) :
    Calls Tryz.prog 171 #[ptr G] w (BadPost G (p : Int) (er : Int) w) := by
  have hlt := h.base
  have cd := deeper2 (o := .cells z8 TE) h (by simp) hd
  have HD := Lib.hid hd
  have HZ := Lib.hid (heap_alloc_new w (.cells z8 TE))
  have c1 : ∀ W, PAt N W G (t :: v :: r) (d + 1) → Calls Tryz.prog 64 #[ptr G] W (OkPost N G (d + 1) (tokV t) (t :: v :: r) W) := fun W hW => next2 hW
  have c2 : ∀ W, PAt N W G (t :: v :: r) (d + 1) → Calls Tryz.prog 134 #[ptr G, sl5 W] (five W) (OkPost N G (d + 1) (.bool false) (t :: v :: r) W) := fun W hW => sees5 hW h5
  have c3 : ∀ W, PAt N W G (t :: v :: r) (d + 1) → Calls Tryz.prog 134 #[ptr G, sl1 W] (one W #[40]) (OkPost N G (d + 1) (.bool true) (t :: v :: r) W) := fun W hW => sees1 [40] hW hx
  have c4 : ∀ W, PAt N W G (t :: v :: r) (d + 1) → Calls Tryz.prog 143 #[ptr G] W (OkPost N G (d + 1) (tokV v) (t :: v :: r) W) := fun W hW => behind2 hW
  have c5 : ∀ W, PAt N W G (t :: v :: r) (d + 1) → Calls Tryz.prog 135 #[ptr G] W (OkPost N G (d + 1) (tokV t) (v :: r) W) := fun W hW => read_ hW
  have K5 : ((v.kind : Int) == 5) = true := by rw [beq_iff_eq]; omega
  clear h hd h5 hx hk
  go_enter_defers Tryz.func171, Tryz.ntmps171
  go_wp2_with (first
    | ((with_reducible refine cd.mono ?_); rintro e w1 ⟨rfl, hv, hp, hk⟩; have HV1 := Lib.hid hv; have HP1 := Lib.hid hp; have HK1 := Lib.hid hk; clear hp hk cd hv)
    | ((with_reducible refine (c1 _ HP1.out).mono ?_); rintro e w2 ⟨rfl, hp, hk⟩; have HP2 := Lib.hid hp; have HK2 := Lib.hid (HK1.out.trans hk); have HV2 := Lib.hid (hk.at (by omega) HV1.out); clear hp hk)
    | ((with_reducible refine (c2 _ HP2.out).mono ?_); rintro e w3 ⟨rfl, hp, hk⟩; have HP3 := Lib.hid hp; have HK3 := Lib.hid (HK2.out.trans hk); have HV3 := Lib.hid (hk.at (by omega) HV2.out); clear hp hk)
    | ((with_reducible refine (c3 _ HP3.out).mono ?_); rintro e w4 ⟨rfl, hp, hk⟩; have HP4 := Lib.hid hp; have HK4 := Lib.hid (HK3.out.trans hk); have HV4 := Lib.hid (hk.at (by omega) HV3.out); clear hp hk)
    | ((with_reducible refine (c4 _ HP4.out).mono ?_); rintro e w5 ⟨rfl, hp, hk⟩; have HP5 := Lib.hid hp; have HK5 := Lib.hid (HK4.out.trans hk); have HV5 := Lib.hid (hk.at (by omega) HV4.out); clear hp hk)
    | ((with_reducible refine (c5 _ HP5.out).mono ?_); rintro e w6 ⟨rfl, hp, hk⟩; have HP6 := Lib.hid hp; have HK6 := Lib.hid (HK5.out.trans hk); have HV6 := Lib.hid (hk.at (by omega) HV5.out); clear hp hk)
    | ((with_reducible refine (ct _ HP6.out).mono ?_); rintro e w7 ⟨rfl, hp, hk⟩; have HW := Lib.hid hp; have HK7 := Lib.hid (HK6.out.trans hk); have HV7 := Lib.hid (hk.at (by omega) HV6.out); clear hp hk))
  refine leaves_cons (f := 170) (args := #[.pointer (some ⟨w.heap.size + 1, 0, none⟩)]) (by simp) (by simp [go_sem]) ?_
  refine (falls_back HW.out HV7.out _).mono ?_
  rintro e u' wz ⟨rfl, rfl, hpz, hkz⟩
  exact ⟨rfl, hpz, (HK7.out.trans hkz).first⟩
set_option maxRecDepth 100000 in
set_option maxHeartbeats 4000000 in
theorem unary_cast_open {w : World} {G d : Nat} {t v u : Tok} {r r2 : List Tok} {y : Nat} (h : PAt N w G (t :: v :: r) d) (hd : d < 40) (h5 : Pa.sees (t :: v :: r) unaries = false) (hx : Pa.sees (t :: v :: r) [[40]] = true) (hk : v.kind = 5) (ct : ∀ W, PAt N W G (v :: r) (d + 1) → Calls Tryz.prog 93 #[ptr G] W (OkPost N G (d + 1) (.int .i64 (y : Int)) (u :: r2) W)) (hy : Pa.sees (u :: r2) [[41]] = false) :
    Calls Tryz.prog 171 #[ptr G] w (BadPost G (u.place : Int) 11 w) := by
  have hlt := h.base
  have cd := deeper2 (o := .cells z8 TE) h (by simp) hd
  have HD := Lib.hid hd
  have HZ := Lib.hid (heap_alloc_new w (.cells z8 TE))
  have c1 : ∀ W, PAt N W G (t :: v :: r) (d + 1) → Calls Tryz.prog 64 #[ptr G] W (OkPost N G (d + 1) (tokV t) (t :: v :: r) W) := fun W hW => next2 hW
  have c2 : ∀ W, PAt N W G (t :: v :: r) (d + 1) → Calls Tryz.prog 134 #[ptr G, sl5 W] (five W) (OkPost N G (d + 1) (.bool false) (t :: v :: r) W) := fun W hW => sees5 hW h5
  have c3 : ∀ W, PAt N W G (t :: v :: r) (d + 1) → Calls Tryz.prog 134 #[ptr G, sl1 W] (one W #[40]) (OkPost N G (d + 1) (.bool true) (t :: v :: r) W) := fun W hW => sees1 [40] hW hx
  have c4 : ∀ W, PAt N W G (t :: v :: r) (d + 1) → Calls Tryz.prog 143 #[ptr G] W (OkPost N G (d + 1) (tokV v) (t :: v :: r) W) := fun W hW => behind2 hW
  have c5 : ∀ W, PAt N W G (t :: v :: r) (d + 1) → Calls Tryz.prog 135 #[ptr G] W (OkPost N G (d + 1) (tokV t) (v :: r) W) := fun W hW => read_ hW
  have c7 : ∀ W, PAt N W G (u :: r2) (d + 1) → Calls Tryz.prog 95 #[ptr G, sl1 W] (one W #[41]) (BadPost G (u.place : Int) 11 W) := fun W hW => want1_no [41] hW hy
  have K5 : ((v.kind : Int) == 5) = true := by rw [beq_iff_eq]; omega
  clear h hd h5 hx hk hy
  go_enter_defers Tryz.func171, Tryz.ntmps171
  go_wp2_with (first
    | ((with_reducible refine cd.mono ?_); rintro e w1 ⟨rfl, hv, hp, hk⟩; have HV1 := Lib.hid hv; have HP1 := Lib.hid hp; have HK1 := Lib.hid hk; clear hp hk cd hv)
    | ((with_reducible refine (c1 _ HP1.out).mono ?_); rintro e w2 ⟨rfl, hp, hk⟩; have HP2 := Lib.hid hp; have HK2 := Lib.hid (HK1.out.trans hk); have HV2 := Lib.hid (hk.at (by omega) HV1.out); clear hp hk)
    | ((with_reducible refine (c2 _ HP2.out).mono ?_); rintro e w3 ⟨rfl, hp, hk⟩; have HP3 := Lib.hid hp; have HK3 := Lib.hid (HK2.out.trans hk); have HV3 := Lib.hid (hk.at (by omega) HV2.out); clear hp hk)
    | ((with_reducible refine (c3 _ HP3.out).mono ?_); rintro e w4 ⟨rfl, hp, hk⟩; have HP4 := Lib.hid hp; have HK4 := Lib.hid (HK3.out.trans hk); have HV4 := Lib.hid (hk.at (by omega) HV3.out); clear hp hk)
    | ((with_reducible refine (c4 _ HP4.out).mono ?_); rintro e w5 ⟨rfl, hp, hk⟩; have HP5 := Lib.hid hp; have HK5 := Lib.hid (HK4.out.trans hk); have HV5 := Lib.hid (hk.at (by omega) HV4.out); clear hp hk)
    | ((with_reducible refine (c5 _ HP5.out).mono ?_); rintro e w6 ⟨rfl, hp, hk⟩; have HP6 := Lib.hid hp; have HK6 := Lib.hid (HK5.out.trans hk); have HV6 := Lib.hid (hk.at (by omega) HV5.out); clear hp hk)
    | ((with_reducible refine (ct _ HP6.out).mono ?_); rintro e w7 ⟨rfl, hp, hk⟩; have HP7 := Lib.hid hp; have HK7 := Lib.hid (HK6.out.trans hk); have HV7 := Lib.hid (hk.at (by omega) HV6.out); clear hp hk)
    | ((with_reducible refine (c7 _ HP7.out).mono ?_); rintro e w8 ⟨rfl, hp, hk⟩; have HW := Lib.hid hp; have HK8 := Lib.hid (HK7.out.trans hk); have HV8 := Lib.hid (hk.at (by omega) HV7.out); clear hp hk))
  refine leaves_cons (f := 170) (args := #[.pointer (some ⟨w.heap.size + 1, 0, none⟩)]) (by simp) (by simp [go_sem]) ?_
  refine (falls_back HW.out HV8.out _).mono ?_
  rintro e u' wz ⟨rfl, rfl, hpz, hkz⟩
  exact ⟨rfl, hpz, (HK8.out.trans hkz).first⟩
set_option maxRecDepth 100000 in
set_option maxHeartbeats 4000000 in
theorem unary_cast_bad {w : World} {G d : Nat} {t v u z : Tok} {r r2 : List Tok} {y p er : Nat} (h : PAt N w G (t :: v :: r) d) (hd : d < 40) (h5 : Pa.sees (t :: v :: r) unaries = false) (hx : Pa.sees (t :: v :: r) [[40]] = true) (hk : v.kind = 5) (ct : ∀ W, PAt N W G (v :: r) (d + 1) → Calls Tryz.prog 93 #[ptr G] W (OkPost N G (d + 1) (.int .i64 (y : Int)) (u :: z :: r2) W)) (hy : Pa.sees (u :: z :: r2) [[41]] = true) (hy4 : y ≤ 4) (ca : ∀ W, PAt N W G (z :: r2) (d + 1) → Calls Tryz.prog 171 #[ptr G] W (BadPost G (p : Int) (er : Int) W)) :
    Calls Tryz.prog 171 #[ptr G] w (BadPost G (p : Int) (er : Int) w) := by
  have hlt := h.base
  have cd := deeper2 (o := .cells z8 TE) h (by simp) hd
  have HD := Lib.hid hd
  have HZ := Lib.hid (heap_alloc_new w (.cells z8 TE))
  have c1 : ∀ W, PAt N W G (t :: v :: r) (d + 1) → Calls Tryz.prog 64 #[ptr G] W (OkPost N G (d + 1) (tokV t) (t :: v :: r) W) := fun W hW => next2 hW
  have c2 : ∀ W, PAt N W G (t :: v :: r) (d + 1) → Calls Tryz.prog 134 #[ptr G, sl5 W] (five W) (OkPost N G (d + 1) (.bool false) (t :: v :: r) W) := fun W hW => sees5 hW h5
  have c3 : ∀ W, PAt N W G (t :: v :: r) (d + 1) → Calls Tryz.prog 134 #[ptr G, sl1 W] (one W #[40]) (OkPost N G (d + 1) (.bool true) (t :: v :: r) W) := fun W hW => sees1 [40] hW hx
  have c4 : ∀ W, PAt N W G (t :: v :: r) (d + 1) → Calls Tryz.prog 143 #[ptr G] W (OkPost N G (d + 1) (tokV v) (t :: v :: r) W) := fun W hW => behind2 hW
  have c5 : ∀ W, PAt N W G (t :: v :: r) (d + 1) → Calls Tryz.prog 135 #[ptr G] W (OkPost N G (d + 1) (tokV t) (v :: r) W) := fun W hW => read_ hW
  have c7 : ∀ W, PAt N W G (u :: z :: r2) (d + 1) → Calls Tryz.prog 95 #[ptr G, sl1 W] (one W #[41]) (OkPost N G (d + 1) (.string ⟨u.text.toArray⟩) (z :: r2) W) := fun W hW => want1_yes [41] hW hy
  have K5 : ((v.kind : Int) == 5) = true := by rw [beq_iff_eq]; omega
  have hw : (y : Int) % 4294967296 = (y : Int) := by omega
  clear h hd h5 hx hk hy
  go_enter_defers Tryz.func171, Tryz.ntmps171
  go_wp2_with (first
    | ((with_reducible refine cd.mono ?_); rintro e w1 ⟨rfl, hv, hp, hk⟩; have HV1 := Lib.hid hv; have HP1 := Lib.hid hp; have HK1 := Lib.hid hk; clear hp hk cd hv)
    | ((with_reducible refine (c1 _ HP1.out).mono ?_); rintro e w2 ⟨rfl, hp, hk⟩; have HP2 := Lib.hid hp; have HK2 := Lib.hid (HK1.out.trans hk); have HV2 := Lib.hid (hk.at (by omega) HV1.out); clear hp hk)
    | ((with_reducible refine (c2 _ HP2.out).mono ?_); rintro e w3 ⟨rfl, hp, hk⟩; have HP3 := Lib.hid hp; have HK3 := Lib.hid (HK2.out.trans hk); have HV3 := Lib.hid (hk.at (by omega) HV2.out); clear hp hk)
    | ((with_reducible refine (c3 _ HP3.out).mono ?_); rintro e w4 ⟨rfl, hp, hk⟩; have HP4 := Lib.hid hp; have HK4 := Lib.hid (HK3.out.trans hk); have HV4 := Lib.hid (hk.at (by omega) HV3.out); clear hp hk)
    | ((with_reducible refine (c4 _ HP4.out).mono ?_); rintro e w5 ⟨rfl, hp, hk⟩; have HP5 := Lib.hid hp; have HK5 := Lib.hid (HK4.out.trans hk); have HV5 := Lib.hid (hk.at (by omega) HV4.out); clear hp hk)
    | ((with_reducible refine (c5 _ HP5.out).mono ?_); rintro e w6 ⟨rfl, hp, hk⟩; have HP6 := Lib.hid hp; have HK6 := Lib.hid (HK5.out.trans hk); have HV6 := Lib.hid (hk.at (by omega) HV5.out); clear hp hk)
    | ((with_reducible refine (ct _ HP6.out).mono ?_); rintro e w7 ⟨rfl, hp, hk⟩; have HP7 := Lib.hid hp; have HK7 := Lib.hid (HK6.out.trans hk); have HV7 := Lib.hid (hk.at (by omega) HV6.out); clear hp hk)
    | ((with_reducible refine (c7 _ HP7.out).mono ?_); rintro e w8 ⟨rfl, hp, hk⟩; have HP8 := Lib.hid hp; have HK8 := Lib.hid (HK7.out.trans hk); have HV8 := Lib.hid (hk.at (by omega) HV7.out); clear hp hk)
    | ((with_reducible refine (ca _ HP8.out).mono ?_); rintro e w9 ⟨rfl, hp, hk⟩; have HW := Lib.hid hp; have HK9 := Lib.hid (HK8.out.trans hk); have HV9 := Lib.hid (hk.at (by omega) HV8.out); clear hp hk))
  refine leaves_cons (f := 170) (args := #[.pointer (some ⟨w.heap.size + 1, 0, none⟩)]) (by simp) (by simp [go_sem]) ?_
  refine (falls_back HW.out HV9.out _).mono ?_
  rintro e u' wz ⟨rfl, rfl, hpz, hkz⟩
  exact ⟨rfl, hpz, (HK9.out.trans hkz).first⟩
set_option maxRecDepth 100000 in
set_option maxHeartbeats 4000000 in
theorem unary_cast {w : World} {G d : Nat} {t v u z : Tok} {r r2 r3 : List Tok} {y : Nat} {x : Ex} (h : PAt N w G (t :: v :: r) d) (hd : d < 40) (h5 : Pa.sees (t :: v :: r) unaries = false) (hx : Pa.sees (t :: v :: r) [[40]] = true) (hk : v.kind = 5) (ct : ∀ W, PAt N W G (v :: r) (d + 1) → Calls Tryz.prog 93 #[ptr G] W (OkPost N G (d + 1) (.int .i64 (y : Int)) (u :: z :: r2) W)) (hy : Pa.sees (u :: z :: r2) [[41]] = true) (hy4 : y ≤ 4) (ca : ∀ W, PAt N W G (z :: r2) (d + 1) → Calls Tryz.prog 171 #[ptr G] W (ExOk N G (d + 1) x r3 W)) :
    Calls Tryz.prog 171 #[ptr G] w (ExOk N G d (.mk 9 [] [] y 0 [x] 0 t.place) r3 w) := by
  have hlt := h.base
  have cd := deeper2 (o := .cells z8 TE) h (by simp) hd
  have HD := Lib.hid hd
  have HZ := Lib.hid (heap_alloc_new w (.cells z8 TE))
  have c1 : ∀ W, PAt N W G (t :: v :: r) (d + 1) → Calls Tryz.prog 64 #[ptr G] W (OkPost N G (d + 1) (tokV t) (t :: v :: r) W) := fun W hW => next2 hW
  have c2 : ∀ W, PAt N W G (t :: v :: r) (d + 1) → Calls Tryz.prog 134 #[ptr G, sl5 W] (five W) (OkPost N G (d + 1) (.bool false) (t :: v :: r) W) := fun W hW => sees5 hW h5
  have c3 : ∀ W, PAt N W G (t :: v :: r) (d + 1) → Calls Tryz.prog 134 #[ptr G, sl1 W] (one W #[40]) (OkPost N G (d + 1) (.bool true) (t :: v :: r) W) := fun W hW => sees1 [40] hW hx
  have c4 : ∀ W, PAt N W G (t :: v :: r) (d + 1) → Calls Tryz.prog 143 #[ptr G] W (OkPost N G (d + 1) (tokV v) (t :: v :: r) W) := fun W hW => behind2 hW
  have c5 : ∀ W, PAt N W G (t :: v :: r) (d + 1) → Calls Tryz.prog 135 #[ptr G] W (OkPost N G (d + 1) (tokV t) (v :: r) W) := fun W hW => read_ hW
  have c7 : ∀ W, PAt N W G (u :: z :: r2) (d + 1) → Calls Tryz.prog 95 #[ptr G, sl1 W] (one W #[41]) (OkPost N G (d + 1) (.string ⟨u.text.toArray⟩) (z :: r2) W) := fun W hW => want1_yes [41] hW hy
  have K5 : ((v.kind : Int) == 5) = true := by rw [beq_iff_eq]; omega
  have hw : (y : Int) % 4294967296 = (y : Int) := by omega
  clear h hd h5 hx hk hy
  go_enter_defers Tryz.func171, Tryz.ntmps171
  go_wp2_with (first
    | ((with_reducible refine cd.mono ?_); rintro e w1 ⟨rfl, hv, hp, hk⟩; have HV1 := Lib.hid hv; have HP1 := Lib.hid hp; have HK1 := Lib.hid hk; clear hp hk cd hv)
    | ((with_reducible refine (c1 _ HP1.out).mono ?_); rintro e w2 ⟨rfl, hp, hk⟩; have HP2 := Lib.hid hp; have HK2 := Lib.hid (HK1.out.trans hk); have HV2 := Lib.hid (hk.at (by omega) HV1.out); clear hp hk)
    | ((with_reducible refine (c2 _ HP2.out).mono ?_); rintro e w3 ⟨rfl, hp, hk⟩; have HP3 := Lib.hid hp; have HK3 := Lib.hid (HK2.out.trans hk); have HV3 := Lib.hid (hk.at (by omega) HV2.out); clear hp hk)
    | ((with_reducible refine (c3 _ HP3.out).mono ?_); rintro e w4 ⟨rfl, hp, hk⟩; have HP4 := Lib.hid hp; have HK4 := Lib.hid (HK3.out.trans hk); have HV4 := Lib.hid (hk.at (by omega) HV3.out); clear hp hk)
    | ((with_reducible refine (c4 _ HP4.out).mono ?_); rintro e w5 ⟨rfl, hp, hk⟩; have HP5 := Lib.hid hp; have HK5 := Lib.hid (HK4.out.trans hk); have HV5 := Lib.hid (hk.at (by omega) HV4.out); clear hp hk)
    | ((with_reducible refine (c5 _ HP5.out).mono ?_); rintro e w6 ⟨rfl, hp, hk⟩; have HP6 := Lib.hid hp; have HK6 := Lib.hid (HK5.out.trans hk); have HV6 := Lib.hid (hk.at (by omega) HV5.out); clear hp hk)
    | ((with_reducible refine (ct _ HP6.out).mono ?_); rintro e w7 ⟨rfl, hp, hk⟩; have HP7 := Lib.hid hp; have HK7 := Lib.hid (HK6.out.trans hk); have HV7 := Lib.hid (hk.at (by omega) HV6.out); clear hp hk)
    | ((with_reducible refine (c7 _ HP7.out).mono ?_); rintro e w8 ⟨rfl, hp, hk⟩; have HP8 := Lib.hid hp; have HK8 := Lib.hid (HK7.out.trans hk); have HV8 := Lib.hid (hk.at (by omega) HV7.out); clear hp hk)
    | ((with_reducible refine (ca _ HP8.out).mono ?_); rintro e w9 ⟨c, rfl, hex, hp, hk⟩; obtain ⟨k1, op1, nm1, n1, b1, t1, p1, a1, l1, q1, e1, z1, -⟩ := hex.eight; rw [e1]; have HA := Lib.hid (Keep.of (G := G) ((Below.refl w9.heap.size w9).alloc (Nat.le_refl _) (.cells (ex8 k1 ⟨op1.toArray⟩ ⟨nm1.toArray⟩ n1 b1 (.slice a1 l1 q1) t1 p1) TE))); have HP9 := Lib.hid (hp.below ((Below.refl w9.heap.size w9).alloc (Nat.le_refl _) (.cells (ex8 k1 ⟨op1.toArray⟩ ⟨nm1.toArray⟩ n1 b1 (.slice a1 l1 q1) t1 p1) TE))); have HK9 := Lib.hid ((HK8.out.trans hk).trans HA.out); have HV9 := Lib.hid ((hk.trans HA.out).at (by omega) HV8.out); have hzz := rowK HZ.out hlt HK9.out; have hs3 := HK8.out.size; have hs4 := hk.size; simp only [World.size_alloc] at hs3; have HX := Lib.hid hex; have HE := Lib.hid e1; have HN := Lib.hid (heap_alloc_new w9 (.cells (ex8 k1 ⟨op1.toArray⟩ ⟨nm1.toArray⟩ n1 b1 (.slice a1 l1 q1) t1 p1) TE)); clear hp hk hex e1)
    | ((with_reducible refine store8 rfl (.tmp 2) (.tmp 47) rfl w.heap.size 9 y 0 0 t.place ⟨#[]⟩ ⟨#[]⟩ (some ⟨w9.heap.size, 0, none⟩) 1 1 ?xa ?xb z8 rfl hzz ?_); (case xa => simp [go_sem]); (case xb => simp [go_sem])))
  refine leaves_cons (f := 170) (args := #[.pointer (some ⟨w.heap.size + 1, 0, none⟩)]) (by simp) (by simp [go_sem]) ?_
  refine (goes_back (HP9.out.row (by omega) _) HD.out ((setRow_other _ _ _ _ (by omega)).trans HV9.out) _).mono ?_
  rintro e u' wz ⟨rfl, rfl, hpz, hkz⟩
  refine leaves_un _ _ _ _ _ _ _ _ _ rfl (by omega) hzz hkz ⟨_, rfl, ?_, hpz, ((HK9.out.first.row (Nat.le_refl _) _).trans hkz)⟩
  refine .mk 9 [] [] y 0 [x] 0 t.place _ (ks_one (HX.out.mono (Same.row (G := G) HA.out (by omega) (by omega) _) (New.le (by omega))) (Same.of hkz (by omega)) (fun b hb => hb) (show w.heap.size ≤ w9.heap.size by omega) ?_)
  rw [HE.out]
  exact hkz.at (by omega) ((setRow_other _ _ _ _ (by omega)).trans HN.out)
end PaC
end Go.Proofs.YtnlbhnmiekanfaaGreatDoor
/-
  The parser's expressions: what goes deeper goes back. Condition: what the parser holds lies in memory.
-/
namespace Go.Proofs.YtnlbhnmiekanfaaGreatDoor
open Go.RowKit
set_option linter.unusedVariables false
set_option linter.unusedSimpArgs false
namespace PaC
open Pa Lx
attribute [local go_sem] fld0 fld1 fld2
variable {N : Nat} {Rl : Bs → Prop}
/-- Q, but of a panic only this -/
def OnPanic (R : List Deferred → List PanicEntry → World → Prop) (Q : Exit → Act → World → Prop) : Exit → Act → World → Prop
  | .panic c, a, w => R a.defers c w
  | e, a, w => Q e a w
/-- the eight cells, one by one -/
theorem cells8 {w : World} {B : Nat} {k n b t p : Int} {op nm : ByteArray} {kv : Value} (h : w.heap[B]? = some (.cells (ex8 k op nm n b kv t p) TE (0, 0))) : w.cell? ⟨B, 0, none⟩ = some (.int .i64 k) ∧ w.cell? ⟨B, 1, none⟩ = some (.string op) ∧ w.cell? ⟨B, 2, none⟩ = some (.string nm) ∧ w.cell? ⟨B, 3, none⟩ = some (.int .u32 n) ∧ w.cell? ⟨B, 4, none⟩ = some (.int .u64 b) ∧ w.cell? ⟨B, 5, none⟩ = some kv ∧ w.cell? ⟨B, 6, none⟩ = some (.int .i64 t) ∧ w.cell? ⟨B, 7, none⟩ = some (.int .i64 p) :=
  ⟨Lib.cell_of_heap h 0, Lib.cell_of_heap h 1, Lib.cell_of_heap h 2, Lib.cell_of_heap h 3, Lib.cell_of_heap h 4, Lib.cell_of_heap h 5, Lib.cell_of_heap h 6, Lib.cell_of_heap h 7⟩
theorem OnPanic.imp {R : List Deferred → List PanicEntry → World → Prop} {Q : Exit → Act → World → Prop} (h : ∀ c a w, R a.defers c w → Q (.panic c) a w) : ∀ (e : Exit) (a : Act) (w : World), OnPanic R Q e a w → Q e a w := fun e a w hq => by
  cases e <;> first | exact hq | exact h _ _ _ hq
theorem OnPanic.eq (R : List Deferred → List PanicEntry → World → Prop) (Q : Exit → Act → World → Prop) (c : List PanicEntry) (a : Act) (w : World) : OnPanic R Q (.panic c) a w = R a.defers c w := rfl
theorem OnPanic.eqn (R : List Deferred → List PanicEntry → World → Prop) (Q : Exit → Act → World → Prop) (a : Act) (w : World) : OnPanic R Q .normal a w = Q .normal a w := rfl
attribute [local go_sem] OnPanic.eq OnPanic.eqn
/-- what is deferred: to go back -/
abbrev dfr (B : Nat) : Deferred := ⟨.fn (.func 170) #[.pointer (some ⟨B, 0, none⟩)], #[]⟩
set_option maxRecDepth 100000 in
set_option maxHeartbeats 4000000 in
theorem expr_set_bad {w : World} {G d : Nat} {p er : Nat} {t u v : Tok} {r r2 : List Tok} {x : Ex} (h : PAt N w G (t :: r) d) (hd : d < 40)
    (cb : ∀ W, PAt N W G (t :: r) (d + 1) → Calls Tryz.prog 139 #[ptr G, .int .i64 0] W (ExOk N G (d + 1) x (u :: v :: r2) W)) (hx : Pa.sees (u :: v :: r2) [[61]] = true) (cx : ∀ W, PAt N W G (v :: r2) (d + 1) → Calls Tryz.prog 96 #[ptr G] W (BadPost G (p : Int) (er : Int) W)) : Calls Tryz.prog 96 #[ptr G] w (BadPost G (p : Int) (er : Int) w) := by
  have hlt := h.base
  have cd := deeper2 (o := .cells z8 TE) h (by simp) hd
  have ct : ∀ W, PAt N W G (u :: v :: r2) (d + 1) → Calls Tryz.prog 92 #[ptr G, sl1 W] (one W #[61]) (OkPost N G (d + 1) (.bool true) (v :: r2) W) := fun W hW => takes1_yes [61] hW hx
  have HD := Lib.hid hd
  have HZ := Lib.hid (heap_alloc_new w (.cells z8 TE))
  clear h hd hx
  go_enter_defers Tryz.func96, Tryz.ntmps96
  go_upto_region 4 with (first
    | ((with_reducible refine cd.mono ?_); rintro e w1 ⟨rfl, hv, hp, hk⟩; have HV := Lib.hid hv; have HP1 := Lib.hid hp; have HK1 := Lib.hid hk; clear hp hk cd hv)
    | ((with_reducible refine (cb _ HP1.out).mono ?_); rintro e w4 ⟨c, rfl, hex, hp, hk⟩; obtain ⟨k1, op1, nm1, n1, b1, t1, p1, a1, l1, q1, e1, z1, -⟩ := hex.eight; rw [e1]; have HP4 := Lib.hid (hp.below ((Below.refl _ _).alloc (Nat.le_refl _) (.cells (ex8 k1 ⟨op1.toArray⟩ ⟨nm1.toArray⟩ n1 b1 (.slice a1 l1 q1) t1 p1) TE))); have HA4 := Lib.hid (Keep.of (G := G) ((Below.refl w4.heap.size w4).alloc (Nat.le_refl _) (.cells (ex8 k1 ⟨op1.toArray⟩ ⟨nm1.toArray⟩ n1 b1 (.slice a1 l1 q1) t1 p1) TE))); have HK4 := Lib.hid ((HK1.out.trans hk).trans HA4.out); have HV4 := Lib.hid ((hk.trans HA4.out).at (by omega) HV.out); have HN4 := Lib.hid (heap_alloc_new w4 (.cells (ex8 k1 ⟨op1.toArray⟩ ⟨nm1.toArray⟩ n1 b1 (.slice a1 l1 q1) t1 p1) TE)); have HS4 := Lib.hid hk.size; have HX := Lib.hid hex; have HE := Lib.hid e1; clear hp hk hex e1)
    | (have ct' := ct _ HP4.out; simp only [sl1, one, World.size_alloc] at ct'; (with_reducible refine ct'.mono ?_); rintro e w5 ⟨rfl, hp, hk⟩; have HP5 := Lib.hid hp; have HK5 := Lib.hid (HK4.out.trans hk); have hz5 := rowK HZ.out hlt HK5.out; have hs3 := HK1.out.size; have hs4 := HS4.out; simp only [World.size_alloc] at hs3; have hN5 := hk.at (by omega) HN4.out; have HV5 := Lib.hid (hk.at (by omega) HV4.out); have HA5 := Lib.hid (HA4.out.trans hk); clear hp hk))
  have HP6 := Lib.hid (show PAt N w5.drew G (v :: r2) (d + 1) from HP5.out)
  have HK6 := Lib.hid (HK5.out.drew)
  have HV6 := Lib.hid (show w5.drew.heap[w.heap.size + 1]? = some (.cells #[ptr G] 121 (0, 0)) from HV5.out)
  have HN5 := Lib.hid hN5
  obtain ⟨y0, y1, y2, y3, y4, y5, y6, y7⟩ := cells8 (show w5.drew.heap[w4.heap.size]? = some (.cells (ex8 k1 ⟨op1.toArray⟩ ⟨nm1.toArray⟩ n1 b1 (.slice a1 l1 q1) t1 p1) TE (0, 0)) from hN5)
  clear ct' ct cb HV5 HV4 HV HP4 HP5 HP1 HA4 HA5 HK4 HK5 HN4 HX HE hz5 hN5 z1
  refine Code.wp_mono (OnPanic.imp (R := fun ds c w' => ds = [dfr (w.heap.size + 1)] ∧ BadPost G p er w (.panicked c) w' ∧ w'.heap[w.heap.size + 1]? = some (.cells #[ptr G] 121 (0, 0))) ?imp) ?_
  case imp =>
    rintro c a wz ⟨hdf, ⟨hth, hpz, hkz⟩, hvz⟩
    cases hth
    show Leaves _ _ _ _ a.defers (.panicking _) wz
    rw [hdf]
    refine leaves_cons (f := 170) (args := #[.pointer (some ⟨w.heap.size + 1, 0, none⟩)]) (by simp) (by simp [go_sem]) ?_
    refine (falls_back hpz hvz _).mono ?_
    rintro e u' wy ⟨rfl, rfl, hpy, hky⟩
    exact ⟨rfl, hpy, hkz.trans hky⟩
  refine wp_region_any (by kernel_rfl) ?_
  change wpAny _ _ _ _ _ _ _ (World.drew _)
  refine wpAny_take (i := 1) (v := ptr G) rfl (by kernel_rfl) (by kernel_rfl) (by kernel_rfl) (fun _ _ _ h => h) (Or.inl ⟨by rfl, by intro w; go_simp⟩) ?_
  refine wpAny_ready (rs := [0, 2]) (by kernel_rfl) (by simp) ?_
  refine AllReady.cons rfl (fun K hK => ?_) (AllReady.cons rfl (fun K hK => ?_) AllReady.nil)
  · go_simp
    refine hK _ _ ?_
    clear hK K
    refine wpAny_ready (rs := [2]) (by kernel_rfl) (by simp) ?_
    refine AllReady.cons rfl (fun K hK => ?_) AllReady.nil
    go_simp
    clear hK
    refine (cx _ HP6.out).mono ?_
    rintro e w7 ⟨rfl, hp, hk⟩
    exact ⟨⟨rfl, hp, (HK6.out.trans hk).first⟩, hk.at (by omega) HV6.out⟩
  · go_simp
    clear hK
    refine (cx _ HP6.out).mono ?_
    rintro e w7 ⟨rfl, hp, hk⟩
    exact ⟨⟨rfl, hp, (HK6.out.trans hk).first⟩, hk.at (by omega) HV6.out⟩
end PaC
end Go.Proofs.YtnlbhnmiekanfaaGreatDoor
/-
  The parser's expressions: what goes deeper goes back. Condition: what the parser holds lies in memory.
-/
namespace Go.Proofs.YtnlbhnmiekanfaaGreatDoor
open Go.RowKit
set_option linter.unusedVariables false
set_option linter.unusedSimpArgs false
namespace PaC
open Pa Lx
attribute [local go_sem] fld0 fld1 fld2
variable {N : Nat} {Rl : Bs → Prop}
set_option maxRecDepth 100000 in
set_option maxHeartbeats 4000000 in
theorem expr_set {w : World} {G d : Nat} {t u v : Tok} {r r2 r4 : List Tok} {x y : Ex} (h : PAt N w G (t :: r) d) (hd : d < 40)
    (cb : ∀ W, PAt N W G (t :: r) (d + 1) → Calls Tryz.prog 139 #[ptr G, .int .i64 0] W (ExOk N G (d + 1) x (u :: v :: r2) W)) (hx : Pa.sees (u :: v :: r2) [[61]] = true) (cx : ∀ W, PAt N W G (v :: r2) (d + 1) → Calls Tryz.prog 96 #[ptr G] W (ExOk N G (d + 1) y r4 W)) : Calls Tryz.prog 96 #[ptr G] w (ExOk N G d (Pa.pair 6 [] x y) r4 w) := by
  have hlt := h.base
  have cd := deeper2 (o := .cells z8 TE) h (by simp) hd
  have ct : ∀ W, PAt N W G (u :: v :: r2) (d + 1) → Calls Tryz.prog 92 #[ptr G, sl1 W] (one W #[61]) (OkPost N G (d + 1) (.bool true) (v :: r2) W) := fun W hW => takes1_yes [61] hW hx
  have HD := Lib.hid hd
  have HZ := Lib.hid (heap_alloc_new w (.cells z8 TE))
  clear h hd hx
  go_enter_defers Tryz.func96, Tryz.ntmps96
  go_upto_region 4 with (first
    | ((with_reducible refine cd.mono ?_); rintro e w1 ⟨rfl, hv, hp, hk⟩; have HV := Lib.hid hv; have HP1 := Lib.hid hp; have HK1 := Lib.hid hk; clear hp hk cd hv)
    | ((with_reducible refine (cb _ HP1.out).mono ?_); rintro e w4 ⟨c, rfl, hex, hp, hk⟩; obtain ⟨k1, op1, nm1, n1, b1, t1, p1, a1, l1, q1, e1, z1, -⟩ := hex.eight; rw [e1]; have HP4 := Lib.hid (hp.below ((Below.refl _ _).alloc (Nat.le_refl _) (.cells (ex8 k1 ⟨op1.toArray⟩ ⟨nm1.toArray⟩ n1 b1 (.slice a1 l1 q1) t1 p1) TE))); have HA4 := Lib.hid (Keep.of (G := G) ((Below.refl w4.heap.size w4).alloc (Nat.le_refl _) (.cells (ex8 k1 ⟨op1.toArray⟩ ⟨nm1.toArray⟩ n1 b1 (.slice a1 l1 q1) t1 p1) TE))); have HK4 := Lib.hid ((HK1.out.trans hk).trans HA4.out); have HV4 := Lib.hid ((hk.trans HA4.out).at (by omega) HV.out); have HN4 := Lib.hid (heap_alloc_new w4 (.cells (ex8 k1 ⟨op1.toArray⟩ ⟨nm1.toArray⟩ n1 b1 (.slice a1 l1 q1) t1 p1) TE)); have HS4 := Lib.hid hk.size; have HX := Lib.hid hex; have HE := Lib.hid e1; clear hp hk hex e1)
    | (have ct' := ct _ HP4.out; simp only [sl1, one, World.size_alloc] at ct'; (with_reducible refine ct'.mono ?_); rintro e w5 ⟨rfl, hp, hk⟩; have HP5 := Lib.hid hp; have HK5 := Lib.hid (HK4.out.trans hk); have hz5 := rowK HZ.out hlt HK5.out; have hs3 := HK1.out.size; have hs4 := HS4.out; simp only [World.size_alloc] at hs3; have hN5 := hk.at (by omega) HN4.out; have HV5 := Lib.hid (hk.at (by omega) HV4.out); have HA5 := Lib.hid (HA4.out.trans hk); clear hp hk))
  have HP6 := Lib.hid (show PAt N w5.drew G (v :: r2) (d + 1) from HP5.out)
  have HK6 := Lib.hid (HK5.out.drew)
  have HV6 := Lib.hid (show w5.drew.heap[w.heap.size + 1]? = some (.cells #[ptr G] 121 (0, 0)) from HV5.out)
  have HN5 := Lib.hid hN5
  obtain ⟨y0, y1, y2, y3, y4, y5, y6, y7⟩ := cells8 (show w5.drew.heap[w4.heap.size]? = some (.cells (ex8 k1 ⟨op1.toArray⟩ ⟨nm1.toArray⟩ n1 b1 (.slice a1 l1 q1) t1 p1) TE (0, 0)) from hN5)
  clear ct' ct cb HV5 HV4 HV HP4 HP5 HP1 HA4 HK4 HK5 HN4 hz5 hN5 z1
  have hs5 : w.heap.size + 1 ≤ w5.heap.size := by have := HK6.out.size; simp at this; omega
  refine wp_region_noPanic ?_
  refine wp_region_any (by kernel_rfl) ?_
  change wpAny _ _ _ _ _ _ _ (World.drew _)
  refine wpAny_take (i := 1) (v := ptr G) rfl (by kernel_rfl) (by kernel_rfl) (by kernel_rfl) (fun _ _ _ h => h) (Or.inl ⟨by rfl, by intro w; go_simp⟩) ?_
  refine wpAny_ready (rs := [0, 2]) (by kernel_rfl) (by simp) ?_
  refine AllReady.cons rfl (fun K hK => ?_) (AllReady.cons rfl (fun K hK => ?_) AllReady.nil)
  · go_simp
    refine hK _ _ ?_
    clear hK K
    refine wpAny_ready (rs := [2]) (by kernel_rfl) (by simp) ?_
    refine AllReady.cons rfl (fun K hK => ?_) AllReady.nil
    go_simp
    refine (cx _ HP6.out).mono ?_
    rintro e w7 ⟨c2, rfl, hex2, hp, hk⟩
    have HP7 := Lib.hid hp
    have HK7 := Lib.hid (HK6.out.trans hk)
    have HV7 := Lib.hid (hk.at (by omega) HV6.out)
    have HA7 := Lib.hid (HA5.out.drew.trans hk)
    have hN7 := (show Keep G w5 w7 from ⟨hk.os, hk.tape, hk.output, hk.size, hk.block⟩).at (by omega) HN5.out
    have hs7 : w5.heap.size ≤ w7.heap.size := hk.size
    have HY := Lib.hid hex2
    clear hp hk y0 y1 y2 y3 y4 y5 y6 y7
    refine hK _ _ ?_
    clear hK K
    refine wpAny_ready (rs := [3]) (by kernel_rfl) (by simp) ?_
    refine AllReady.cons rfl (fun K hK => ?_) AllReady.nil
    go_simp
    have cp := pair_ (P := New (w.heap.size + 1)) 6 [] (HX.out.mono (Same.of HA7.out (by omega)) (New.le (by omega))) (HY.out.mono (Same.of (Keep.refl G w7) (by show G < w5.heap.size; omega)) (New.le (by show w.heap.size + 1 ≤ w5.heap.size; omega)))
    rw [HE.out] at cp
    refine cp.mono ?_
    rintro e w8 ⟨c3, rfl, hb8, hex3⟩
    refine hK _ _ ?_
    clear hK K cp
    obtain ⟨k3, op3, nm3, n3, b3, t3, p3, a3, l3, q3, e3, z3, -⟩ := hex3.eight
    have HP8 := Lib.hid (HP7.out.below hb8)
    have HK8 := Lib.hid (HK7.out.trans (Keep.of hb8))
    have HV8 := Lib.hid ((Keep.of (G := G) hb8).at (by omega) HV7.out)
    have hz8 := rowK HZ.out hlt HK8.out
    have hs8 := hb8.size
    rw [e3]
    refine wpAny_ready (rs := [4]) (by kernel_rfl) (by simp) ?_
    refine AllReady.cons rfl (fun K hK => ?_) AllReady.nil
    rw [if_pos (by kernel_rfl)]
    refine wp_store_row TE (.tmp 2) (.tmp 14) rfl w.heap.size (ex8 k3 ⟨op3.toArray⟩ ⟨nm3.toArray⟩ n3 b3 (.slice a3 l3 q3) t3 p3) (by rfl) (by rfl) TE z8 hz8 (size8 _ _ _ _ _ _ _ _) rfl (one8 _ _ _ _ _ _ _ _ _ _) ?_
    refine hK _ _ ?_
    clear hK K
    refine wpAny_done (by kernel_rfl) ?_ _
    refine NoPanic.normal ?_
    go_wp2
    refine leaves_cons (f := 170) (args := #[.pointer (some ⟨w.heap.size + 1, 0, none⟩)]) (by simp) (by simp [go_sem]) ?_
    refine (goes_back (HP8.out.row (by omega) _) HD.out ((setRow_other _ _ _ _ (by omega)).trans HV8.out) _).mono ?_
    rintro e u' wz ⟨rfl, rfl, hpz, hkz⟩
    refine leaves_ex _ _ _ _ _ _ _ _ _ rfl (by omega) hz8 hkz ⟨c3, by rw [e3], ?_, hpz, ((HK8.out.first.row (Nat.le_refl _) _).trans hkz)⟩
    have hex4 : ExAt (New (w.heap.size + 1)) w8 (Pa.pair 6 [] x y) c3 := hex3.mono ⟨Nat.le_refl _, fun _ _ _ => rfl⟩ fun b hb => hb.elim id fun hb => Nat.le_trans (by omega) hb
    exact (hex4.mono (Same.row (G := G) (Keep.refl G w8) (by omega) (by omega) _) (New.le (by omega))).mono (Same.of hkz (by omega)) fun b hb => hb
  · go_simp
    refine (cx _ HP6.out).mono ?_
    rintro e w7 ⟨c2, rfl, hex2, hp, hk⟩
    have HP7 := Lib.hid hp
    have HK7 := Lib.hid (HK6.out.trans hk)
    have HV7 := Lib.hid (hk.at (by omega) HV6.out)
    have HA7 := Lib.hid (HA5.out.drew.trans hk)
    have hN7 := (show Keep G w5 w7 from ⟨hk.os, hk.tape, hk.output, hk.size, hk.block⟩).at (by omega) HN5.out
    have hs7 : w5.heap.size ≤ w7.heap.size := hk.size
    have HY := Lib.hid hex2
    clear hp hk y0 y1 y2 y3 y4 y5 y6 y7
    refine hK _ _ ?_
    clear hK K
    obtain ⟨y0, y1, y2, y3, y4, y5, y6, y7⟩ := cells8 hN7
    refine wpAny_ready (rs := [0]) (by kernel_rfl) (by simp) ?_
    refine AllReady.cons rfl (fun K hK => ?_) AllReady.nil
    go_simp
    refine hK _ _ ?_
    clear hK K y0 y1 y2 y3 y4 y5 y6 y7
    refine wpAny_ready (rs := [3]) (by kernel_rfl) (by simp) ?_
    refine AllReady.cons rfl (fun K hK => ?_) AllReady.nil
    go_simp
    have cp := pair_ (P := New (w.heap.size + 1)) 6 [] (HX.out.mono (Same.of HA7.out (by omega)) (New.le (by omega))) (HY.out.mono (Same.of (Keep.refl G w7) (by show G < w5.heap.size; omega)) (New.le (by show w.heap.size + 1 ≤ w5.heap.size; omega)))
    rw [HE.out] at cp
    refine cp.mono ?_
    rintro e w8 ⟨c3, rfl, hb8, hex3⟩
    refine hK _ _ ?_
    clear hK K cp
    obtain ⟨k3, op3, nm3, n3, b3, t3, p3, a3, l3, q3, e3, z3, -⟩ := hex3.eight
    have HP8 := Lib.hid (HP7.out.below hb8)
    have HK8 := Lib.hid (HK7.out.trans (Keep.of hb8))
    have HV8 := Lib.hid ((Keep.of (G := G) hb8).at (by omega) HV7.out)
    have hz8 := rowK HZ.out hlt HK8.out
    have hs8 := hb8.size
    rw [e3]
    refine wpAny_ready (rs := [4]) (by kernel_rfl) (by simp) ?_
    refine AllReady.cons rfl (fun K hK => ?_) AllReady.nil
    rw [if_pos (by kernel_rfl)]
    refine wp_store_row TE (.tmp 2) (.tmp 14) rfl w.heap.size (ex8 k3 ⟨op3.toArray⟩ ⟨nm3.toArray⟩ n3 b3 (.slice a3 l3 q3) t3 p3) (by rfl) (by rfl) TE z8 hz8 (size8 _ _ _ _ _ _ _ _) rfl (one8 _ _ _ _ _ _ _ _ _ _) ?_
    refine hK _ _ ?_
    clear hK K
    refine wpAny_done (by kernel_rfl) ?_ _
    refine NoPanic.normal ?_
    go_wp2
    refine leaves_cons (f := 170) (args := #[.pointer (some ⟨w.heap.size + 1, 0, none⟩)]) (by simp) (by simp [go_sem]) ?_
    refine (goes_back (HP8.out.row (by omega) _) HD.out ((setRow_other _ _ _ _ (by omega)).trans HV8.out) _).mono ?_
    rintro e u' wz ⟨rfl, rfl, hpz, hkz⟩
    refine leaves_ex _ _ _ _ _ _ _ _ _ rfl (by omega) hz8 hkz ⟨c3, by rw [e3], ?_, hpz, ((HK8.out.first.row (Nat.le_refl _) _).trans hkz)⟩
    have hex4 : ExAt (New (w.heap.size + 1)) w8 (Pa.pair 6 [] x y) c3 := hex3.mono ⟨Nat.le_refl _, fun _ _ _ => rfl⟩ fun b hb => hb.elim id fun hb => Nat.le_trans (by omega) hb
    exact (hex4.mono (Same.row (G := G) (Keep.refl G w8) (by omega) (by omega) _) (New.le (by omega))).mono (Same.of hkz (by omega)) fun b hb => hb
end PaC
end Go.Proofs.YtnlbhnmiekanfaaGreatDoor
