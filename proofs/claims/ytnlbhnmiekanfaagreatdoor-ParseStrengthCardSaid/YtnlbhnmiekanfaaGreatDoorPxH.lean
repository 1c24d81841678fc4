/-
  ParSt ParSu ParSv, joined.
  Conditions: those that are written at each.
-/
import Derived.Test.YtnlbhnmiekanfaaGreatDoorPxG
/-
  The parser's statements, each way through. Condition: what the parser holds lies in memory.
-/
namespace Go.Proofs.YtnlbhnmiekanfaaGreatDoor
open Go.RowKit Go.Deep
set_option linter.unusedVariables false
set_option linter.unusedSimpArgs false
namespace PaC
open Pa Lx
attribute [local go_sem] fld0 fld1 fld2 OnPanic.eq OnPanic.eqn
variable {N : Nat} {Rl : Bs → Prop} {rb : Bs → Nat}
theorem leaves_st {R : Ending → World → Prop} {tmps : Array Value} {B : Nat} {w w' : World} {G : Nat} (k t l p : Int) (nm : ByteArray) (ev kv : Value) (old : Array Value)
    (hp : tmps.getD 2 undef = .pointer (some ⟨B, 0, none⟩)) (hB : B ≠ G) (hg : w.heap[B]? = some (.cells old TSt (0, 0))) (hk : Keep G (w.setRow B (st7 k ev kv nm t l p)) w') (hQ : R (.returned (.agg (st7 k ev kv nm t l p))) w') :
    Leaves Tryz.prog Tryz.f173 tmps R [] .returning w' :=
  ⟨_, results_cell_row Tryz.results173 tmps w' B TSt (st7 k ev kv nm t l p) (0, 0) _ hp (hk.at hB (setRow_heap _ _ _ _ _ _ hg)) Tryz.underlying35 rfl (size7 k ev kv nm t l p), hQ⟩
abbrev three (w : World) : World := w.alloc (.cells #[.string ⟨#[105, 110, 116]⟩, .string ⟨#[100, 111, 117, 98, 108, 101]⟩, .string ⟨#[118, 111, 105, 100]⟩] 9)
abbrev sl3 (w : World) : Value := .slice (some ⟨w.heap.size, 0, none⟩) 3 3
theorem Same.rowS {n G B : Nat} {w w' : World} (h : Keep G w w') (hG : G < n) (hB : B < n) (cs : Array Value) : Same (New n) w (w'.setRow B cs) := Same.row h hG hB cs
set_option maxRecDepth 100000 in
set_option maxHeartbeats 8000000 in
theorem stmt_deep {w : World} {G d : Nat} {t : Tok} {r : List Tok} (h : PAt N w G (t :: r) d) (hd : 40 ≤ d) : Calls Tryz.prog 173 #[ptr G] w (BadPost G (t.place : Int) 12 w) := by
  have hb : Below w.heap.size w (w.alloc (.cells z7 TSt)) := (Below.refl _ _).alloc (Nat.le_refl _) _
  have cd := deeper_no (h.below hb) hd
  have HB := Lib.hid hb
  clear h hb hd
  go_enter_defers Tryz.func173, Tryz.ntmps173
  go_wp2_with ((with_reducible refine cd.mono ?_); rintro e w1 ⟨rfl, hp, hk⟩; have HW := Lib.hid hp; have HK := Lib.hid hk; clear hp hk cd)
  exact ⟨rfl, HW.out, (Keep.of HB.out).trans HK.out⟩
set_option maxRecDepth 100000 in
set_option maxHeartbeats 8000000 in
theorem stmt_block_bad {w : World} {G d : Nat} {ts : List Tok} {p er : Nat} (h : PAt N w G ts d) (hg : Good Rl ts) (hd : d < 40) (hs0 : Pa.sees ts [[123]] = true) (cx : ∀ W, PAt N W G ts (d + 1) → Calls Tryz.prog 146 #[ptr G] W (BadPost G (p : Int) (er : Int) W)) :
    Calls Tryz.prog 173 #[ptr G] w (BadPost G (p : Int) (er : Int) w) := by
  have hlt := h.base
  have hne : ts ≠ [] := by obtain ⟨t, l, rfl⟩ := hg.ne; simp
  have cd := deeper2 (o := .cells z7 TSt) h hne hd
  have HD := Lib.hid hd
  have HZ := Lib.hid (heap_alloc_new w (.cells z7 TSt))
  have c1 : ∀ W, PAt N W G ts (d + 1) → Calls Tryz.prog 64 #[ptr G] W (OkPost N G (d + 1) (tokV (Pa.hd ts)) ts W) := fun W hW => nextL hg hW
  have d0 : ∀ W, PAt N W G ts (d + 1) → Calls Tryz.prog 134 #[ptr G, sl1 W] (one W #[123]) (OkPost N G (d + 1) (.bool true) ts W) := fun W hW => by have := seesL [[123]] 1 rfl (by decide) hg hW; rw [hs0] at this; exact this
  clear h hd hne hs0
  go_enter_defers Tryz.func173, Tryz.ntmps173
  go_wp2_with (first
    | ((with_reducible refine cd.mono ?_); rintro e w1 ⟨rfl, hv, hp, hk⟩; have HV1 := Lib.hid hv; have HP1 := Lib.hid hp; have HK1 := Lib.hid hk; clear hp hk cd hv)
    | ((with_reducible refine (c1 _ HP1.out).mono ?_); rintro e w2 ⟨rfl, hp, hk⟩; have HP2 := Lib.hid hp; have HK2 := Lib.hid (HK1.out.trans hk); have HV2 := Lib.hid (hk.at (by omega) HV1.out); clear hp hk c1)
    | ((with_reducible refine (d0 _ HP2.out).mono ?_); rintro e w3 ⟨rfl, hp, hk⟩; have HP3 := Lib.hid hp; have HK3 := Lib.hid (HK2.out.trans hk); have HV3 := Lib.hid (hk.at (by omega) HV2.out); clear hp hk d0)
    | ((with_reducible refine (cx _ HP3.out).mono ?_); rintro e w4 ⟨rfl, hp, hk⟩; have HW := Lib.hid hp; have HK4 := Lib.hid (HK3.out.trans hk); have HV4 := Lib.hid (hk.at (by omega) HV3.out); clear hp hk))
  refine leaves_cons (f := 170) (args := #[.pointer (some ⟨w.heap.size + 1, 0, none⟩)]) (by simp) (by simp [go_sem]) ?_
  refine (falls_back HW.out HV4.out _).mono ?_
  rintro e u' wz ⟨rfl, rfl, hpz, hkz⟩
  exact ⟨rfl, hpz, (HK4.out.trans hkz).first⟩
set_option maxRecDepth 100000 in
set_option maxHeartbeats 8000000 in
theorem stmt_block {w : World} {G d : Nat} {ts r2 : List Tok} {x : St} (h : PAt N w G ts d) (hg : Good Rl ts) (hd : d < 40) (hs0 : Pa.sees ts [[123]] = true) (cx : ∀ W, PAt N W G ts (d + 1) → Calls Tryz.prog 146 #[ptr G] W (StOk N G (d + 1) x r2 W)) :
    Calls Tryz.prog 173 #[ptr G] w (StOk N G d x r2 w) := by
  have hlt := h.base
  have hne : ts ≠ [] := by obtain ⟨t, l, rfl⟩ := hg.ne; simp
  have cd := deeper2 (o := .cells z7 TSt) h hne hd
  have HD := Lib.hid hd
  have HZ := Lib.hid (heap_alloc_new w (.cells z7 TSt))
  have c1 : ∀ W, PAt N W G ts (d + 1) → Calls Tryz.prog 64 #[ptr G] W (OkPost N G (d + 1) (tokV (Pa.hd ts)) ts W) := fun W hW => nextL hg hW
  have d0 : ∀ W, PAt N W G ts (d + 1) → Calls Tryz.prog 134 #[ptr G, sl1 W] (one W #[123]) (OkPost N G (d + 1) (.bool true) ts W) := fun W hW => by have := seesL [[123]] 1 rfl (by decide) hg hW; rw [hs0] at this; exact this
  clear h hd hne hs0
  go_enter_defers Tryz.func173, Tryz.ntmps173
  go_wp2_with (first
    | ((with_reducible refine cd.mono ?_); rintro e w1 ⟨rfl, hv, hp, hk⟩; have HV1 := Lib.hid hv; have HP1 := Lib.hid hp; have HK1 := Lib.hid hk; clear hp hk cd hv)
    | ((with_reducible refine (c1 _ HP1.out).mono ?_); rintro e w2 ⟨rfl, hp, hk⟩; have HP2 := Lib.hid hp; have HK2 := Lib.hid (HK1.out.trans hk); have HV2 := Lib.hid (hk.at (by omega) HV1.out); clear hp hk c1)
    | ((with_reducible refine (d0 _ HP2.out).mono ?_); rintro e w3 ⟨rfl, hp, hk⟩; have HP3 := Lib.hid hp; have HK3 := Lib.hid (HK2.out.trans hk); have HV3 := Lib.hid (hk.at (by omega) HV2.out); clear hp hk d0)
    | ((with_reducible refine (cx _ HP3.out).mono ?_); rintro e w4 ⟨c, rfl, hst, hp, hk⟩; obtain ⟨k3, nm3, t3, p3, p4, a3, l3, c3, a4, l4, q4, e3, z3⟩ := hst.seven; rw [e3]; have HP4 := Lib.hid hp; have HK4 := Lib.hid (HK3.out.trans hk); have HV4 := Lib.hid (hk.at (by omega) HV3.out); have hz4 := rowK HZ.out hlt HK4.out; have HX := Lib.hid hst; have HE := Lib.hid e3; have HSZ := Lib.hid HK3.out.size; clear hp hk hst e3 z3)
    | ((with_reducible refine store7 rfl (.tmp 2) (.tmp 15) rfl w.heap.size k3 t3 p3 p4 ⟨nm3.toArray⟩ a3 a4 l3 c3 l4 q4 ?xa ?xb z7 rfl hz4 ?_); (case xa => simp [go_sem]); (case xb => simp [go_sem])))
  refine leaves_cons (f := 170) (args := #[.pointer (some ⟨w.heap.size + 1, 0, none⟩)]) (by simp) (by simp [go_sem]) ?_
  refine (goes_back (HP4.out.row (by omega) _) HD.out ((setRow_other _ _ _ _ (by omega)).trans HV4.out) _).mono ?_
  rintro e u' wz ⟨rfl, rfl, hpz, hkz⟩
  refine leaves_st _ _ _ _ _ _ _ _ rfl (by omega) hz4 hkz ⟨c, by rw [HE.out], ?_, hpz, ((HK4.out.first.row (Nat.le_refl _) _).trans hkz)⟩
  have hsz := HSZ.out
  rw [World.size_alloc] at hsz
  exact (HX.out.mono (Same.row (G := G) (Keep.refl G w4) (by omega) (by omega) _) (New.le (by omega))).mono (Same.of hkz (by omega)) fun b hb => hb
set_option maxRecDepth 100000 in
set_option maxHeartbeats 8000000 in
theorem stmt_local_bad {w : World} {G d : Nat} {ts : List Tok} {p er : Nat} (h : PAt N w G ts d) (hg : Good Rl ts) (hd : d < 40) (hs0 : Pa.sees ts [[123]] = false) (hs1 : Pa.sees ts types = true) (cx : ∀ W, PAt N W G ts (d + 1) → Calls Tryz.prog 195 #[ptr G] W (BadPost G (p : Int) (er : Int) W)) :
    Calls Tryz.prog 173 #[ptr G] w (BadPost G (p : Int) (er : Int) w) := by
  have hlt := h.base
  have hne : ts ≠ [] := by obtain ⟨t, l, rfl⟩ := hg.ne; simp
  have cd := deeper2 (o := .cells z7 TSt) h hne hd
  have HD := Lib.hid hd
  have HZ := Lib.hid (heap_alloc_new w (.cells z7 TSt))
  have c1 : ∀ W, PAt N W G ts (d + 1) → Calls Tryz.prog 64 #[ptr G] W (OkPost N G (d + 1) (tokV (Pa.hd ts)) ts W) := fun W hW => nextL hg hW
  have d0 : ∀ W, PAt N W G ts (d + 1) → Calls Tryz.prog 134 #[ptr G, sl1 W] (one W #[123]) (OkPost N G (d + 1) (.bool false) ts W) := fun W hW => by have := seesL [[123]] 1 rfl (by decide) hg hW; rw [hs0] at this; exact this
  have d1 : ∀ W, PAt N W G ts (d + 1) → Calls Tryz.prog 134 #[ptr G, sl3 W] (three W) (OkPost N G (d + 1) (.bool true) ts W) := fun W hW => by have := seesL types 3 rfl (by decide) hg hW; rw [hs1] at this; exact this
  clear h hd hne hs0 hs1
  go_enter_defers Tryz.func173, Tryz.ntmps173
  go_wp2_with (first
    | ((with_reducible refine cd.mono ?_); rintro e w1 ⟨rfl, hv, hp, hk⟩; have HV1 := Lib.hid hv; have HP1 := Lib.hid hp; have HK1 := Lib.hid hk; clear hp hk cd hv)
    | ((with_reducible refine (c1 _ HP1.out).mono ?_); rintro e w2 ⟨rfl, hp, hk⟩; have HP2 := Lib.hid hp; have HK2 := Lib.hid (HK1.out.trans hk); have HV2 := Lib.hid (hk.at (by omega) HV1.out); clear hp hk c1)
    | ((with_reducible refine (d0 _ HP2.out).mono ?_); rintro e w3 ⟨rfl, hp, hk⟩; have HP3 := Lib.hid hp; have HK3 := Lib.hid (HK2.out.trans hk); have HV3 := Lib.hid (hk.at (by omega) HV2.out); clear hp hk d0)
    | ((with_reducible refine (d1 _ HP3.out).mono ?_); rintro e w4 ⟨rfl, hp, hk⟩; have HP4 := Lib.hid hp; have HK4 := Lib.hid (HK3.out.trans hk); have HV4 := Lib.hid (hk.at (by omega) HV3.out); clear hp hk d1)
    | ((with_reducible refine (cx _ HP4.out).mono ?_); rintro e w5 ⟨rfl, hp, hk⟩; have HW := Lib.hid hp; have HK5 := Lib.hid (HK4.out.trans hk); have HV5 := Lib.hid (hk.at (by omega) HV4.out); clear hp hk))
  refine leaves_cons (f := 170) (args := #[.pointer (some ⟨w.heap.size + 1, 0, none⟩)]) (by simp) (by simp [go_sem]) ?_
  refine (falls_back HW.out HV5.out _).mono ?_
  rintro e u' wz ⟨rfl, rfl, hpz, hkz⟩
  exact ⟨rfl, hpz, (HK5.out.trans hkz).first⟩
set_option maxRecDepth 100000 in
set_option maxHeartbeats 8000000 in
theorem stmt_local {w : World} {G d : Nat} {ts r2 : List Tok} {x : St} (h : PAt N w G ts d) (hg : Good Rl ts) (hd : d < 40) (hs0 : Pa.sees ts [[123]] = false) (hs1 : Pa.sees ts types = true) (cx : ∀ W, PAt N W G ts (d + 1) → Calls Tryz.prog 195 #[ptr G] W (StOk N G (d + 1) x r2 W)) :
    Calls Tryz.prog 173 #[ptr G] w (StOk N G d x r2 w) := by
  have hlt := h.base
  have hne : ts ≠ [] := by obtain ⟨t, l, rfl⟩ := hg.ne; simp
  have cd := deeper2 (o := .cells z7 TSt) h hne hd
  have HD := Lib.hid hd
  have HZ := Lib.hid (heap_alloc_new w (.cells z7 TSt))
  have c1 : ∀ W, PAt N W G ts (d + 1) → Calls Tryz.prog 64 #[ptr G] W (OkPost N G (d + 1) (tokV (Pa.hd ts)) ts W) := fun W hW => nextL hg hW
  have d0 : ∀ W, PAt N W G ts (d + 1) → Calls Tryz.prog 134 #[ptr G, sl1 W] (one W #[123]) (OkPost N G (d + 1) (.bool false) ts W) := fun W hW => by have := seesL [[123]] 1 rfl (by decide) hg hW; rw [hs0] at this; exact this
  have d1 : ∀ W, PAt N W G ts (d + 1) → Calls Tryz.prog 134 #[ptr G, sl3 W] (three W) (OkPost N G (d + 1) (.bool true) ts W) := fun W hW => by have := seesL types 3 rfl (by decide) hg hW; rw [hs1] at this; exact this
  clear h hd hne hs0 hs1
  go_enter_defers Tryz.func173, Tryz.ntmps173
  go_wp2_with (first
    | ((with_reducible refine cd.mono ?_); rintro e w1 ⟨rfl, hv, hp, hk⟩; have HV1 := Lib.hid hv; have HP1 := Lib.hid hp; have HK1 := Lib.hid hk; clear hp hk cd hv)
    | ((with_reducible refine (c1 _ HP1.out).mono ?_); rintro e w2 ⟨rfl, hp, hk⟩; have HP2 := Lib.hid hp; have HK2 := Lib.hid (HK1.out.trans hk); have HV2 := Lib.hid (hk.at (by omega) HV1.out); clear hp hk c1)
    | ((with_reducible refine (d0 _ HP2.out).mono ?_); rintro e w3 ⟨rfl, hp, hk⟩; have HP3 := Lib.hid hp; have HK3 := Lib.hid (HK2.out.trans hk); have HV3 := Lib.hid (hk.at (by omega) HV2.out); clear hp hk d0)
    | ((with_reducible refine (d1 _ HP3.out).mono ?_); rintro e w4 ⟨rfl, hp, hk⟩; have HP4 := Lib.hid hp; have HK4 := Lib.hid (HK3.out.trans hk); have HV4 := Lib.hid (hk.at (by omega) HV3.out); clear hp hk d1)
    | ((with_reducible refine (cx _ HP4.out).mono ?_); rintro e w5 ⟨c, rfl, hst, hp, hk⟩; obtain ⟨k3, nm3, t3, p3, p4, a3, l3, c3, a4, l4, q4, e3, z3⟩ := hst.seven; rw [e3]; have HP5 := Lib.hid hp; have HK5 := Lib.hid (HK4.out.trans hk); have HV5 := Lib.hid (hk.at (by omega) HV4.out); have hz5 := rowK HZ.out hlt HK5.out; have HX := Lib.hid hst; have HE := Lib.hid e3; have HSZ := Lib.hid HK4.out.size; clear hp hk hst e3 z3)
    | ((with_reducible refine store7 rfl (.tmp 2) (.tmp 21) rfl w.heap.size k3 t3 p3 p4 ⟨nm3.toArray⟩ a3 a4 l3 c3 l4 q4 ?xa ?xb z7 rfl hz5 ?_); (case xa => simp [go_sem]); (case xb => simp [go_sem])))
  refine leaves_cons (f := 170) (args := #[.pointer (some ⟨w.heap.size + 1, 0, none⟩)]) (by simp) (by simp [go_sem]) ?_
  refine (goes_back (HP5.out.row (by omega) _) HD.out ((setRow_other _ _ _ _ (by omega)).trans HV5.out) _).mono ?_
  rintro e u' wz ⟨rfl, rfl, hpz, hkz⟩
  refine leaves_st _ _ _ _ _ _ _ _ rfl (by omega) hz5 hkz ⟨c, by rw [HE.out], ?_, hpz, ((HK5.out.first.row (Nat.le_refl _) _).trans hkz)⟩
  have hsz := HSZ.out
  rw [World.size_alloc] at hsz
  exact (HX.out.mono (Same.row (G := G) (Keep.refl G w5) (by omega) (by omega) _) (New.le (by omega))).mono (Same.of hkz (by omega)) fun b hb => hb
set_option maxRecDepth 100000 in
set_option maxHeartbeats 8000000 in
theorem stmt_return_bad {w : World} {G d : Nat} {ts : List Tok} {p er : Nat} (h : PAt N w G ts d) (hg : Good Rl ts) (hd : d < 40) (hs0 : Pa.sees ts [[123]] = false) (hs1 : Pa.sees ts types = false) (hs2 : Pa.sees ts [[105, 102]] = false) (hs3 : Pa.sees ts [[119, 104, 105, 108, 101]] = false) (hs4 : Pa.sees ts [[114, 101, 116, 117, 114, 110]] = true) (cx : ∀ W, PAt N W G ts.tail (d + 1) → Calls Tryz.prog 197 #[ptr G, .int .i64 4, .int .i64 ((Pa.hd ts).place : Int)] W (BadPost G (p : Int) (er : Int) W)) :
    Calls Tryz.prog 173 #[ptr G] w (BadPost G (p : Int) (er : Int) w) := by
  have hlt := h.base
  have hne : ts ≠ [] := by obtain ⟨t, l, rfl⟩ := hg.ne; simp
  have cd := deeper2 (o := .cells z7 TSt) h hne hd
  have HD := Lib.hid hd
  have HZ := Lib.hid (heap_alloc_new w (.cells z7 TSt))
  have c1 : ∀ W, PAt N W G ts (d + 1) → Calls Tryz.prog 64 #[ptr G] W (OkPost N G (d + 1) (tokV (Pa.hd ts)) ts W) := fun W hW => nextL hg hW
  have d0 : ∀ W, PAt N W G ts (d + 1) → Calls Tryz.prog 134 #[ptr G, sl1 W] (one W #[123]) (OkPost N G (d + 1) (.bool false) ts W) := fun W hW => by have := seesL [[123]] 1 rfl (by decide) hg hW; rw [hs0] at this; exact this
  have d1 : ∀ W, PAt N W G ts (d + 1) → Calls Tryz.prog 134 #[ptr G, sl3 W] (three W) (OkPost N G (d + 1) (.bool false) ts W) := fun W hW => by have := seesL types 3 rfl (by decide) hg hW; rw [hs1] at this; exact this
  have d2 : ∀ W, PAt N W G ts (d + 1) → Calls Tryz.prog 92 #[ptr G, sl1 W] (one W #[105, 102]) (OkPost N G (d + 1) (.bool false) ts W) := fun W hW => takesL [[105, 102]] 1 rfl (by decide) (by decide) hg hs2 hW
  have d3 : ∀ W, PAt N W G ts (d + 1) → Calls Tryz.prog 92 #[ptr G, sl1 W] (one W #[119, 104, 105, 108, 101]) (OkPost N G (d + 1) (.bool false) ts W) := fun W hW => takesL [[119, 104, 105, 108, 101]] 1 rfl (by decide) (by decide) hg hs3 hW
  have d4 : ∀ W, PAt N W G ts (d + 1) → Calls Tryz.prog 92 #[ptr G, sl1 W] (one W #[114, 101, 116, 117, 114, 110]) (OkPost N G (d + 1) (.bool true) ts.tail W) := fun W hW => takesL [[114, 101, 116, 117, 114, 110]] 1 rfl (by decide) (by decide) hg hs4 hW
  clear h hd hne hs0 hs1 hs2 hs3 hs4
  go_enter_defers Tryz.func173, Tryz.ntmps173
  go_wp2_with (first
    | ((with_reducible refine cd.mono ?_); rintro e w1 ⟨rfl, hv, hp, hk⟩; have HV1 := Lib.hid hv; have HP1 := Lib.hid hp; have HK1 := Lib.hid hk; clear hp hk cd hv)
    | ((with_reducible refine (c1 _ HP1.out).mono ?_); rintro e w2 ⟨rfl, hp, hk⟩; have HP2 := Lib.hid hp; have HK2 := Lib.hid (HK1.out.trans hk); have HV2 := Lib.hid (hk.at (by omega) HV1.out); clear hp hk c1)
    | ((with_reducible refine (d0 _ HP2.out).mono ?_); rintro e w3 ⟨rfl, hp, hk⟩; have HP3 := Lib.hid hp; have HK3 := Lib.hid (HK2.out.trans hk); have HV3 := Lib.hid (hk.at (by omega) HV2.out); clear hp hk d0)
    | ((with_reducible refine (d1 _ HP3.out).mono ?_); rintro e w4 ⟨rfl, hp, hk⟩; have HP4 := Lib.hid hp; have HK4 := Lib.hid (HK3.out.trans hk); have HV4 := Lib.hid (hk.at (by omega) HV3.out); clear hp hk d1)
    | ((with_reducible refine (d2 _ HP4.out).mono ?_); rintro e w5 ⟨rfl, hp, hk⟩; have HP5 := Lib.hid hp; have HK5 := Lib.hid (HK4.out.trans hk); have HV5 := Lib.hid (hk.at (by omega) HV4.out); clear hp hk d2)
    | ((with_reducible refine (d3 _ HP5.out).mono ?_); rintro e w6 ⟨rfl, hp, hk⟩; have HP6 := Lib.hid hp; have HK6 := Lib.hid (HK5.out.trans hk); have HV6 := Lib.hid (hk.at (by omega) HV5.out); clear hp hk d3)
    | ((with_reducible refine (d4 _ HP6.out).mono ?_); rintro e w7 ⟨rfl, hp, hk⟩; have HP7 := Lib.hid hp; have HK7 := Lib.hid (HK6.out.trans hk); have HV7 := Lib.hid (hk.at (by omega) HV6.out); clear hp hk d4)
    | ((with_reducible refine (cx _ HP7.out).mono ?_); rintro e w8 ⟨rfl, hp, hk⟩; have HW := Lib.hid hp; have HK8 := Lib.hid (HK7.out.trans hk); have HV8 := Lib.hid (hk.at (by omega) HV7.out); clear hp hk))
  refine leaves_cons (f := 170) (args := #[.pointer (some ⟨w.heap.size + 1, 0, none⟩)]) (by simp) (by simp [go_sem]) ?_
  refine (falls_back HW.out HV8.out _).mono ?_
  rintro e u' wz ⟨rfl, rfl, hpz, hkz⟩
  exact ⟨rfl, hpz, (HK8.out.trans hkz).first⟩
set_option maxRecDepth 100000 in
set_option maxHeartbeats 8000000 in
theorem stmt_return {w : World} {G d : Nat} {ts r2 : List Tok} {x : St} (h : PAt N w G ts d) (hg : Good Rl ts) (hd : d < 40) (hs0 : Pa.sees ts [[123]] = false) (hs1 : Pa.sees ts types = false) (hs2 : Pa.sees ts [[105, 102]] = false) (hs3 : Pa.sees ts [[119, 104, 105, 108, 101]] = false) (hs4 : Pa.sees ts [[114, 101, 116, 117, 114, 110]] = true) (cx : ∀ W, PAt N W G ts.tail (d + 1) → Calls Tryz.prog 197 #[ptr G, .int .i64 4, .int .i64 ((Pa.hd ts).place : Int)] W (StOk N G (d + 1) x r2 W)) :
    Calls Tryz.prog 173 #[ptr G] w (StOk N G d x r2 w) := by
  have hlt := h.base
  have hne : ts ≠ [] := by obtain ⟨t, l, rfl⟩ := hg.ne; simp
  have cd := deeper2 (o := .cells z7 TSt) h hne hd
  have HD := Lib.hid hd
  have HZ := Lib.hid (heap_alloc_new w (.cells z7 TSt))
  have c1 : ∀ W, PAt N W G ts (d + 1) → Calls Tryz.prog 64 #[ptr G] W (OkPost N G (d + 1) (tokV (Pa.hd ts)) ts W) := fun W hW => nextL hg hW
  have d0 : ∀ W, PAt N W G ts (d + 1) → Calls Tryz.prog 134 #[ptr G, sl1 W] (one W #[123]) (OkPost N G (d + 1) (.bool false) ts W) := fun W hW => by have := seesL [[123]] 1 rfl (by decide) hg hW; rw [hs0] at this; exact this
  have d1 : ∀ W, PAt N W G ts (d + 1) → Calls Tryz.prog 134 #[ptr G, sl3 W] (three W) (OkPost N G (d + 1) (.bool false) ts W) := fun W hW => by have := seesL types 3 rfl (by decide) hg hW; rw [hs1] at this; exact this
  have d2 : ∀ W, PAt N W G ts (d + 1) → Calls Tryz.prog 92 #[ptr G, sl1 W] (one W #[105, 102]) (OkPost N G (d + 1) (.bool false) ts W) := fun W hW => takesL [[105, 102]] 1 rfl (by decide) (by decide) hg hs2 hW
  have d3 : ∀ W, PAt N W G ts (d + 1) → Calls Tryz.prog 92 #[ptr G, sl1 W] (one W #[119, 104, 105, 108, 101]) (OkPost N G (d + 1) (.bool false) ts W) := fun W hW => takesL [[119, 104, 105, 108, 101]] 1 rfl (by decide) (by decide) hg hs3 hW
  have d4 : ∀ W, PAt N W G ts (d + 1) → Calls Tryz.prog 92 #[ptr G, sl1 W] (one W #[114, 101, 116, 117, 114, 110]) (OkPost N G (d + 1) (.bool true) ts.tail W) := fun W hW => takesL [[114, 101, 116, 117, 114, 110]] 1 rfl (by decide) (by decide) hg hs4 hW
  clear h hd hne hs0 hs1 hs2 hs3 hs4
  go_enter_defers Tryz.func173, Tryz.ntmps173
  go_wp2_with (first
    | ((with_reducible refine cd.mono ?_); rintro e w1 ⟨rfl, hv, hp, hk⟩; have HV1 := Lib.hid hv; have HP1 := Lib.hid hp; have HK1 := Lib.hid hk; clear hp hk cd hv)
    | ((with_reducible refine (c1 _ HP1.out).mono ?_); rintro e w2 ⟨rfl, hp, hk⟩; have HP2 := Lib.hid hp; have HK2 := Lib.hid (HK1.out.trans hk); have HV2 := Lib.hid (hk.at (by omega) HV1.out); clear hp hk c1)
    | ((with_reducible refine (d0 _ HP2.out).mono ?_); rintro e w3 ⟨rfl, hp, hk⟩; have HP3 := Lib.hid hp; have HK3 := Lib.hid (HK2.out.trans hk); have HV3 := Lib.hid (hk.at (by omega) HV2.out); clear hp hk d0)
    | ((with_reducible refine (d1 _ HP3.out).mono ?_); rintro e w4 ⟨rfl, hp, hk⟩; have HP4 := Lib.hid hp; have HK4 := Lib.hid (HK3.out.trans hk); have HV4 := Lib.hid (hk.at (by omega) HV3.out); clear hp hk d1)
    | ((with_reducible refine (d2 _ HP4.out).mono ?_); rintro e w5 ⟨rfl, hp, hk⟩; have HP5 := Lib.hid hp; have HK5 := Lib.hid (HK4.out.trans hk); have HV5 := Lib.hid (hk.at (by omega) HV4.out); clear hp hk d2)
    | ((with_reducible refine (d3 _ HP5.out).mono ?_); rintro e w6 ⟨rfl, hp, hk⟩; have HP6 := Lib.hid hp; have HK6 := Lib.hid (HK5.out.trans hk); have HV6 := Lib.hid (hk.at (by omega) HV5.out); clear hp hk d3)
    | ((with_reducible refine (d4 _ HP6.out).mono ?_); rintro e w7 ⟨rfl, hp, hk⟩; have HP7 := Lib.hid hp; have HK7 := Lib.hid (HK6.out.trans hk); have HV7 := Lib.hid (hk.at (by omega) HV6.out); clear hp hk d4)
    | ((with_reducible refine (cx _ HP7.out).mono ?_); rintro e w8 ⟨c, rfl, hst, hp, hk⟩; obtain ⟨k3, nm3, t3, p3, p4, a3, l3, c3, a4, l4, q4, e3, z3⟩ := hst.seven; rw [e3]; have HP8 := Lib.hid hp; have HK8 := Lib.hid (HK7.out.trans hk); have HV8 := Lib.hid (hk.at (by omega) HV7.out); have hz8 := rowK HZ.out hlt HK8.out; have HX := Lib.hid hst; have HE := Lib.hid e3; have HSZ := Lib.hid HK7.out.size; clear hp hk hst e3 z3)
    | ((with_reducible refine store7 rfl (.tmp 2) (.tmp 53) rfl w.heap.size k3 t3 p3 p4 ⟨nm3.toArray⟩ a3 a4 l3 c3 l4 q4 ?xa ?xb z7 rfl hz8 ?_); (case xa => simp [go_sem]); (case xb => simp [go_sem])))
  refine leaves_cons (f := 170) (args := #[.pointer (some ⟨w.heap.size + 1, 0, none⟩)]) (by simp) (by simp [go_sem]) ?_
  refine (goes_back (HP8.out.row (by omega) _) HD.out ((setRow_other _ _ _ _ (by omega)).trans HV8.out) _).mono ?_
  rintro e u' wz ⟨rfl, rfl, hpz, hkz⟩
  refine leaves_st _ _ _ _ _ _ _ _ rfl (by omega) hz8 hkz ⟨c, by rw [HE.out], ?_, hpz, ((HK8.out.first.row (Nat.le_refl _) _).trans hkz)⟩
  have hsz := HSZ.out
  rw [World.size_alloc] at hsz
  exact (HX.out.mono (Same.row (G := G) (Keep.refl G w8) (by omega) (by omega) _) (New.le (by omega))).mono (Same.of hkz (by omega)) fun b hb => hb
set_option maxRecDepth 100000 in
set_option maxHeartbeats 8000000 in
theorem stmt_expr_bad {w : World} {G d : Nat} {ts : List Tok} {p er : Nat} (h : PAt N w G ts d) (hg : Good Rl ts) (hd : d < 40) (hs0 : Pa.sees ts [[123]] = false) (hs1 : Pa.sees ts types = false) (hs2 : Pa.sees ts [[105, 102]] = false) (hs3 : Pa.sees ts [[119, 104, 105, 108, 101]] = false) (hs4 : Pa.sees ts [[114, 101, 116, 117, 114, 110]] = false) (hs5 : Pa.sees ts [[98, 114, 101, 97, 107]] = false) (hs6 : Pa.sees ts [[99, 111, 110, 116, 105, 110, 117, 101]] = false) (cx : ∀ W, PAt N W G ts (d + 1) → Calls Tryz.prog 197 #[ptr G, .int .i64 7, .int .i64 ((Pa.hd ts).place : Int)] W (BadPost G (p : Int) (er : Int) W)) :
    Calls Tryz.prog 173 #[ptr G] w (BadPost G (p : Int) (er : Int) w) := by
  have hlt := h.base
  have hne : ts ≠ [] := by obtain ⟨t, l, rfl⟩ := hg.ne; simp
  have cd := deeper2 (o := .cells z7 TSt) h hne hd
  have HD := Lib.hid hd
  have HZ := Lib.hid (heap_alloc_new w (.cells z7 TSt))
  have c1 : ∀ W, PAt N W G ts (d + 1) → Calls Tryz.prog 64 #[ptr G] W (OkPost N G (d + 1) (tokV (Pa.hd ts)) ts W) := fun W hW => nextL hg hW
  have d0 : ∀ W, PAt N W G ts (d + 1) → Calls Tryz.prog 134 #[ptr G, sl1 W] (one W #[123]) (OkPost N G (d + 1) (.bool false) ts W) := fun W hW => by have := seesL [[123]] 1 rfl (by decide) hg hW; rw [hs0] at this; exact this
  have d1 : ∀ W, PAt N W G ts (d + 1) → Calls Tryz.prog 134 #[ptr G, sl3 W] (three W) (OkPost N G (d + 1) (.bool false) ts W) := fun W hW => by have := seesL types 3 rfl (by decide) hg hW; rw [hs1] at this; exact this
  have d2 : ∀ W, PAt N W G ts (d + 1) → Calls Tryz.prog 92 #[ptr G, sl1 W] (one W #[105, 102]) (OkPost N G (d + 1) (.bool false) ts W) := fun W hW => takesL [[105, 102]] 1 rfl (by decide) (by decide) hg hs2 hW
  have d3 : ∀ W, PAt N W G ts (d + 1) → Calls Tryz.prog 92 #[ptr G, sl1 W] (one W #[119, 104, 105, 108, 101]) (OkPost N G (d + 1) (.bool false) ts W) := fun W hW => takesL [[119, 104, 105, 108, 101]] 1 rfl (by decide) (by decide) hg hs3 hW
  have d4 : ∀ W, PAt N W G ts (d + 1) → Calls Tryz.prog 92 #[ptr G, sl1 W] (one W #[114, 101, 116, 117, 114, 110]) (OkPost N G (d + 1) (.bool false) ts W) := fun W hW => takesL [[114, 101, 116, 117, 114, 110]] 1 rfl (by decide) (by decide) hg hs4 hW
  have d5 : ∀ W, PAt N W G ts (d + 1) → Calls Tryz.prog 92 #[ptr G, sl1 W] (one W #[98, 114, 101, 97, 107]) (OkPost N G (d + 1) (.bool false) ts W) := fun W hW => takesL [[98, 114, 101, 97, 107]] 1 rfl (by decide) (by decide) hg hs5 hW
  have d6 : ∀ W, PAt N W G ts (d + 1) → Calls Tryz.prog 92 #[ptr G, sl1 W] (one W #[99, 111, 110, 116, 105, 110, 117, 101]) (OkPost N G (d + 1) (.bool false) ts W) := fun W hW => takesL [[99, 111, 110, 116, 105, 110, 117, 101]] 1 rfl (by decide) (by decide) hg hs6 hW
  clear h hd hne hs0 hs1 hs2 hs3 hs4 hs5 hs6
  go_enter_defers Tryz.func173, Tryz.ntmps173
  go_wp2_with (first
    | ((with_reducible refine cd.mono ?_); rintro e w1 ⟨rfl, hv, hp, hk⟩; have HV1 := Lib.hid hv; have HP1 := Lib.hid hp; have HK1 := Lib.hid hk; clear hp hk cd hv)
    | ((with_reducible refine (c1 _ HP1.out).mono ?_); rintro e w2 ⟨rfl, hp, hk⟩; have HP2 := Lib.hid hp; have HK2 := Lib.hid (HK1.out.trans hk); have HV2 := Lib.hid (hk.at (by omega) HV1.out); clear hp hk c1)
    | ((with_reducible refine (d0 _ HP2.out).mono ?_); rintro e w3 ⟨rfl, hp, hk⟩; have HP3 := Lib.hid hp; have HK3 := Lib.hid (HK2.out.trans hk); have HV3 := Lib.hid (hk.at (by omega) HV2.out); clear hp hk d0)
    | ((with_reducible refine (d1 _ HP3.out).mono ?_); rintro e w4 ⟨rfl, hp, hk⟩; have HP4 := Lib.hid hp; have HK4 := Lib.hid (HK3.out.trans hk); have HV4 := Lib.hid (hk.at (by omega) HV3.out); clear hp hk d1)
    | ((with_reducible refine (d2 _ HP4.out).mono ?_); rintro e w5 ⟨rfl, hp, hk⟩; have HP5 := Lib.hid hp; have HK5 := Lib.hid (HK4.out.trans hk); have HV5 := Lib.hid (hk.at (by omega) HV4.out); clear hp hk d2)
    | ((with_reducible refine (d3 _ HP5.out).mono ?_); rintro e w6 ⟨rfl, hp, hk⟩; have HP6 := Lib.hid hp; have HK6 := Lib.hid (HK5.out.trans hk); have HV6 := Lib.hid (hk.at (by omega) HV5.out); clear hp hk d3)
    | ((with_reducible refine (d4 _ HP6.out).mono ?_); rintro e w7 ⟨rfl, hp, hk⟩; have HP7 := Lib.hid hp; have HK7 := Lib.hid (HK6.out.trans hk); have HV7 := Lib.hid (hk.at (by omega) HV6.out); clear hp hk d4)
    | ((with_reducible refine (d5 _ HP7.out).mono ?_); rintro e w8 ⟨rfl, hp, hk⟩; have HP8 := Lib.hid hp; have HK8 := Lib.hid (HK7.out.trans hk); have HV8 := Lib.hid (hk.at (by omega) HV7.out); clear hp hk d5)
    | ((with_reducible refine (d6 _ HP8.out).mono ?_); rintro e w9 ⟨rfl, hp, hk⟩; have HP9 := Lib.hid hp; have HK9 := Lib.hid (HK8.out.trans hk); have HV9 := Lib.hid (hk.at (by omega) HV8.out); clear hp hk d6)
    | ((with_reducible refine (cx _ HP9.out).mono ?_); rintro e w10 ⟨rfl, hp, hk⟩; have HW := Lib.hid hp; have HK10 := Lib.hid (HK9.out.trans hk); have HV10 := Lib.hid (hk.at (by omega) HV9.out); clear hp hk))
  refine leaves_cons (f := 170) (args := #[.pointer (some ⟨w.heap.size + 1, 0, none⟩)]) (by simp) (by simp [go_sem]) ?_
  refine (falls_back HW.out HV10.out _).mono ?_
  rintro e u' wz ⟨rfl, rfl, hpz, hkz⟩
  exact ⟨rfl, hpz, (HK10.out.trans hkz).first⟩
set_option maxRecDepth 100000 in
set_option maxHeartbeats 8000000 in
theorem stmt_expr {w : World} {G d : Nat} {ts r2 : List Tok} {x : St} (h : PAt N w G ts d) (hg : Good Rl ts) (hd : d < 40) (hs0 : Pa.sees ts [[123]] = false) (hs1 : Pa.sees ts types = false) (hs2 : Pa.sees ts [[105, 102]] = false) (hs3 : Pa.sees ts [[119, 104, 105, 108, 101]] = false) (hs4 : Pa.sees ts [[114, 101, 116, 117, 114, 110]] = false) (hs5 : Pa.sees ts [[98, 114, 101, 97, 107]] = false) (hs6 : Pa.sees ts [[99, 111, 110, 116, 105, 110, 117, 101]] = false) (cx : ∀ W, PAt N W G ts (d + 1) → Calls Tryz.prog 197 #[ptr G, .int .i64 7, .int .i64 ((Pa.hd ts).place : Int)] W (StOk N G (d + 1) x r2 W)) :
    Calls Tryz.prog 173 #[ptr G] w (StOk N G d x r2 w) := by
  have hlt := h.base
  have hne : ts ≠ [] := by obtain ⟨t, l, rfl⟩ := hg.ne; simp
  have cd := deeper2 (o := .cells z7 TSt) h hne hd
  have HD := Lib.hid hd
  have HZ := Lib.hid (heap_alloc_new w (.cells z7 TSt))
  have c1 : ∀ W, PAt N W G ts (d + 1) → Calls Tryz.prog 64 #[ptr G] W (OkPost N G (d + 1) (tokV (Pa.hd ts)) ts W) := fun W hW => nextL hg hW
  have d0 : ∀ W, PAt N W G ts (d + 1) → Calls Tryz.prog 134 #[ptr G, sl1 W] (one W #[123]) (OkPost N G (d + 1) (.bool false) ts W) := fun W hW => by have := seesL [[123]] 1 rfl (by decide) hg hW; rw [hs0] at this; exact this
  have d1 : ∀ W, PAt N W G ts (d + 1) → Calls Tryz.prog 134 #[ptr G, sl3 W] (three W) (OkPost N G (d + 1) (.bool false) ts W) := fun W hW => by have := seesL types 3 rfl (by decide) hg hW; rw [hs1] at this; exact this
  have d2 : ∀ W, PAt N W G ts (d + 1) → Calls Tryz.prog 92 #[ptr G, sl1 W] (one W #[105, 102]) (OkPost N G (d + 1) (.bool false) ts W) := fun W hW => takesL [[105, 102]] 1 rfl (by decide) (by decide) hg hs2 hW
  have d3 : ∀ W, PAt N W G ts (d + 1) → Calls Tryz.prog 92 #[ptr G, sl1 W] (one W #[119, 104, 105, 108, 101]) (OkPost N G (d + 1) (.bool false) ts W) := fun W hW => takesL [[119, 104, 105, 108, 101]] 1 rfl (by decide) (by decide) hg hs3 hW
  have d4 : ∀ W, PAt N W G ts (d + 1) → Calls Tryz.prog 92 #[ptr G, sl1 W] (one W #[114, 101, 116, 117, 114, 110]) (OkPost N G (d + 1) (.bool false) ts W) := fun W hW => takesL [[114, 101, 116, 117, 114, 110]] 1 rfl (by decide) (by decide) hg hs4 hW
  have d5 : ∀ W, PAt N W G ts (d + 1) → Calls Tryz.prog 92 #[ptr G, sl1 W] (one W #[98, 114, 101, 97, 107]) (OkPost N G (d + 1) (.bool false) ts W) := fun W hW => takesL [[98, 114, 101, 97, 107]] 1 rfl (by decide) (by decide) hg hs5 hW
  have d6 : ∀ W, PAt N W G ts (d + 1) → Calls Tryz.prog 92 #[ptr G, sl1 W] (one W #[99, 111, 110, 116, 105, 110, 117, 101]) (OkPost N G (d + 1) (.bool false) ts W) := fun W hW => takesL [[99, 111, 110, 116, 105, 110, 117, 101]] 1 rfl (by decide) (by decide) hg hs6 hW
  clear h hd hne hs0 hs1 hs2 hs3 hs4 hs5 hs6
  go_enter_defers Tryz.func173, Tryz.ntmps173
  go_wp2_with (first
    | ((with_reducible refine cd.mono ?_); rintro e w1 ⟨rfl, hv, hp, hk⟩; have HV1 := Lib.hid hv; have HP1 := Lib.hid hp; have HK1 := Lib.hid hk; clear hp hk cd hv)
    | ((with_reducible refine (c1 _ HP1.out).mono ?_); rintro e w2 ⟨rfl, hp, hk⟩; have HP2 := Lib.hid hp; have HK2 := Lib.hid (HK1.out.trans hk); have HV2 := Lib.hid (hk.at (by omega) HV1.out); clear hp hk c1)
    | ((with_reducible refine (d0 _ HP2.out).mono ?_); rintro e w3 ⟨rfl, hp, hk⟩; have HP3 := Lib.hid hp; have HK3 := Lib.hid (HK2.out.trans hk); have HV3 := Lib.hid (hk.at (by omega) HV2.out); clear hp hk d0)
    | ((with_reducible refine (d1 _ HP3.out).mono ?_); rintro e w4 ⟨rfl, hp, hk⟩; have HP4 := Lib.hid hp; have HK4 := Lib.hid (HK3.out.trans hk); have HV4 := Lib.hid (hk.at (by omega) HV3.out); clear hp hk d1)
    | ((with_reducible refine (d2 _ HP4.out).mono ?_); rintro e w5 ⟨rfl, hp, hk⟩; have HP5 := Lib.hid hp; have HK5 := Lib.hid (HK4.out.trans hk); have HV5 := Lib.hid (hk.at (by omega) HV4.out); clear hp hk d2)
    | ((with_reducible refine (d3 _ HP5.out).mono ?_); rintro e w6 ⟨rfl, hp, hk⟩; have HP6 := Lib.hid hp; have HK6 := Lib.hid (HK5.out.trans hk); have HV6 := Lib.hid (hk.at (by omega) HV5.out); clear hp hk d3)
    | ((with_reducible refine (d4 _ HP6.out).mono ?_); rintro e w7 ⟨rfl, hp, hk⟩; have HP7 := Lib.hid hp; have HK7 := Lib.hid (HK6.out.trans hk); have HV7 := Lib.hid (hk.at (by omega) HV6.out); clear hp hk d4)
    | ((with_reducible refine (d5 _ HP7.out).mono ?_); rintro e w8 ⟨rfl, hp, hk⟩; have HP8 := Lib.hid hp; have HK8 := Lib.hid (HK7.out.trans hk); have HV8 := Lib.hid (hk.at (by omega) HV7.out); clear hp hk d5)
    | ((with_reducible refine (d6 _ HP8.out).mono ?_); rintro e w9 ⟨rfl, hp, hk⟩; have HP9 := Lib.hid hp; have HK9 := Lib.hid (HK8.out.trans hk); have HV9 := Lib.hid (hk.at (by omega) HV8.out); clear hp hk d6)
    | ((with_reducible refine (cx _ HP9.out).mono ?_); rintro e w10 ⟨c, rfl, hst, hp, hk⟩; obtain ⟨k3, nm3, t3, p3, p4, a3, l3, c3, a4, l4, q4, e3, z3⟩ := hst.seven; rw [e3]; have HP10 := Lib.hid hp; have HK10 := Lib.hid (HK9.out.trans hk); have HV10 := Lib.hid (hk.at (by omega) HV9.out); have hz10 := rowK HZ.out hlt HK10.out; have HX := Lib.hid hst; have HE := Lib.hid e3; have HSZ := Lib.hid HK9.out.size; clear hp hk hst e3 z3)
    | ((with_reducible refine store7 rfl (.tmp 2) (.tmp 74) rfl w.heap.size k3 t3 p3 p4 ⟨nm3.toArray⟩ a3 a4 l3 c3 l4 q4 ?xa ?xb z7 rfl hz10 ?_); (case xa => simp [go_sem]); (case xb => simp [go_sem])))
  refine leaves_cons (f := 170) (args := #[.pointer (some ⟨w.heap.size + 1, 0, none⟩)]) (by simp) (by simp [go_sem]) ?_
  refine (goes_back (HP10.out.row (by omega) _) HD.out ((setRow_other _ _ _ _ (by omega)).trans HV10.out) _).mono ?_
  rintro e u' wz ⟨rfl, rfl, hpz, hkz⟩
  refine leaves_st _ _ _ _ _ _ _ _ rfl (by omega) hz10 hkz ⟨c, by rw [HE.out], ?_, hpz, ((HK10.out.first.row (Nat.le_refl _) _).trans hkz)⟩
  have hsz := HSZ.out
  rw [World.size_alloc] at hsz
  exact (HX.out.mono (Same.row (G := G) (Keep.refl G w10) (by omega) (by omega) _) (New.le (by omega))).mono (Same.of hkz (by omega)) fun b hb => hb
set_option maxRecDepth 100000 in
set_option maxHeartbeats 8000000 in
theorem stmt_while_bad {w : World} {G d : Nat} {ts : List Tok} {p er : Nat} (h : PAt N w G ts d) (hg : Good Rl ts) (hd : d < 40) (hs0 : Pa.sees ts [[123]] = false) (hs1 : Pa.sees ts types = false) (hs2 : Pa.sees ts [[105, 102]] = false) (hs3 : Pa.sees ts [[119, 104, 105, 108, 101]] = true) (cx : ∀ W, PAt N W G ts.tail (d + 1) → Calls Tryz.prog 196 #[ptr G, .int .i64 3, .int .i64 ((Pa.hd ts).place : Int)] W (BadPost G (p : Int) (er : Int) W)) :
    Calls Tryz.prog 173 #[ptr G] w (BadPost G (p : Int) (er : Int) w) := by
  have hlt := h.base
  have hne : ts ≠ [] := by obtain ⟨t, l, rfl⟩ := hg.ne; simp
  have cd := deeper2 (o := .cells z7 TSt) h hne hd
  have HD := Lib.hid hd
  have HZ := Lib.hid (heap_alloc_new w (.cells z7 TSt))
  have c1 : ∀ W, PAt N W G ts (d + 1) → Calls Tryz.prog 64 #[ptr G] W (OkPost N G (d + 1) (tokV (Pa.hd ts)) ts W) := fun W hW => nextL hg hW
  have d0 : ∀ W, PAt N W G ts (d + 1) → Calls Tryz.prog 134 #[ptr G, sl1 W] (one W #[123]) (OkPost N G (d + 1) (.bool false) ts W) := fun W hW => by have := seesL [[123]] 1 rfl (by decide) hg hW; rw [hs0] at this; exact this
  have d1 : ∀ W, PAt N W G ts (d + 1) → Calls Tryz.prog 134 #[ptr G, sl3 W] (three W) (OkPost N G (d + 1) (.bool false) ts W) := fun W hW => by have := seesL types 3 rfl (by decide) hg hW; rw [hs1] at this; exact this
  have d2 : ∀ W, PAt N W G ts (d + 1) → Calls Tryz.prog 92 #[ptr G, sl1 W] (one W #[105, 102]) (OkPost N G (d + 1) (.bool false) ts W) := fun W hW => takesL [[105, 102]] 1 rfl (by decide) (by decide) hg hs2 hW
  have d3 : ∀ W, PAt N W G ts (d + 1) → Calls Tryz.prog 92 #[ptr G, sl1 W] (one W #[119, 104, 105, 108, 101]) (OkPost N G (d + 1) (.bool true) ts.tail W) := fun W hW => takesL [[119, 104, 105, 108, 101]] 1 rfl (by decide) (by decide) hg hs3 hW
  clear h hd hne hs0 hs1 hs2 hs3
  go_enter_defers Tryz.func173, Tryz.ntmps173
  go_wp2_with (first
    | ((with_reducible refine cd.mono ?_); rintro e w1 ⟨rfl, hv, hp, hk⟩; have HV1 := Lib.hid hv; have HP1 := Lib.hid hp; have HK1 := Lib.hid hk; clear hp hk cd hv)
    | ((with_reducible refine (c1 _ HP1.out).mono ?_); rintro e w2 ⟨rfl, hp, hk⟩; have HP2 := Lib.hid hp; have HK2 := Lib.hid (HK1.out.trans hk); have HV2 := Lib.hid (hk.at (by omega) HV1.out); clear hp hk c1)
    | ((with_reducible refine (d0 _ HP2.out).mono ?_); rintro e w3 ⟨rfl, hp, hk⟩; have HP3 := Lib.hid hp; have HK3 := Lib.hid (HK2.out.trans hk); have HV3 := Lib.hid (hk.at (by omega) HV2.out); clear hp hk d0)
    | ((with_reducible refine (d1 _ HP3.out).mono ?_); rintro e w4 ⟨rfl, hp, hk⟩; have HP4 := Lib.hid hp; have HK4 := Lib.hid (HK3.out.trans hk); have HV4 := Lib.hid (hk.at (by omega) HV3.out); clear hp hk d1)
    | ((with_reducible refine (d2 _ HP4.out).mono ?_); rintro e w5 ⟨rfl, hp, hk⟩; have HP5 := Lib.hid hp; have HK5 := Lib.hid (HK4.out.trans hk); have HV5 := Lib.hid (hk.at (by omega) HV4.out); clear hp hk d2)
    | ((with_reducible refine (d3 _ HP5.out).mono ?_); rintro e w6 ⟨rfl, hp, hk⟩; have HP6 := Lib.hid hp; have HK6 := Lib.hid (HK5.out.trans hk); have HV6 := Lib.hid (hk.at (by omega) HV5.out); clear hp hk d3)
    | ((with_reducible refine (cx _ HP6.out).mono ?_); rintro e w7 ⟨rfl, hp, hk⟩; have HW := Lib.hid hp; have HK7 := Lib.hid (HK6.out.trans hk); have HV7 := Lib.hid (hk.at (by omega) HV6.out); clear hp hk))
  refine leaves_cons (f := 170) (args := #[.pointer (some ⟨w.heap.size + 1, 0, none⟩)]) (by simp) (by simp [go_sem]) ?_
  refine (falls_back HW.out HV7.out _).mono ?_
  rintro e u' wz ⟨rfl, rfl, hpz, hkz⟩
  exact ⟨rfl, hpz, (HK7.out.trans hkz).first⟩
set_option maxRecDepth 100000 in
set_option maxHeartbeats 8000000 in
theorem stmt_while {w : World} {G d : Nat} {ts r2 : List Tok} {x : Ex} {s : St} (h : PAt N w G ts d) (hg : Good Rl ts) (hd : d < 40) (hs0 : Pa.sees ts [[123]] = false) (hs1 : Pa.sees ts types = false) (hs2 : Pa.sees ts [[105, 102]] = false) (hs3 : Pa.sees ts [[119, 104, 105, 108, 101]] = true) (cx : ∀ W, PAt N W G ts.tail (d + 1) → Calls Tryz.prog 196 #[ptr G, .int .i64 3, .int .i64 ((Pa.hd ts).place : Int)] W (GuOk N G (d + 1) 3 (Pa.hd ts).place (x, s) r2 W)) :
    Calls Tryz.prog 173 #[ptr G] w (StOk N G d (.mk 3 [x] [s] [] 0 0 (Pa.hd ts).place) r2 w) := by
  have hlt := h.base
  have hne : ts ≠ [] := by obtain ⟨t, l, rfl⟩ := hg.ne; simp
  have cd := deeper2 (o := .cells z7 TSt) h hne hd
  have HD := Lib.hid hd
  have HZ := Lib.hid (heap_alloc_new w (.cells z7 TSt))
  have c1 : ∀ W, PAt N W G ts (d + 1) → Calls Tryz.prog 64 #[ptr G] W (OkPost N G (d + 1) (tokV (Pa.hd ts)) ts W) := fun W hW => nextL hg hW
  have d0 : ∀ W, PAt N W G ts (d + 1) → Calls Tryz.prog 134 #[ptr G, sl1 W] (one W #[123]) (OkPost N G (d + 1) (.bool false) ts W) := fun W hW => by have := seesL [[123]] 1 rfl (by decide) hg hW; rw [hs0] at this; exact this
  have d1 : ∀ W, PAt N W G ts (d + 1) → Calls Tryz.prog 134 #[ptr G, sl3 W] (three W) (OkPost N G (d + 1) (.bool false) ts W) := fun W hW => by have := seesL types 3 rfl (by decide) hg hW; rw [hs1] at this; exact this
  have d2 : ∀ W, PAt N W G ts (d + 1) → Calls Tryz.prog 92 #[ptr G, sl1 W] (one W #[105, 102]) (OkPost N G (d + 1) (.bool false) ts W) := fun W hW => takesL [[105, 102]] 1 rfl (by decide) (by decide) hg hs2 hW
  have d3 : ∀ W, PAt N W G ts (d + 1) → Calls Tryz.prog 92 #[ptr G, sl1 W] (one W #[119, 104, 105, 108, 101]) (OkPost N G (d + 1) (.bool true) ts.tail W) := fun W hW => takesL [[119, 104, 105, 108, 101]] 1 rfl (by decide) (by decide) hg hs3 hW
  clear h hd hne hs0 hs1 hs2 hs3
  go_enter_defers Tryz.func173, Tryz.ntmps173
  go_wp2_with (first
    | ((with_reducible refine cd.mono ?_); rintro e w1 ⟨rfl, hv, hp, hk⟩; have HV1 := Lib.hid hv; have HP1 := Lib.hid hp; have HK1 := Lib.hid hk; clear hp hk cd hv)
    | ((with_reducible refine (c1 _ HP1.out).mono ?_); rintro e w2 ⟨rfl, hp, hk⟩; have HP2 := Lib.hid hp; have HK2 := Lib.hid (HK1.out.trans hk); have HV2 := Lib.hid (hk.at (by omega) HV1.out); clear hp hk c1)
    | ((with_reducible refine (d0 _ HP2.out).mono ?_); rintro e w3 ⟨rfl, hp, hk⟩; have HP3 := Lib.hid hp; have HK3 := Lib.hid (HK2.out.trans hk); have HV3 := Lib.hid (hk.at (by omega) HV2.out); clear hp hk d0)
    | ((with_reducible refine (d1 _ HP3.out).mono ?_); rintro e w4 ⟨rfl, hp, hk⟩; have HP4 := Lib.hid hp; have HK4 := Lib.hid (HK3.out.trans hk); have HV4 := Lib.hid (hk.at (by omega) HV3.out); clear hp hk d1)
    | ((with_reducible refine (d2 _ HP4.out).mono ?_); rintro e w5 ⟨rfl, hp, hk⟩; have HP5 := Lib.hid hp; have HK5 := Lib.hid (HK4.out.trans hk); have HV5 := Lib.hid (hk.at (by omega) HV4.out); clear hp hk d2)
    | ((with_reducible refine (d3 _ HP5.out).mono ?_); rintro e w6 ⟨rfl, hp, hk⟩; have HP6 := Lib.hid hp; have HK6 := Lib.hid (HK5.out.trans hk); have HV6 := Lib.hid (hk.at (by omega) HV5.out); clear hp hk d3)
    | ((with_reducible refine (cx _ HP6.out).mono ?_); rintro e w7 ⟨ev, q, rows, rfl, hks, hgr, hp, hk⟩; obtain ⟨a3, l3, c3, rfl⟩ := hks.slice; have HP7 := Lib.hid hp; have HK7 := Lib.hid (HK6.out.trans hk); have HV7 := Lib.hid (hk.at (by omega) HV6.out); have hz7 := rowK HZ.out hlt HK7.out; have HX := Lib.hid hks; have HGW := Lib.hid hgr; have HSZ := Lib.hid HK6.out.size; clear hp hk hks hgr)
    | ((with_reducible refine store7 rfl (.tmp 2) (.tmp 46) rfl w.heap.size 3 0 0 (Pa.hd ts).place ⟨#[]⟩ a3 q l3 c3 1 1 ?xa ?xb z7 rfl hz7 ?_); (case xa => simp [go_sem]); (case xb => simp [go_sem])))
  refine leaves_cons (f := 170) (args := #[.pointer (some ⟨w.heap.size + 1, 0, none⟩)]) (by simp) (by simp [go_sem]) ?_
  refine (goes_back (HP7.out.row (by omega) _) HD.out ((setRow_other _ _ _ _ (by omega)).trans HV7.out) _).mono ?_
  rintro e u' wz ⟨rfl, rfl, hpz, hkz⟩
  refine leaves_st _ _ _ _ _ _ _ _ rfl (by omega) hz7 hkz ⟨_, rfl, .mk 3 [x] [s] [] 0 0 (Pa.hd ts).place _ _ ?_ ?_, hpz, ((HK7.out.first.row (Nat.le_refl _) _).trans hkz)⟩
  · have hsz := HSZ.out
    rw [World.size_alloc] at hsz
    exact (HX.out.mono (Same.row (G := G) (Keep.refl G w7) (by omega) (by omega) _) (New.le (by omega))).mono (Same.of hkz (by omega)) fun b hb => hb
  · have hsz := HSZ.out
    rw [World.size_alloc] at hsz
    exact ((SlAt.ss (HGW.out.done stays_st)).mono (Same.row (G := G) (Keep.refl G w7) (by omega) (by omega) _) (New.le (by omega))).mono (Same.of hkz (by omega)) fun b hb => hb
set_option maxRecDepth 100000 in
set_option maxHeartbeats 8000000 in
theorem stmt_break_bad {w : World} {G d : Nat} {ts : List Tok} {p er : Nat} (h : PAt N w G ts d) (hg : Good Rl ts) (hd : d < 40) (hs0 : Pa.sees ts [[123]] = false) (hs1 : Pa.sees ts types = false) (hs2 : Pa.sees ts [[105, 102]] = false) (hs3 : Pa.sees ts [[119, 104, 105, 108, 101]] = false) (hs4 : Pa.sees ts [[114, 101, 116, 117, 114, 110]] = false) (hs5 : Pa.sees ts [[98, 114, 101, 97, 107]] = true) (hw : Pa.want ts.tail [[59]] = .bad p er) :
    Calls Tryz.prog 173 #[ptr G] w (BadPost G (p : Int) (er : Int) w) := by
  have hlt := h.base
  have hne : ts ≠ [] := by obtain ⟨t, l, rfl⟩ := hg.ne; simp
  have cd := deeper2 (o := .cells z7 TSt) h hne hd
  have HD := Lib.hid hd
  have HZ := Lib.hid (heap_alloc_new w (.cells z7 TSt))
  have c1 : ∀ W, PAt N W G ts (d + 1) → Calls Tryz.prog 64 #[ptr G] W (OkPost N G (d + 1) (tokV (Pa.hd ts)) ts W) := fun W hW => nextL hg hW
  have d0 : ∀ W, PAt N W G ts (d + 1) → Calls Tryz.prog 134 #[ptr G, sl1 W] (one W #[123]) (OkPost N G (d + 1) (.bool false) ts W) := fun W hW => by have := seesL [[123]] 1 rfl (by decide) hg hW; rw [hs0] at this; exact this
  have d1 : ∀ W, PAt N W G ts (d + 1) → Calls Tryz.prog 134 #[ptr G, sl3 W] (three W) (OkPost N G (d + 1) (.bool false) ts W) := fun W hW => by have := seesL types 3 rfl (by decide) hg hW; rw [hs1] at this; exact this
  have d2 : ∀ W, PAt N W G ts (d + 1) → Calls Tryz.prog 92 #[ptr G, sl1 W] (one W #[105, 102]) (OkPost N G (d + 1) (.bool false) ts W) := fun W hW => takesL [[105, 102]] 1 rfl (by decide) (by decide) hg hs2 hW
  have d3 : ∀ W, PAt N W G ts (d + 1) → Calls Tryz.prog 92 #[ptr G, sl1 W] (one W #[119, 104, 105, 108, 101]) (OkPost N G (d + 1) (.bool false) ts W) := fun W hW => takesL [[119, 104, 105, 108, 101]] 1 rfl (by decide) (by decide) hg hs3 hW
  have d4 : ∀ W, PAt N W G ts (d + 1) → Calls Tryz.prog 92 #[ptr G, sl1 W] (one W #[114, 101, 116, 117, 114, 110]) (OkPost N G (d + 1) (.bool false) ts W) := fun W hW => takesL [[114, 101, 116, 117, 114, 110]] 1 rfl (by decide) (by decide) hg hs4 hW
  have d5 : ∀ W, PAt N W G ts (d + 1) → Calls Tryz.prog 92 #[ptr G, sl1 W] (one W #[98, 114, 101, 97, 107]) (OkPost N G (d + 1) (.bool true) ts.tail W) := fun W hW => takesL [[98, 114, 101, 97, 107]] 1 rfl (by decide) (by decide) hg hs5 hW
  have cw : ∀ W, PAt N W G ts.tail (d + 1) → Calls Tryz.prog 95 #[ptr G, sl1 W] (one W #[59]) (BadPost G (p : Int) (er : Int) W) := fun W hW => by have := wantL [[59]] 1 rfl (by decide) (by decide) (show Good Rl ts.tail from good_behind hg (by decide) hs5) hW; rw [hw] at this; exact this
  clear h hd hne hs0 hs1 hs2 hs3 hs4 hs5 hw
  go_enter_defers Tryz.func173, Tryz.ntmps173
  go_wp2_with (first
    | ((with_reducible refine cd.mono ?_); rintro e w1 ⟨rfl, hv, hp, hk⟩; have HV1 := Lib.hid hv; have HP1 := Lib.hid hp; have HK1 := Lib.hid hk; clear hp hk cd hv)
    | ((with_reducible refine (c1 _ HP1.out).mono ?_); rintro e w2 ⟨rfl, hp, hk⟩; have HP2 := Lib.hid hp; have HK2 := Lib.hid (HK1.out.trans hk); have HV2 := Lib.hid (hk.at (by omega) HV1.out); clear hp hk c1)
    | ((with_reducible refine (d0 _ HP2.out).mono ?_); rintro e w3 ⟨rfl, hp, hk⟩; have HP3 := Lib.hid hp; have HK3 := Lib.hid (HK2.out.trans hk); have HV3 := Lib.hid (hk.at (by omega) HV2.out); clear hp hk d0)
    | ((with_reducible refine (d1 _ HP3.out).mono ?_); rintro e w4 ⟨rfl, hp, hk⟩; have HP4 := Lib.hid hp; have HK4 := Lib.hid (HK3.out.trans hk); have HV4 := Lib.hid (hk.at (by omega) HV3.out); clear hp hk d1)
    | ((with_reducible refine (d2 _ HP4.out).mono ?_); rintro e w5 ⟨rfl, hp, hk⟩; have HP5 := Lib.hid hp; have HK5 := Lib.hid (HK4.out.trans hk); have HV5 := Lib.hid (hk.at (by omega) HV4.out); clear hp hk d2)
    | ((with_reducible refine (d3 _ HP5.out).mono ?_); rintro e w6 ⟨rfl, hp, hk⟩; have HP6 := Lib.hid hp; have HK6 := Lib.hid (HK5.out.trans hk); have HV6 := Lib.hid (hk.at (by omega) HV5.out); clear hp hk d3)
    | ((with_reducible refine (d4 _ HP6.out).mono ?_); rintro e w7 ⟨rfl, hp, hk⟩; have HP7 := Lib.hid hp; have HK7 := Lib.hid (HK6.out.trans hk); have HV7 := Lib.hid (hk.at (by omega) HV6.out); clear hp hk d4)
    | ((with_reducible refine (d5 _ HP7.out).mono ?_); rintro e w8 ⟨rfl, hp, hk⟩; have HP8 := Lib.hid hp; have HK8 := Lib.hid (HK7.out.trans hk); have HV8 := Lib.hid (hk.at (by omega) HV7.out); clear hp hk d5)
    | ((with_reducible refine (cw _ HP8.out).mono ?_); rintro e w9 ⟨rfl, hp, hk⟩; have HW := Lib.hid hp; have HK9 := Lib.hid (HK8.out.trans hk); have HV9 := Lib.hid (hk.at (by omega) HV8.out); clear hp hk))
  refine leaves_cons (f := 170) (args := #[.pointer (some ⟨w.heap.size + 1, 0, none⟩)]) (by simp) (by simp [go_sem]) ?_
  refine (falls_back HW.out HV9.out _).mono ?_
  rintro e u' wz ⟨rfl, rfl, hpz, hkz⟩
  exact ⟨rfl, hpz, (HK9.out.trans hkz).first⟩
set_option maxRecDepth 100000 in
set_option maxHeartbeats 8000000 in
theorem stmt_break {w : World} {G d : Nat} {ts r2 : List Tok} {s : Bs} (h : PAt N w G ts d) (hg : Good Rl ts) (hd : d < 40) (hs0 : Pa.sees ts [[123]] = false) (hs1 : Pa.sees ts types = false) (hs2 : Pa.sees ts [[105, 102]] = false) (hs3 : Pa.sees ts [[119, 104, 105, 108, 101]] = false) (hs4 : Pa.sees ts [[114, 101, 116, 117, 114, 110]] = false) (hs5 : Pa.sees ts [[98, 114, 101, 97, 107]] = true) (hw : Pa.want ts.tail [[59]] = .ok s r2) :
    Calls Tryz.prog 173 #[ptr G] w (StOk N G d (.mk 5 [] [] [] 0 0 (Pa.hd ts).place) r2 w) := by
  have hlt := h.base
  have hne : ts ≠ [] := by obtain ⟨t, l, rfl⟩ := hg.ne; simp
  have cd := deeper2 (o := .cells z7 TSt) h hne hd
  have HD := Lib.hid hd
  have HZ := Lib.hid (heap_alloc_new w (.cells z7 TSt))
  have c1 : ∀ W, PAt N W G ts (d + 1) → Calls Tryz.prog 64 #[ptr G] W (OkPost N G (d + 1) (tokV (Pa.hd ts)) ts W) := fun W hW => nextL hg hW
  have d0 : ∀ W, PAt N W G ts (d + 1) → Calls Tryz.prog 134 #[ptr G, sl1 W] (one W #[123]) (OkPost N G (d + 1) (.bool false) ts W) := fun W hW => by have := seesL [[123]] 1 rfl (by decide) hg hW; rw [hs0] at this; exact this
  have d1 : ∀ W, PAt N W G ts (d + 1) → Calls Tryz.prog 134 #[ptr G, sl3 W] (three W) (OkPost N G (d + 1) (.bool false) ts W) := fun W hW => by have := seesL types 3 rfl (by decide) hg hW; rw [hs1] at this; exact this
  have d2 : ∀ W, PAt N W G ts (d + 1) → Calls Tryz.prog 92 #[ptr G, sl1 W] (one W #[105, 102]) (OkPost N G (d + 1) (.bool false) ts W) := fun W hW => takesL [[105, 102]] 1 rfl (by decide) (by decide) hg hs2 hW
  have d3 : ∀ W, PAt N W G ts (d + 1) → Calls Tryz.prog 92 #[ptr G, sl1 W] (one W #[119, 104, 105, 108, 101]) (OkPost N G (d + 1) (.bool false) ts W) := fun W hW => takesL [[119, 104, 105, 108, 101]] 1 rfl (by decide) (by decide) hg hs3 hW
  have d4 : ∀ W, PAt N W G ts (d + 1) → Calls Tryz.prog 92 #[ptr G, sl1 W] (one W #[114, 101, 116, 117, 114, 110]) (OkPost N G (d + 1) (.bool false) ts W) := fun W hW => takesL [[114, 101, 116, 117, 114, 110]] 1 rfl (by decide) (by decide) hg hs4 hW
  have d5 : ∀ W, PAt N W G ts (d + 1) → Calls Tryz.prog 92 #[ptr G, sl1 W] (one W #[98, 114, 101, 97, 107]) (OkPost N G (d + 1) (.bool true) ts.tail W) := fun W hW => takesL [[98, 114, 101, 97, 107]] 1 rfl (by decide) (by decide) hg hs5 hW
  have cw : ∀ W, PAt N W G ts.tail (d + 1) → Calls Tryz.prog 95 #[ptr G, sl1 W] (one W #[59]) (OkPost N G (d + 1) (.string ⟨s.toArray⟩) r2 W) := fun W hW => by have := wantL [[59]] 1 rfl (by decide) (by decide) (show Good Rl ts.tail from good_behind hg (by decide) hs5) hW; rw [hw] at this; exact this
  clear h hd hne hs0 hs1 hs2 hs3 hs4 hs5 hw
  go_enter_defers Tryz.func173, Tryz.ntmps173
  go_wp2_with (first
    | ((with_reducible refine cd.mono ?_); rintro e w1 ⟨rfl, hv, hp, hk⟩; have HV1 := Lib.hid hv; have HP1 := Lib.hid hp; have HK1 := Lib.hid hk; clear hp hk cd hv)
    | ((with_reducible refine (c1 _ HP1.out).mono ?_); rintro e w2 ⟨rfl, hp, hk⟩; have HP2 := Lib.hid hp; have HK2 := Lib.hid (HK1.out.trans hk); have HV2 := Lib.hid (hk.at (by omega) HV1.out); clear hp hk c1)
    | ((with_reducible refine (d0 _ HP2.out).mono ?_); rintro e w3 ⟨rfl, hp, hk⟩; have HP3 := Lib.hid hp; have HK3 := Lib.hid (HK2.out.trans hk); have HV3 := Lib.hid (hk.at (by omega) HV2.out); clear hp hk d0)
    | ((with_reducible refine (d1 _ HP3.out).mono ?_); rintro e w4 ⟨rfl, hp, hk⟩; have HP4 := Lib.hid hp; have HK4 := Lib.hid (HK3.out.trans hk); have HV4 := Lib.hid (hk.at (by omega) HV3.out); clear hp hk d1)
    | ((with_reducible refine (d2 _ HP4.out).mono ?_); rintro e w5 ⟨rfl, hp, hk⟩; have HP5 := Lib.hid hp; have HK5 := Lib.hid (HK4.out.trans hk); have HV5 := Lib.hid (hk.at (by omega) HV4.out); clear hp hk d2)
    | ((with_reducible refine (d3 _ HP5.out).mono ?_); rintro e w6 ⟨rfl, hp, hk⟩; have HP6 := Lib.hid hp; have HK6 := Lib.hid (HK5.out.trans hk); have HV6 := Lib.hid (hk.at (by omega) HV5.out); clear hp hk d3)
    | ((with_reducible refine (d4 _ HP6.out).mono ?_); rintro e w7 ⟨rfl, hp, hk⟩; have HP7 := Lib.hid hp; have HK7 := Lib.hid (HK6.out.trans hk); have HV7 := Lib.hid (hk.at (by omega) HV6.out); clear hp hk d4)
    | ((with_reducible refine (d5 _ HP7.out).mono ?_); rintro e w8 ⟨rfl, hp, hk⟩; have HP8 := Lib.hid hp; have HK8 := Lib.hid (HK7.out.trans hk); have HV8 := Lib.hid (hk.at (by omega) HV7.out); clear hp hk d5)
    | ((with_reducible refine (cw _ HP8.out).mono ?_); rintro e w9 ⟨rfl, hp, hk⟩; have HP9 := Lib.hid hp; have HK9 := Lib.hid (HK8.out.trans hk); have HV9 := Lib.hid (hk.at (by omega) HV8.out); have hz9 := rowK HZ.out hlt HK9.out; clear hp hk cw)
    | ((with_reducible refine store7 rfl (.tmp 2) (.tmp 62) rfl w.heap.size 5 0 0 (Pa.hd ts).place ⟨#[]⟩ none none 0 0 0 0 ?xa ?xb z7 rfl hz9 ?_); (case xa => simp [go_sem]); (case xb => simp [go_sem])))
  refine leaves_cons (f := 170) (args := #[.pointer (some ⟨w.heap.size + 1, 0, none⟩)]) (by simp) (by simp [go_sem]) ?_
  refine (goes_back (HP9.out.row (by omega) _) HD.out ((setRow_other _ _ _ _ (by omega)).trans HV9.out) _).mono ?_
  rintro e u' wz ⟨rfl, rfl, hpz, hkz⟩
  exact leaves_st _ _ _ _ _ _ _ _ rfl (by omega) hz9 hkz ⟨_, rfl, .mk 5 [] [] [] 0 0 (Pa.hd ts).place _ _ .nil .nil, hpz, ((HK9.out.first.row (Nat.le_refl _) _).trans hkz)⟩
set_option maxRecDepth 100000 in
set_option maxHeartbeats 8000000 in
theorem stmt_continue_bad {w : World} {G d : Nat} {ts : List Tok} {p er : Nat} (h : PAt N w G ts d) (hg : Good Rl ts) (hd : d < 40) (hs0 : Pa.sees ts [[123]] = false) (hs1 : Pa.sees ts types = false) (hs2 : Pa.sees ts [[105, 102]] = false) (hs3 : Pa.sees ts [[119, 104, 105, 108, 101]] = false) (hs4 : Pa.sees ts [[114, 101, 116, 117, 114, 110]] = false) (hs5 : Pa.sees ts [[98, 114, 101, 97, 107]] = false) (hs6 : Pa.sees ts [[99, 111, 110, 116, 105, 110, 117, 101]] = true) (hw : Pa.want ts.tail [[59]] = .bad p er) :
    Calls Tryz.prog 173 #[ptr G] w (BadPost G (p : Int) (er : Int) w) := by
  have hlt := h.base
  have hne : ts ≠ [] := by obtain ⟨t, l, rfl⟩ := hg.ne; simp
  have cd := deeper2 (o := .cells z7 TSt) h hne hd
  have HD := Lib.hid hd
  have HZ := Lib.hid (heap_alloc_new w (.cells z7 TSt))
  have c1 : ∀ W, PAt N W G ts (d + 1) → Calls Tryz.prog 64 #[ptr G] W (OkPost N G (d + 1) (tokV (Pa.hd ts)) ts W) := fun W hW => nextL hg hW
  have d0 : ∀ W, PAt N W G ts (d + 1) → Calls Tryz.prog 134 #[ptr G, sl1 W] (one W #[123]) (OkPost N G (d + 1) (.bool false) ts W) := fun W hW => by have := seesL [[123]] 1 rfl (by decide) hg hW; rw [hs0] at this; exact this
  have d1 : ∀ W, PAt N W G ts (d + 1) → Calls Tryz.prog 134 #[ptr G, sl3 W] (three W) (OkPost N G (d + 1) (.bool false) ts W) := fun W hW => by have := seesL types 3 rfl (by decide) hg hW; rw [hs1] at this; exact this
  have d2 : ∀ W, PAt N W G ts (d + 1) → Calls Tryz.prog 92 #[ptr G, sl1 W] (one W #[105, 102]) (OkPost N G (d + 1) (.bool false) ts W) := fun W hW => takesL [[105, 102]] 1 rfl (by decide) (by decide) hg hs2 hW
  have d3 : ∀ W, PAt N W G ts (d + 1) → Calls Tryz.prog 92 #[ptr G, sl1 W] (one W #[119, 104, 105, 108, 101]) (OkPost N G (d + 1) (.bool false) ts W) := fun W hW => takesL [[119, 104, 105, 108, 101]] 1 rfl (by decide) (by decide) hg hs3 hW
  have d4 : ∀ W, PAt N W G ts (d + 1) → Calls Tryz.prog 92 #[ptr G, sl1 W] (one W #[114, 101, 116, 117, 114, 110]) (OkPost N G (d + 1) (.bool false) ts W) := fun W hW => takesL [[114, 101, 116, 117, 114, 110]] 1 rfl (by decide) (by decide) hg hs4 hW
  have d5 : ∀ W, PAt N W G ts (d + 1) → Calls Tryz.prog 92 #[ptr G, sl1 W] (one W #[98, 114, 101, 97, 107]) (OkPost N G (d + 1) (.bool false) ts W) := fun W hW => takesL [[98, 114, 101, 97, 107]] 1 rfl (by decide) (by decide) hg hs5 hW
  have d6 : ∀ W, PAt N W G ts (d + 1) → Calls Tryz.prog 92 #[ptr G, sl1 W] (one W #[99, 111, 110, 116, 105, 110, 117, 101]) (OkPost N G (d + 1) (.bool true) ts.tail W) := fun W hW => takesL [[99, 111, 110, 116, 105, 110, 117, 101]] 1 rfl (by decide) (by decide) hg hs6 hW
  have cw : ∀ W, PAt N W G ts.tail (d + 1) → Calls Tryz.prog 95 #[ptr G, sl1 W] (one W #[59]) (BadPost G (p : Int) (er : Int) W) := fun W hW => by have := wantL [[59]] 1 rfl (by decide) (by decide) (show Good Rl ts.tail from good_behind hg (by decide) hs6) hW; rw [hw] at this; exact this
  clear h hd hne hs0 hs1 hs2 hs3 hs4 hs5 hs6 hw
  go_enter_defers Tryz.func173, Tryz.ntmps173
  go_wp2_with (first
    | ((with_reducible refine cd.mono ?_); rintro e w1 ⟨rfl, hv, hp, hk⟩; have HV1 := Lib.hid hv; have HP1 := Lib.hid hp; have HK1 := Lib.hid hk; clear hp hk cd hv)
    | ((with_reducible refine (c1 _ HP1.out).mono ?_); rintro e w2 ⟨rfl, hp, hk⟩; have HP2 := Lib.hid hp; have HK2 := Lib.hid (HK1.out.trans hk); have HV2 := Lib.hid (hk.at (by omega) HV1.out); clear hp hk c1)
    | ((with_reducible refine (d0 _ HP2.out).mono ?_); rintro e w3 ⟨rfl, hp, hk⟩; have HP3 := Lib.hid hp; have HK3 := Lib.hid (HK2.out.trans hk); have HV3 := Lib.hid (hk.at (by omega) HV2.out); clear hp hk d0)
    | ((with_reducible refine (d1 _ HP3.out).mono ?_); rintro e w4 ⟨rfl, hp, hk⟩; have HP4 := Lib.hid hp; have HK4 := Lib.hid (HK3.out.trans hk); have HV4 := Lib.hid (hk.at (by omega) HV3.out); clear hp hk d1)
    | ((with_reducible refine (d2 _ HP4.out).mono ?_); rintro e w5 ⟨rfl, hp, hk⟩; have HP5 := Lib.hid hp; have HK5 := Lib.hid (HK4.out.trans hk); have HV5 := Lib.hid (hk.at (by omega) HV4.out); clear hp hk d2)
    | ((with_reducible refine (d3 _ HP5.out).mono ?_); rintro e w6 ⟨rfl, hp, hk⟩; have HP6 := Lib.hid hp; have HK6 := Lib.hid (HK5.out.trans hk); have HV6 := Lib.hid (hk.at (by omega) HV5.out); clear hp hk d3)
    | ((with_reducible refine (d4 _ HP6.out).mono ?_); rintro e w7 ⟨rfl, hp, hk⟩; have HP7 := Lib.hid hp; have HK7 := Lib.hid (HK6.out.trans hk); have HV7 := Lib.hid (hk.at (by omega) HV6.out); clear hp hk d4)
    | ((with_reducible refine (d5 _ HP7.out).mono ?_); rintro e w8 ⟨rfl, hp, hk⟩; have HP8 := Lib.hid hp; have HK8 := Lib.hid (HK7.out.trans hk); have HV8 := Lib.hid (hk.at (by omega) HV7.out); clear hp hk d5)
    | ((with_reducible refine (d6 _ HP8.out).mono ?_); rintro e w9 ⟨rfl, hp, hk⟩; have HP9 := Lib.hid hp; have HK9 := Lib.hid (HK8.out.trans hk); have HV9 := Lib.hid (hk.at (by omega) HV8.out); clear hp hk d6)
    | ((with_reducible refine (cw _ HP9.out).mono ?_); rintro e w10 ⟨rfl, hp, hk⟩; have HW := Lib.hid hp; have HK10 := Lib.hid (HK9.out.trans hk); have HV10 := Lib.hid (hk.at (by omega) HV9.out); clear hp hk))
  refine leaves_cons (f := 170) (args := #[.pointer (some ⟨w.heap.size + 1, 0, none⟩)]) (by simp) (by simp [go_sem]) ?_
  refine (falls_back HW.out HV10.out _).mono ?_
  rintro e u' wz ⟨rfl, rfl, hpz, hkz⟩
  exact ⟨rfl, hpz, (HK10.out.trans hkz).first⟩
set_option maxRecDepth 100000 in
set_option maxHeartbeats 8000000 in
theorem stmt_continue {w : World} {G d : Nat} {ts r2 : List Tok} {s : Bs} (h : PAt N w G ts d) (hg : Good Rl ts) (hd : d < 40) (hs0 : Pa.sees ts [[123]] = false) (hs1 : Pa.sees ts types = false) (hs2 : Pa.sees ts [[105, 102]] = false) (hs3 : Pa.sees ts [[119, 104, 105, 108, 101]] = false) (hs4 : Pa.sees ts [[114, 101, 116, 117, 114, 110]] = false) (hs5 : Pa.sees ts [[98, 114, 101, 97, 107]] = false) (hs6 : Pa.sees ts [[99, 111, 110, 116, 105, 110, 117, 101]] = true) (hw : Pa.want ts.tail [[59]] = .ok s r2) :
    Calls Tryz.prog 173 #[ptr G] w (StOk N G d (.mk 6 [] [] [] 0 0 (Pa.hd ts).place) r2 w) := by
  have hlt := h.base
  have hne : ts ≠ [] := by obtain ⟨t, l, rfl⟩ := hg.ne; simp
  have cd := deeper2 (o := .cells z7 TSt) h hne hd
  have HD := Lib.hid hd
  have HZ := Lib.hid (heap_alloc_new w (.cells z7 TSt))
  have c1 : ∀ W, PAt N W G ts (d + 1) → Calls Tryz.prog 64 #[ptr G] W (OkPost N G (d + 1) (tokV (Pa.hd ts)) ts W) := fun W hW => nextL hg hW
  have d0 : ∀ W, PAt N W G ts (d + 1) → Calls Tryz.prog 134 #[ptr G, sl1 W] (one W #[123]) (OkPost N G (d + 1) (.bool false) ts W) := fun W hW => by have := seesL [[123]] 1 rfl (by decide) hg hW; rw [hs0] at this; exact this
  have d1 : ∀ W, PAt N W G ts (d + 1) → Calls Tryz.prog 134 #[ptr G, sl3 W] (three W) (OkPost N G (d + 1) (.bool false) ts W) := fun W hW => by have := seesL types 3 rfl (by decide) hg hW; rw [hs1] at this; exact this
  have d2 : ∀ W, PAt N W G ts (d + 1) → Calls Tryz.prog 92 #[ptr G, sl1 W] (one W #[105, 102]) (OkPost N G (d + 1) (.bool false) ts W) := fun W hW => takesL [[105, 102]] 1 rfl (by decide) (by decide) hg hs2 hW
  have d3 : ∀ W, PAt N W G ts (d + 1) → Calls Tryz.prog 92 #[ptr G, sl1 W] (one W #[119, 104, 105, 108, 101]) (OkPost N G (d + 1) (.bool false) ts W) := fun W hW => takesL [[119, 104, 105, 108, 101]] 1 rfl (by decide) (by decide) hg hs3 hW
  have d4 : ∀ W, PAt N W G ts (d + 1) → Calls Tryz.prog 92 #[ptr G, sl1 W] (one W #[114, 101, 116, 117, 114, 110]) (OkPost N G (d + 1) (.bool false) ts W) := fun W hW => takesL [[114, 101, 116, 117, 114, 110]] 1 rfl (by decide) (by decide) hg hs4 hW
  have d5 : ∀ W, PAt N W G ts (d + 1) → Calls Tryz.prog 92 #[ptr G, sl1 W] (one W #[98, 114, 101, 97, 107]) (OkPost N G (d + 1) (.bool false) ts W) := fun W hW => takesL [[98, 114, 101, 97, 107]] 1 rfl (by decide) (by decide) hg hs5 hW
  have d6 : ∀ W, PAt N W G ts (d + 1) → Calls Tryz.prog 92 #[ptr G, sl1 W] (one W #[99, 111, 110, 116, 105, 110, 117, 101]) (OkPost N G (d + 1) (.bool true) ts.tail W) := fun W hW => takesL [[99, 111, 110, 116, 105, 110, 117, 101]] 1 rfl (by decide) (by decide) hg hs6 hW
  have cw : ∀ W, PAt N W G ts.tail (d + 1) → Calls Tryz.prog 95 #[ptr G, sl1 W] (one W #[59]) (OkPost N G (d + 1) (.string ⟨s.toArray⟩) r2 W) := fun W hW => by have := wantL [[59]] 1 rfl (by decide) (by decide) (show Good Rl ts.tail from good_behind hg (by decide) hs6) hW; rw [hw] at this; exact this
  clear h hd hne hs0 hs1 hs2 hs3 hs4 hs5 hs6 hw
  go_enter_defers Tryz.func173, Tryz.ntmps173
  go_wp2_with (first
    | ((with_reducible refine cd.mono ?_); rintro e w1 ⟨rfl, hv, hp, hk⟩; have HV1 := Lib.hid hv; have HP1 := Lib.hid hp; have HK1 := Lib.hid hk; clear hp hk cd hv)
    | ((with_reducible refine (c1 _ HP1.out).mono ?_); rintro e w2 ⟨rfl, hp, hk⟩; have HP2 := Lib.hid hp; have HK2 := Lib.hid (HK1.out.trans hk); have HV2 := Lib.hid (hk.at (by omega) HV1.out); clear hp hk c1)
    | ((with_reducible refine (d0 _ HP2.out).mono ?_); rintro e w3 ⟨rfl, hp, hk⟩; have HP3 := Lib.hid hp; have HK3 := Lib.hid (HK2.out.trans hk); have HV3 := Lib.hid (hk.at (by omega) HV2.out); clear hp hk d0)
    | ((with_reducible refine (d1 _ HP3.out).mono ?_); rintro e w4 ⟨rfl, hp, hk⟩; have HP4 := Lib.hid hp; have HK4 := Lib.hid (HK3.out.trans hk); have HV4 := Lib.hid (hk.at (by omega) HV3.out); clear hp hk d1)
    | ((with_reducible refine (d2 _ HP4.out).mono ?_); rintro e w5 ⟨rfl, hp, hk⟩; have HP5 := Lib.hid hp; have HK5 := Lib.hid (HK4.out.trans hk); have HV5 := Lib.hid (hk.at (by omega) HV4.out); clear hp hk d2)
    | ((with_reducible refine (d3 _ HP5.out).mono ?_); rintro e w6 ⟨rfl, hp, hk⟩; have HP6 := Lib.hid hp; have HK6 := Lib.hid (HK5.out.trans hk); have HV6 := Lib.hid (hk.at (by omega) HV5.out); clear hp hk d3)
    | ((with_reducible refine (d4 _ HP6.out).mono ?_); rintro e w7 ⟨rfl, hp, hk⟩; have HP7 := Lib.hid hp; have HK7 := Lib.hid (HK6.out.trans hk); have HV7 := Lib.hid (hk.at (by omega) HV6.out); clear hp hk d4)
    | ((with_reducible refine (d5 _ HP7.out).mono ?_); rintro e w8 ⟨rfl, hp, hk⟩; have HP8 := Lib.hid hp; have HK8 := Lib.hid (HK7.out.trans hk); have HV8 := Lib.hid (hk.at (by omega) HV7.out); clear hp hk d5)
    | ((with_reducible refine (d6 _ HP8.out).mono ?_); rintro e w9 ⟨rfl, hp, hk⟩; have HP9 := Lib.hid hp; have HK9 := Lib.hid (HK8.out.trans hk); have HV9 := Lib.hid (hk.at (by omega) HV8.out); clear hp hk d6)
    | ((with_reducible refine (cw _ HP9.out).mono ?_); rintro e w10 ⟨rfl, hp, hk⟩; have HP10 := Lib.hid hp; have HK10 := Lib.hid (HK9.out.trans hk); have HV10 := Lib.hid (hk.at (by omega) HV9.out); have hz10 := rowK HZ.out hlt HK10.out; clear hp hk cw)
    | ((with_reducible refine store7 rfl (.tmp 2) (.tmp 71) rfl w.heap.size 6 0 0 (Pa.hd ts).place ⟨#[]⟩ none none 0 0 0 0 ?xa ?xb z7 rfl hz10 ?_); (case xa => simp [go_sem]); (case xb => simp [go_sem])))
  refine leaves_cons (f := 170) (args := #[.pointer (some ⟨w.heap.size + 1, 0, none⟩)]) (by simp) (by simp [go_sem]) ?_
  refine (goes_back (HP10.out.row (by omega) _) HD.out ((setRow_other _ _ _ _ (by omega)).trans HV10.out) _).mono ?_
  rintro e u' wz ⟨rfl, rfl, hpz, hkz⟩
  exact leaves_st _ _ _ _ _ _ _ _ rfl (by omega) hz10 hkz ⟨_, rfl, .mk 6 [] [] [] 0 0 (Pa.hd ts).place _ _ .nil .nil, hpz, ((HK10.out.first.row (Nat.le_refl _) _).trans hkz)⟩
set_option maxRecDepth 100000 in
set_option maxHeartbeats 8000000 in
theorem stmt_if_bad {w : World} {G d : Nat} {ts : List Tok} {p er : Nat} (h : PAt N w G ts d) (hg : Good Rl ts) (hd : d < 40) (hs0 : Pa.sees ts [[123]] = false) (hs1 : Pa.sees ts types = false) (hs2 : Pa.sees ts [[105, 102]] = true) (cx : ∀ W, PAt N W G ts.tail (d + 1) → Calls Tryz.prog 196 #[ptr G, .int .i64 2, .int .i64 ((Pa.hd ts).place : Int)] W (BadPost G (p : Int) (er : Int) W)) :
    Calls Tryz.prog 173 #[ptr G] w (BadPost G (p : Int) (er : Int) w) := by
  have hlt := h.base
  have hne : ts ≠ [] := by obtain ⟨t, l, rfl⟩ := hg.ne; simp
  have cd := deeper2 (o := .cells z7 TSt) h hne hd
  have HD := Lib.hid hd
  have HZ := Lib.hid (heap_alloc_new w (.cells z7 TSt))
  have c1 : ∀ W, PAt N W G ts (d + 1) → Calls Tryz.prog 64 #[ptr G] W (OkPost N G (d + 1) (tokV (Pa.hd ts)) ts W) := fun W hW => nextL hg hW
  have d0 : ∀ W, PAt N W G ts (d + 1) → Calls Tryz.prog 134 #[ptr G, sl1 W] (one W #[123]) (OkPost N G (d + 1) (.bool false) ts W) := fun W hW => by have := seesL [[123]] 1 rfl (by decide) hg hW; rw [hs0] at this; exact this
  have d1 : ∀ W, PAt N W G ts (d + 1) → Calls Tryz.prog 134 #[ptr G, sl3 W] (three W) (OkPost N G (d + 1) (.bool false) ts W) := fun W hW => by have := seesL types 3 rfl (by decide) hg hW; rw [hs1] at this; exact this
  have d2 : ∀ W, PAt N W G ts (d + 1) → Calls Tryz.prog 92 #[ptr G, sl1 W] (one W #[105, 102]) (OkPost N G (d + 1) (.bool true) ts.tail W) := fun W hW => takesL [[105, 102]] 1 rfl (by decide) (by decide) hg hs2 hW
  clear h hd hne hs0 hs1 hs2
  go_enter_defers Tryz.func173, Tryz.ntmps173
  go_wp2_with (first
    | ((with_reducible refine cd.mono ?_); rintro e w1 ⟨rfl, hv, hp, hk⟩; have HV1 := Lib.hid hv; have HP1 := Lib.hid hp; have HK1 := Lib.hid hk; clear hp hk cd hv)
    | ((with_reducible refine (c1 _ HP1.out).mono ?_); rintro e w2 ⟨rfl, hp, hk⟩; have HP2 := Lib.hid hp; have HK2 := Lib.hid (HK1.out.trans hk); have HV2 := Lib.hid (hk.at (by omega) HV1.out); clear hp hk c1)
    | ((with_reducible refine (d0 _ HP2.out).mono ?_); rintro e w3 ⟨rfl, hp, hk⟩; have HP3 := Lib.hid hp; have HK3 := Lib.hid (HK2.out.trans hk); have HV3 := Lib.hid (hk.at (by omega) HV2.out); clear hp hk d0)
    | ((with_reducible refine (d1 _ HP3.out).mono ?_); rintro e w4 ⟨rfl, hp, hk⟩; have HP4 := Lib.hid hp; have HK4 := Lib.hid (HK3.out.trans hk); have HV4 := Lib.hid (hk.at (by omega) HV3.out); clear hp hk d1)
    | ((with_reducible refine (d2 _ HP4.out).mono ?_); rintro e w5 ⟨rfl, hp, hk⟩; have HP5 := Lib.hid hp; have HK5 := Lib.hid (HK4.out.trans hk); have HV5 := Lib.hid (hk.at (by omega) HV4.out); clear hp hk d2)
    | ((with_reducible refine (cx _ HP5.out).mono ?_); rintro e w6 ⟨rfl, hp, hk⟩; have HW := Lib.hid hp; have HK6 := Lib.hid (HK5.out.trans hk); have HV6 := Lib.hid (hk.at (by omega) HV5.out); clear hp hk))
  refine leaves_cons (f := 170) (args := #[.pointer (some ⟨w.heap.size + 1, 0, none⟩)]) (by simp) (by simp [go_sem]) ?_
  refine (falls_back HW.out HV6.out _).mono ?_
  rintro e u' wz ⟨rfl, rfl, hpz, hkz⟩
  exact ⟨rfl, hpz, (HK6.out.trans hkz).first⟩
set_option maxRecDepth 100000 in
set_option maxHeartbeats 8000000 in
theorem stmt_if {w : World} {G d : Nat} {ts r2 : List Tok} {x : Ex} {s : St} (h : PAt N w G ts d) (hg : Good Rl ts) (hd : d < 40) (hs0 : Pa.sees ts [[123]] = false) (hs1 : Pa.sees ts types = false) (hs2 : Pa.sees ts [[105, 102]] = true) (cx : ∀ W, PAt N W G ts.tail (d + 1) → Calls Tryz.prog 196 #[ptr G, .int .i64 2, .int .i64 ((Pa.hd ts).place : Int)] W (GuOk N G (d + 1) 2 (Pa.hd ts).place (x, s) r2 W)) (hg2 : Good Rl r2) (hE : Pa.sees r2 [[101, 108, 115, 101]] = false) :
    Calls Tryz.prog 173 #[ptr G] w (StOk N G d (.mk 2 [x] [s] [] 0 0 (Pa.hd ts).place) r2 w) := by
  have hlt := h.base
  have hne : ts ≠ [] := by obtain ⟨t, l, rfl⟩ := hg.ne; simp
  have cd := deeper2 (o := .cells z7 TSt) h hne hd
  have HD := Lib.hid hd
  have HZ := Lib.hid (heap_alloc_new w (.cells z7 TSt))
  have c1 : ∀ W, PAt N W G ts (d + 1) → Calls Tryz.prog 64 #[ptr G] W (OkPost N G (d + 1) (tokV (Pa.hd ts)) ts W) := fun W hW => nextL hg hW
  have d0 : ∀ W, PAt N W G ts (d + 1) → Calls Tryz.prog 134 #[ptr G, sl1 W] (one W #[123]) (OkPost N G (d + 1) (.bool false) ts W) := fun W hW => by have := seesL [[123]] 1 rfl (by decide) hg hW; rw [hs0] at this; exact this
  have d1 : ∀ W, PAt N W G ts (d + 1) → Calls Tryz.prog 134 #[ptr G, sl3 W] (three W) (OkPost N G (d + 1) (.bool false) ts W) := fun W hW => by have := seesL types 3 rfl (by decide) hg hW; rw [hs1] at this; exact this
  have d2 : ∀ W, PAt N W G ts (d + 1) → Calls Tryz.prog 92 #[ptr G, sl1 W] (one W #[105, 102]) (OkPost N G (d + 1) (.bool true) ts.tail W) := fun W hW => takesL [[105, 102]] 1 rfl (by decide) (by decide) hg hs2 hW
  have ce : ∀ W, PAt N W G r2 (d + 1) → Calls Tryz.prog 92 #[ptr G, sl1 W] (one W #[101, 108, 115, 101]) (OkPost N G (d + 1) (.bool false) r2 W) := fun W hW => takesL [[101, 108, 115, 101]] 1 rfl (by decide) (by decide) hg2 hE hW
  have HGU := Lib.hid hg2
  have HGE := Lib.hid hg2
  clear h hd hne hs0 hs1 hs2 hg2 hE
  go_enter_defers Tryz.func173, Tryz.ntmps173
  go_wp2_with (first
    | ((with_reducible refine cd.mono ?_); rintro e w1 ⟨rfl, hv, hp, hk⟩; have HV1 := Lib.hid hv; have HP1 := Lib.hid hp; have HK1 := Lib.hid hk; clear hp hk cd hv)
    | ((with_reducible refine (c1 _ HP1.out).mono ?_); rintro e w2 ⟨rfl, hp, hk⟩; have HP2 := Lib.hid hp; have HK2 := Lib.hid (HK1.out.trans hk); have HV2 := Lib.hid (hk.at (by omega) HV1.out); clear hp hk c1)
    | ((with_reducible refine (d0 _ HP2.out).mono ?_); rintro e w3 ⟨rfl, hp, hk⟩; have HP3 := Lib.hid hp; have HK3 := Lib.hid (HK2.out.trans hk); have HV3 := Lib.hid (hk.at (by omega) HV2.out); clear hp hk d0)
    | ((with_reducible refine (d1 _ HP3.out).mono ?_); rintro e w4 ⟨rfl, hp, hk⟩; have HP4 := Lib.hid hp; have HK4 := Lib.hid (HK3.out.trans hk); have HV4 := Lib.hid (hk.at (by omega) HV3.out); clear hp hk d1)
    | ((with_reducible refine (d2 _ HP4.out).mono ?_); rintro e w5 ⟨rfl, hp, hk⟩; have HP5 := Lib.hid hp; have HK5 := Lib.hid (HK4.out.trans hk); have HV5 := Lib.hid (hk.at (by omega) HV4.out); clear hp hk d2)
    | ((with_reducible refine (cx _ HP5.out).mono ?_); rintro e w6 ⟨ev, q, rows, rfl, hks, hgr, hp, hk⟩; obtain ⟨a3, l3, c3, rfl⟩ := hks.slice; have HP6 := Lib.hid hp; have HK6 := Lib.hid (HK5.out.trans hk); have HV6 := Lib.hid (hk.at (by omega) HV5.out); have hz6 := rowK HZ.out hlt HK6.out; have HX := Lib.hid hks; have HGW := Lib.hid hgr; have HSZ := Lib.hid HK5.out.size; have HI := Lib.hid (IfI.first (kind := 2) (place := (Pa.hd ts).place) (ev := .slice a3 l3 c3) (x := [x]) hlt HGU.out hp HK6.out (by have := HSZ.out; rw [World.size_alloc] at this; omega) hgr); have HVn := Lib.hid ((Keep.of (G := G) ((Below.refl w6.heap.size w6).alloc (Nat.le_refl _) (.cells (st7 2 (.slice a3 l3 c3) (.slice q 1 1) ⟨#[]⟩ 0 0 (Pa.hd ts).place) TSt))).at (by omega) HV6.out); have HXn := Lib.hid (hks.lt.mono (w' := w6.alloc (.cells (st7 2 (.slice a3 l3 c3) (.slice q 1 1) ⟨#[]⟩ 0 0 (Pa.hd ts).place) TSt)) (Q := fun b => w.heap.size + 1 ≤ b ∧ b ≠ w6.heap.size) ⟨by simp, fun b _ hl => Lib.alloc_old _ _ _ hl⟩ fun b hb => ⟨by have := HSZ.out; rw [World.size_alloc] at this; have := hb.1; omega, by have := hb.2; omega⟩); clear hp hk hks hgr)
    | (have ce' := ce _ HI.out.own.p; simp only [sl1, one, World.size_alloc] at ce'; (with_reducible refine ce'.mono ?_); rintro e w7 ⟨rfl, hp, hk⟩; have HI2 := Lib.hid (HI.out.next stays_st hlt hp hk HGE.out); have HV7 := Lib.hid (hk.at (by omega) HVn.out); have HXe := Lib.hid (HXn.out.mono (w' := w7) ⟨hk.size, fun b hb hl => hk.block b hl (by have := hb.1; omega)⟩ fun b hb => hb); have hl7 := HI2.out.own.left; have hz7 := HI2.out.own.res; have hB7 := (Array.getElem?_eq_some_iff.1 hl7).1; have HSB := Lib.hid HI2.out.own.lt; clear hp hk ce ce')
    | ((with_reducible refine load7 rfl (.tmp 4) rfl w6.heap.size 2 0 0 (Pa.hd ts).place ⟨#[]⟩ (.slice a3 l3 c3) (.slice q 1 1) ?xc hl7 ?_); (case xc => simp [go_sem]))
    | ((with_reducible refine store7 rfl (.tmp 2) (.tmp 39) rfl w.heap.size 2 0 0 (Pa.hd ts).place ⟨#[]⟩ a3 q l3 c3 1 1 ?xa ?xb z7 rfl hz7 ?_); (case xa => simp [go_sem]); (case xb => simp [go_sem])))
  refine leaves_cons (f := 170) (args := #[.pointer (some ⟨w.heap.size + 1, 0, none⟩)]) (by simp) (by simp [go_sem]) ?_
  refine (goes_back (HI2.out.own.p.row (by omega) _) HD.out ((setRow_other _ _ _ _ (by omega)).trans HV7.out) _).mono ?_
  rintro e u' wz ⟨rfl, rfl, hpz, hkz⟩
  refine leaves_st _ _ _ _ _ _ _ _ rfl (by omega) hz7 hkz ⟨_, rfl, .mk 2 [x] [s] [] 0 0 (Pa.hd ts).place _ _ ?_ ?_, hpz, (HI2.out.own.keep.row (Nat.le_refl _) _).trans hkz⟩
  · exact ((HXe.out.mono (Q := New (w.heap.size + 1)) ⟨Nat.le_refl _, fun _ _ _ => rfl⟩ fun b hb => hb.1).mono (Same.row (G := G) (Keep.refl G w7) (by omega) (by omega) _) (New.le (Nat.le_succ _))).mono (Same.of hkz (by omega)) fun b hb => hb
  · exact ((SlAt.ss ((HI2.out.grow.done (stays_not _)).mono ⟨Nat.le_refl _, fun _ _ _ => rfl⟩ (fun b hb => hb) fun k r hk => hk.mono ⟨Nat.le_refl _, fun _ _ _ => rfl⟩ fun b hb => hb.1)).mono (Same.row (G := G) (Keep.refl G w7) (by omega) (by omega) _) (New.le (Nat.le_succ _))).mono (Same.of hkz (by omega)) fun b hb => hb
set_option maxRecDepth 100000 in
set_option maxHeartbeats 8000000 in
theorem stmt_else_bad {w : World} {G d : Nat} {ts r2 : List Tok} {x : Ex} {s : St} {p er : Nat} (h : PAt N w G ts d) (hg : Good Rl ts) (hd : d < 40) (hs0 : Pa.sees ts [[123]] = false) (hs1 : Pa.sees ts types = false) (hs2 : Pa.sees ts [[105, 102]] = true) (cx : ∀ W, PAt N W G ts.tail (d + 1) → Calls Tryz.prog 196 #[ptr G, .int .i64 2, .int .i64 ((Pa.hd ts).place : Int)] W (GuOk N G (d + 1) 2 (Pa.hd ts).place (x, s) r2 W)) (hg2 : Good Rl r2) (hE : Pa.sees r2 [[101, 108, 115, 101]] = true) (cs : ∀ W, PAt N W G r2.tail (d + 1) → Calls Tryz.prog 173 #[ptr G] W (BadPost G (p : Int) (er : Int) W)) :
    Calls Tryz.prog 173 #[ptr G] w (BadPost G (p : Int) (er : Int) w) := by
  have hlt := h.base
  have hne : ts ≠ [] := by obtain ⟨t, l, rfl⟩ := hg.ne; simp
  have cd := deeper2 (o := .cells z7 TSt) h hne hd
  have HD := Lib.hid hd
  have HZ := Lib.hid (heap_alloc_new w (.cells z7 TSt))
  have c1 : ∀ W, PAt N W G ts (d + 1) → Calls Tryz.prog 64 #[ptr G] W (OkPost N G (d + 1) (tokV (Pa.hd ts)) ts W) := fun W hW => nextL hg hW
  have d0 : ∀ W, PAt N W G ts (d + 1) → Calls Tryz.prog 134 #[ptr G, sl1 W] (one W #[123]) (OkPost N G (d + 1) (.bool false) ts W) := fun W hW => by have := seesL [[123]] 1 rfl (by decide) hg hW; rw [hs0] at this; exact this
  have d1 : ∀ W, PAt N W G ts (d + 1) → Calls Tryz.prog 134 #[ptr G, sl3 W] (three W) (OkPost N G (d + 1) (.bool false) ts W) := fun W hW => by have := seesL types 3 rfl (by decide) hg hW; rw [hs1] at this; exact this
  have d2 : ∀ W, PAt N W G ts (d + 1) → Calls Tryz.prog 92 #[ptr G, sl1 W] (one W #[105, 102]) (OkPost N G (d + 1) (.bool true) ts.tail W) := fun W hW => takesL [[105, 102]] 1 rfl (by decide) (by decide) hg hs2 hW
  have ce : ∀ W, PAt N W G r2 (d + 1) → Calls Tryz.prog 92 #[ptr G, sl1 W] (one W #[101, 108, 115, 101]) (OkPost N G (d + 1) (.bool true) r2.tail W) := fun W hW => takesL [[101, 108, 115, 101]] 1 rfl (by decide) (by decide) hg2 hE hW
  have HGU := Lib.hid hg2
  have HGE := Lib.hid (show Good Rl r2.tail from good_behind hg2 (by decide) hE)
  clear h hd hne hs0 hs1 hs2 hg2 hE
  go_enter_defers Tryz.func173, Tryz.ntmps173
  go_upto_region 10 with (first
    | ((with_reducible refine cd.mono ?_); rintro e w1 ⟨rfl, hv, hp, hk⟩; have HV1 := Lib.hid hv; have HP1 := Lib.hid hp; have HK1 := Lib.hid hk; clear hp hk cd hv)
    | ((with_reducible refine (c1 _ HP1.out).mono ?_); rintro e w2 ⟨rfl, hp, hk⟩; have HP2 := Lib.hid hp; have HK2 := Lib.hid (HK1.out.trans hk); have HV2 := Lib.hid (hk.at (by omega) HV1.out); clear hp hk c1)
    | ((with_reducible refine (d0 _ HP2.out).mono ?_); rintro e w3 ⟨rfl, hp, hk⟩; have HP3 := Lib.hid hp; have HK3 := Lib.hid (HK2.out.trans hk); have HV3 := Lib.hid (hk.at (by omega) HV2.out); clear hp hk d0)
    | ((with_reducible refine (d1 _ HP3.out).mono ?_); rintro e w4 ⟨rfl, hp, hk⟩; have HP4 := Lib.hid hp; have HK4 := Lib.hid (HK3.out.trans hk); have HV4 := Lib.hid (hk.at (by omega) HV3.out); clear hp hk d1)
    | ((with_reducible refine (d2 _ HP4.out).mono ?_); rintro e w5 ⟨rfl, hp, hk⟩; have HP5 := Lib.hid hp; have HK5 := Lib.hid (HK4.out.trans hk); have HV5 := Lib.hid (hk.at (by omega) HV4.out); clear hp hk d2)
    | ((with_reducible refine (cx _ HP5.out).mono ?_); rintro e w6 ⟨ev, q, rows, rfl, hks, hgr, hp, hk⟩; obtain ⟨a3, l3, c3, rfl⟩ := hks.slice; have HP6 := Lib.hid hp; have HK6 := Lib.hid (HK5.out.trans hk); have HV6 := Lib.hid (hk.at (by omega) HV5.out); have hz6 := rowK HZ.out hlt HK6.out; have HX := Lib.hid hks; have HGW := Lib.hid hgr; have HSZ2 := Lib.hid hk.size; have HSZ := Lib.hid HK5.out.size; have HI := Lib.hid (IfI.first (kind := 2) (place := (Pa.hd ts).place) (ev := .slice a3 l3 c3) (x := [x]) hlt HGU.out hp HK6.out (by have := HSZ.out; rw [World.size_alloc] at this; omega) hgr); have HVn := Lib.hid ((Keep.of (G := G) ((Below.refl w6.heap.size w6).alloc (Nat.le_refl _) (.cells (st7 2 (.slice a3 l3 c3) (.slice q 1 1) ⟨#[]⟩ 0 0 (Pa.hd ts).place) TSt))).at (by omega) HV6.out); have HXn := Lib.hid (hks.lt.mono (w' := w6.alloc (.cells (st7 2 (.slice a3 l3 c3) (.slice q 1 1) ⟨#[]⟩ 0 0 (Pa.hd ts).place) TSt)) (Q := fun b => w.heap.size + 1 ≤ b ∧ b ≠ w6.heap.size) ⟨by simp, fun b _ hl => Lib.alloc_old _ _ _ hl⟩ fun b hb => ⟨by have := HSZ.out; rw [World.size_alloc] at this; have := hb.1; omega, by have := hb.2; omega⟩); clear hp hk hks hgr)
    | (have ce' := ce _ HI.out.own.p; simp only [sl1, one, World.size_alloc] at ce'; (with_reducible refine ce'.mono ?_); rintro e w7 ⟨rfl, hp, hk⟩; have HI2 := Lib.hid (HI.out.next stays_st hlt hp hk HGE.out); have HV7 := Lib.hid (hk.at (by omega) HVn.out); have HXe := Lib.hid (HXn.out.mono (w' := w7) ⟨hk.size, fun b hb hl => hk.block b hl (by have := hb.1; omega)⟩ fun b hb => hb); have hl7 := HI2.out.own.left; have hz7 := HI2.out.own.res; have hB7 := (Array.getElem?_eq_some_iff.1 hl7).1; have HSB := Lib.hid HI2.out.own.lt; clear hp hk ce ce'))
  obtain ⟨B, hB⟩ : ∃ B, B = w6.heap.size := ⟨_, rfl⟩
  have hlt2 : w.heap.size + 1 < B := by have := (Array.getElem?_eq_some_iff.1 HV5.out).1; have := HSZ2.out; omega
  rw [← hB] at HI2 HXe HSB hl7 hB7 ⊢
  have HI6 := Lib.hid (ElseI.mk HI2.out HXe.out HV7.out hlt2)
  clear hB HI2 HXe hl7 hz7 HI HXn HVn HX HGW hz6 hB7
  refine Code.wp_mono (OnPanic.imp (R := fun ds c w' => ds = [dfr (w.heap.size + 1)] ∧ BadPost G p er w (.panicked c) w' ∧ w'.heap[w.heap.size + 1]? = some (.cells #[ptr G] 121 (0, 0))) ?imp) ?_
  case imp =>
    rintro c a wz ⟨hdf, ⟨hth, hpz, hkz⟩, hvz⟩
    cases hth
    show Leaves _ _ _ _ a.defers (.panicking _) wz
    rw [hdf]
    refine leaves_cons (f := 170) (args := #[.pointer (some ⟨w.heap.size + 1, 0, none⟩)]) (by simp) (by simp [go_sem]) ?_
    refine (falls_back hpz hvz _).mono ?_
    rintro e u' wy ⟨rfl, rfl, hpy, hky⟩
    exact ⟨rfl, hpy, hkz.trans hky⟩
  refine wp_region_any (by kernel_rfl) ?_
  change wpAny _ _ _ _ _ _ _ (World.drew _)
  refine wpAny_take (i := 0) (v := .pointer (some ⟨B, 2, none⟩)) rfl (by kernel_rfl) (by kernel_rfl) (by kernel_rfl) (fun _ _ _ h => h) (Or.inl ⟨by rfl, by intro w; go_simp⟩) ?_
  refine wpAny_take (i := 2) (v := ptr G) rfl (by kernel_rfl) (by kernel_rfl) (by kernel_rfl) (fun _ _ _ h => h) (Or.inl ⟨by rfl, by intro w; go_simp⟩) ?_
  have HId := Lib.hid (HI6.out.drew stays_st)
  have y0 := HId.out.own.cell (i := 2) (v := (.slice q 1 1)) rfl
  refine wpAny_ready (rs := [1, 3]) (by kernel_rfl) (by simp) ?_
  refine AllReady.cons rfl (fun K hK => ?_) (AllReady.cons rfl (fun K hK => ?_) AllReady.nil)
  · go_simp
    refine hK _ _ ?_
    clear hK K y0
    refine wpAny_ready (rs := [3]) (by kernel_rfl) (by simp) ?_
    refine AllReady.cons rfl (fun K hK => ?_) AllReady.nil
    go_simp
    clear hK
    refine (cs _ HId.out.own.p).mono ?_
    rintro e w7 ⟨rfl, hp, hk⟩
    exact ⟨⟨rfl, hp, HI6.out.own.keep.trans ⟨hk.os, hk.tape, hk.output, hk.size, hk.block⟩⟩, hk.at (by omega) HId.out.dv⟩
  · clear y0
    go_simp
    clear hK
    refine (cs _ HId.out.own.p).mono ?_
    rintro e w7 ⟨rfl, hp, hk⟩
    exact ⟨⟨rfl, hp, HI6.out.own.keep.trans ⟨hk.os, hk.tape, hk.output, hk.size, hk.block⟩⟩, hk.at (by omega) HId.out.dv⟩
set_option maxRecDepth 100000 in
set_option maxHeartbeats 8000000 in
theorem stmt_else {w : World} {G d : Nat} {ts r2 : List Tok} {x : Ex} {s : St} {y : St} {r4 : List Tok} (h : PAt N w G ts d) (hg : Good Rl ts) (hd : d < 40) (hs0 : Pa.sees ts [[123]] = false) (hs1 : Pa.sees ts types = false) (hs2 : Pa.sees ts [[105, 102]] = true) (cx : ∀ W, PAt N W G ts.tail (d + 1) → Calls Tryz.prog 196 #[ptr G, .int .i64 2, .int .i64 ((Pa.hd ts).place : Int)] W (GuOk N G (d + 1) 2 (Pa.hd ts).place (x, s) r2 W)) (hg2 : Good Rl r2) (hE : Pa.sees r2 [[101, 108, 115, 101]] = true) (cs : ∀ W, PAt N W G r2.tail (d + 1) → Calls Tryz.prog 173 #[ptr G] W (StOk N G (d + 1) y r4 W)) (g4 : Good Rl r4) :
    Calls Tryz.prog 173 #[ptr G] w (StOk N G d (.mk 2 [x] [s, y] [] 0 0 (Pa.hd ts).place) r4 w) := by
  have hlt := h.base
  have hne : ts ≠ [] := by obtain ⟨t, l, rfl⟩ := hg.ne; simp
  have cd := deeper2 (o := .cells z7 TSt) h hne hd
  have HD := Lib.hid hd
  have HZ := Lib.hid (heap_alloc_new w (.cells z7 TSt))
  have c1 : ∀ W, PAt N W G ts (d + 1) → Calls Tryz.prog 64 #[ptr G] W (OkPost N G (d + 1) (tokV (Pa.hd ts)) ts W) := fun W hW => nextL hg hW
  have d0 : ∀ W, PAt N W G ts (d + 1) → Calls Tryz.prog 134 #[ptr G, sl1 W] (one W #[123]) (OkPost N G (d + 1) (.bool false) ts W) := fun W hW => by have := seesL [[123]] 1 rfl (by decide) hg hW; rw [hs0] at this; exact this
  have d1 : ∀ W, PAt N W G ts (d + 1) → Calls Tryz.prog 134 #[ptr G, sl3 W] (three W) (OkPost N G (d + 1) (.bool false) ts W) := fun W hW => by have := seesL types 3 rfl (by decide) hg hW; rw [hs1] at this; exact this
  have d2 : ∀ W, PAt N W G ts (d + 1) → Calls Tryz.prog 92 #[ptr G, sl1 W] (one W #[105, 102]) (OkPost N G (d + 1) (.bool true) ts.tail W) := fun W hW => takesL [[105, 102]] 1 rfl (by decide) (by decide) hg hs2 hW
  have ce : ∀ W, PAt N W G r2 (d + 1) → Calls Tryz.prog 92 #[ptr G, sl1 W] (one W #[101, 108, 115, 101]) (OkPost N G (d + 1) (.bool true) r2.tail W) := fun W hW => takesL [[101, 108, 115, 101]] 1 rfl (by decide) (by decide) hg2 hE hW
  have HGU := Lib.hid hg2
  have HGE := Lib.hid (show Good Rl r2.tail from good_behind hg2 (by decide) hE)
  have HGR := Lib.hid g4
  clear h hd hne hs0 hs1 hs2 hg2 hE g4
  obtain ⟨i0, hi, hz0, hz1, hz2⟩ := info_parts infoS7
  go_enter_defers Tryz.func173, Tryz.ntmps173
  go_upto_region 10 with (first
    | ((with_reducible refine cd.mono ?_); rintro e w1 ⟨rfl, hv, hp, hk⟩; have HV1 := Lib.hid hv; have HP1 := Lib.hid hp; have HK1 := Lib.hid hk; clear hp hk cd hv)
    | ((with_reducible refine (c1 _ HP1.out).mono ?_); rintro e w2 ⟨rfl, hp, hk⟩; have HP2 := Lib.hid hp; have HK2 := Lib.hid (HK1.out.trans hk); have HV2 := Lib.hid (hk.at (by omega) HV1.out); clear hp hk c1)
    | ((with_reducible refine (d0 _ HP2.out).mono ?_); rintro e w3 ⟨rfl, hp, hk⟩; have HP3 := Lib.hid hp; have HK3 := Lib.hid (HK2.out.trans hk); have HV3 := Lib.hid (hk.at (by omega) HV2.out); clear hp hk d0)
    | ((with_reducible refine (d1 _ HP3.out).mono ?_); rintro e w4 ⟨rfl, hp, hk⟩; have HP4 := Lib.hid hp; have HK4 := Lib.hid (HK3.out.trans hk); have HV4 := Lib.hid (hk.at (by omega) HV3.out); clear hp hk d1)
    | ((with_reducible refine (d2 _ HP4.out).mono ?_); rintro e w5 ⟨rfl, hp, hk⟩; have HP5 := Lib.hid hp; have HK5 := Lib.hid (HK4.out.trans hk); have HV5 := Lib.hid (hk.at (by omega) HV4.out); clear hp hk d2)
    | ((with_reducible refine (cx _ HP5.out).mono ?_); rintro e w6 ⟨ev, q, rows, rfl, hks, hgr, hp, hk⟩; obtain ⟨a3, l3, c3, rfl⟩ := hks.slice; have HP6 := Lib.hid hp; have HK6 := Lib.hid (HK5.out.trans hk); have HV6 := Lib.hid (hk.at (by omega) HV5.out); have hz6 := rowK HZ.out hlt HK6.out; have HX := Lib.hid hks; have HGW := Lib.hid hgr; have HSZ2 := Lib.hid hk.size; have HSZ := Lib.hid HK5.out.size; have HI := Lib.hid (IfI.first (kind := 2) (place := (Pa.hd ts).place) (ev := .slice a3 l3 c3) (x := [x]) hlt HGU.out hp HK6.out (by have := HSZ.out; rw [World.size_alloc] at this; omega) hgr); have HVn := Lib.hid ((Keep.of (G := G) ((Below.refl w6.heap.size w6).alloc (Nat.le_refl _) (.cells (st7 2 (.slice a3 l3 c3) (.slice q 1 1) ⟨#[]⟩ 0 0 (Pa.hd ts).place) TSt))).at (by omega) HV6.out); have HXn := Lib.hid (hks.lt.mono (w' := w6.alloc (.cells (st7 2 (.slice a3 l3 c3) (.slice q 1 1) ⟨#[]⟩ 0 0 (Pa.hd ts).place) TSt)) (Q := fun b => w.heap.size + 1 ≤ b ∧ b ≠ w6.heap.size) ⟨by simp, fun b _ hl => Lib.alloc_old _ _ _ hl⟩ fun b hb => ⟨by have := HSZ.out; rw [World.size_alloc] at this; have := hb.1; omega, by have := hb.2; omega⟩); clear hp hk hks hgr)
    | (have ce' := ce _ HI.out.own.p; simp only [sl1, one, World.size_alloc] at ce'; (with_reducible refine ce'.mono ?_); rintro e w7 ⟨rfl, hp, hk⟩; have HI2 := Lib.hid (HI.out.next stays_st hlt hp hk HGE.out); have HV7 := Lib.hid (hk.at (by omega) HVn.out); have HXe := Lib.hid (HXn.out.mono (w' := w7) ⟨hk.size, fun b hb hl => hk.block b hl (by have := hb.1; omega)⟩ fun b hb => hb); have hl7 := HI2.out.own.left; have hz7 := HI2.out.own.res; have hB7 := (Array.getElem?_eq_some_iff.1 hl7).1; have HSB := Lib.hid HI2.out.own.lt; clear hp hk ce ce'))
  obtain ⟨B, hB⟩ : ∃ B, B = w6.heap.size := ⟨_, rfl⟩
  have hlt2 : w.heap.size + 1 < B := by have := (Array.getElem?_eq_some_iff.1 HV5.out).1; have := HSZ2.out; omega
  rw [← hB] at HI2 HXe HSB hl7 hB7 ⊢
  have HI6 := Lib.hid (ElseI.mk HI2.out HXe.out HV7.out hlt2)
  clear hB HI2 HXe hl7 hz7 HI HXn HVn HX HGW hz6 hB7
  refine wp_region_noPanic ?_
  refine wp_region_any (by kernel_rfl) ?_
  change wpAny _ _ _ _ _ _ _ (World.drew _)
  refine wpAny_take (i := 0) (v := .pointer (some ⟨B, 2, none⟩)) rfl (by kernel_rfl) (by kernel_rfl) (by kernel_rfl) (fun _ _ _ h => h) (Or.inl ⟨by rfl, by intro w; go_simp⟩) ?_
  refine wpAny_take (i := 2) (v := ptr G) rfl (by kernel_rfl) (by kernel_rfl) (by kernel_rfl) (fun _ _ _ h => h) (Or.inl ⟨by rfl, by intro w; go_simp⟩) ?_
  have HId := Lib.hid (HI6.out.drew stays_st)
  refine wpAny_ready (rs := [1, 3]) (by kernel_rfl) (by simp) ?_
  refine AllReady.cons rfl (fun K hK => ?_) (AllReady.cons rfl (fun K hK => ?_) AllReady.nil)
  · have y0 := HId.out.own.cell (i := 2) (v := (.slice q 1 1)) rfl
    go_simp
    refine hK _ _ ?_
    clear hK K y0
    refine wpAny_ready (rs := [3]) (by kernel_rfl) (by simp) ?_
    refine AllReady.cons rfl (fun K hK => ?_) AllReady.nil
    go_simp
    refine (cs _ HId.out.own.p).mono ?_
    rintro e wv ⟨c2, rfl, hst, hp, hk⟩
    obtain ⟨k3, nm3, t3, p3, p4, a5, l5, c5, a4, l4, q4, e3, z3⟩ := hst.seven
    rw [e3]
    have HIc := Lib.hid (HId.out.next stays_st hlt hp hk HGR.out)
    have HY := Lib.hid hst
    have HZ3 := Lib.hid (And.intro e3 z3)
    have hBm : B < w7.drew.heap.size := (Array.getElem?_eq_some_iff.1 HId.out.own.left).1
    have HVB := Lib.hid HId.out.block
    clear hp hk hst e3 z3
    refine hK _ _ ?_
    clear hK K
    refine wpAny_ready (rs := [4]) (by kernel_rfl) (by simp) ?_
    refine AllReady.cons rfl (fun K hK => ?_) AllReady.nil
    go_simp
    refine hK _ _ ?_
    clear hK K
    have HIb := Lib.hid (HIc.out.below (w2 := (wv.alloc (.cells (st7 k3 (.slice a5 l5 c5) (.slice a4 l4 q4) ⟨nm3.toArray⟩ t3 p3 p4) TSt))) stays_st ((Below.refl _ _).alloc (Nat.le_refl _) _))
    have HNW := Lib.hid (World.news_of_block (heap_alloc_new wv (.cells (st7 k3 (.slice a5 l5 c5) (.slice a4 l4 q4) ⟨nm3.toArray⟩ t3 p3 p4) TSt)))
    have hBn : B < wv.heap.size := (Array.getElem?_eq_some_iff.1 HIc.out.own.left).1
    refine wpAny_ready (rs := [5]) (by kernel_rfl) (by simp) ?_
    refine AllReady.cons rfl (fun K hK => ?_) AllReady.nil
    rw [if_pos (by kernel_rfl)]
    refine wp_append_full (.tmp 33) (.tmp 36) 33 rfl (w.heap.size + 1) TSt i0 (.agg z7) 7 96 Tryz.underlying33 hi hz0 hz1 hz2 rfl q 1 _ (by rfl) (by decide) HIb.out.i.grow.own ⟨wv.heap.size, 0, none⟩ (st7 k3 (.slice a5 l5 c5) (.slice a4 l4 q4) ⟨nm3.toArray⟩ t3 p3 p4).toList (by rfl) rfl HNW.out (by decide) (by decide) ?_
    intro cp6 w9 hown9 hgrow9
    obtain ⟨e3, z3⟩ := HZ3.out
    have hpush := HIb.out.push hlt hBm (HY.out.mono (w' := (wv.alloc (.cells (st7 k3 (.slice a5 l5 c5) (.slice a4 l4 q4) ⟨nm3.toArray⟩ t3 p3 p4) TSt))) ⟨by simp, fun b _ hl => Lib.alloc_old _ _ _ hl⟩ fun b hb => hb) z3 (by have e4 := congrArg Array.toList e3; have e5 : c2 = (st7 k3 (.slice a5 l5 c5) (.slice a4 l4 q4) ⟨nm3.toArray⟩ t3 p3 p4).toList := e4; rw [e5]; exact hown9) hgrow9
    have hf9 : w9.frozen? ⟨B, 2, none⟩ = false := Lib.frozen_of_heap hpush.1 _
    have hc9 : w9.cell? ⟨B, 2, none⟩ = some (.slice q 1 1) := Lib.cell_of_heap hpush.1 2
    have hp2 := hpush.2
    simp only [World.size_alloc, List.length_cons, List.length_nil, Nat.reduceAdd] at hp2
    have HI9 := Lib.hid hp2
    clear hp2
    clear hpush hown9 hgrow9 e3 z3
    refine hK _ _ ?_
    clear hK K
    refine wpAny_ready (rs := [6]) (by kernel_rfl) (by simp) ?_
    refine AllReady.cons rfl (fun K hK => ?_) AllReady.nil
    go_simp
    refine hK _ _ ?_
    clear hK K
    refine wpAny_ready (rs := [7]) (by kernel_rfl) (by simp) ?_
    refine AllReady.cons rfl (fun K hK => ?_) AllReady.nil
    go_simp
    refine hK _ _ ?_
    clear hK K hf9 hc9
    refine wpAny_done (by kernel_rfl) ?_ _
    refine NoPanic.normal ?_
    have hl9 := HI9.out.own.left
    have hz9 := HI9.out.own.res
    go_wp2_with (first
      | ((with_reducible refine load7 rfl (.tmp 4) rfl B 2 0 0 (Pa.hd ts).place ⟨#[]⟩ (.slice a3 l3 c3) (.slice (some ⟨wv.heap.size + 1, 0, none⟩) 2 cp6) ?xc hl9 ?_); (case xc => simp [go_sem]))
      | ((with_reducible refine store7 rfl (.tmp 2) (.tmp 39) rfl w.heap.size 2 0 0 (Pa.hd ts).place ⟨#[]⟩ a3 (some ⟨wv.heap.size + 1, 0, none⟩) l3 c3 2 cp6 ?xa ?xb z7 rfl hz9 ?_); (case xa => simp [go_sem]); (case xb => simp [go_sem])))
    refine leaves_cons (f := 170) (args := #[.pointer (some ⟨w.heap.size + 1, 0, none⟩)]) (by simp) (by simp [go_sem]) ?_
    refine (goes_back (HI9.out.own.p.row (by omega) _) HD.out ((setRow_other _ _ _ _ (by omega)).trans HI9.out.dv) _).mono ?_
    rintro e u' wz ⟨rfl, rfl, hpz, hkz⟩
    refine leaves_st _ _ _ _ _ _ _ _ rfl (by omega) hz9 hkz ⟨_, rfl, .mk 2 [x] [s, y] [] 0 0 (Pa.hd ts).place _ _ ?_ ?_, hpz, (HI9.out.own.keep.row (Nat.le_refl _) _).trans hkz⟩
    · exact ((HI9.out.ks.mono (Q := New (w.heap.size + 1)) ⟨Nat.le_refl _, fun _ _ _ => rfl⟩ fun b hb => hb.1).mono (Same.row (G := G) (Keep.refl G _) (by omega) (by omega) _) (New.le (Nat.le_succ _))).mono (Same.of hkz (by omega)) fun b hb => hb
    · exact ((SlAt.ss ((HI9.out.i.grow.done (stays_not _)).mono ⟨Nat.le_refl _, fun _ _ _ => rfl⟩ (fun b hb => hb) fun k r hk => hk.mono ⟨Nat.le_refl _, fun _ _ _ => rfl⟩ fun b hb => hb.1)).mono (Same.row (G := G) (Keep.refl G _) (by omega) (by omega) _) (New.le (Nat.le_succ _))).mono (Same.of hkz (by omega)) fun b hb => hb
  · go_simp
    refine (cs _ HId.out.own.p).mono ?_
    rintro e wv ⟨c2, rfl, hst, hp, hk⟩
    obtain ⟨k3, nm3, t3, p3, p4, a5, l5, c5, a4, l4, q4, e3, z3⟩ := hst.seven
    rw [e3]
    have HIc := Lib.hid (HId.out.next stays_st hlt hp hk HGR.out)
    have HY := Lib.hid hst
    have HZ3 := Lib.hid (And.intro e3 z3)
    have hBm : B < w7.drew.heap.size := (Array.getElem?_eq_some_iff.1 HId.out.own.left).1
    have HVB := Lib.hid HId.out.block
    clear hp hk hst e3 z3
    refine hK _ _ ?_
    clear hK K
    refine wpAny_ready (rs := [1, 4]) (by kernel_rfl) (by simp) ?_
    refine AllReady.cons rfl (fun K hK => ?_) (AllReady.cons rfl (fun K hK => ?_) AllReady.nil)
    · have y0 := HIc.out.own.cell (i := 2) (v := (.slice q 1 1)) rfl
      go_simp
      refine hK _ _ ?_
      clear hK K y0
      refine wpAny_ready (rs := [4]) (by kernel_rfl) (by simp) ?_
      refine AllReady.cons rfl (fun K hK => ?_) AllReady.nil
      go_simp
      refine hK _ _ ?_
      clear hK K
      have HIb := Lib.hid (HIc.out.below (w2 := (wv.alloc (.cells (st7 k3 (.slice a5 l5 c5) (.slice a4 l4 q4) ⟨nm3.toArray⟩ t3 p3 p4) TSt))) stays_st ((Below.refl _ _).alloc (Nat.le_refl _) _))
      have HNW := Lib.hid (World.news_of_block (heap_alloc_new wv (.cells (st7 k3 (.slice a5 l5 c5) (.slice a4 l4 q4) ⟨nm3.toArray⟩ t3 p3 p4) TSt)))
      have hBn : B < wv.heap.size := (Array.getElem?_eq_some_iff.1 HIc.out.own.left).1
      refine wpAny_ready (rs := [5]) (by kernel_rfl) (by simp) ?_
      refine AllReady.cons rfl (fun K hK => ?_) AllReady.nil
      rw [if_pos (by kernel_rfl)]
      refine wp_append_full (.tmp 33) (.tmp 36) 33 rfl (w.heap.size + 1) TSt i0 (.agg z7) 7 96 Tryz.underlying33 hi hz0 hz1 hz2 rfl q 1 _ (by rfl) (by decide) HIb.out.i.grow.own ⟨wv.heap.size, 0, none⟩ (st7 k3 (.slice a5 l5 c5) (.slice a4 l4 q4) ⟨nm3.toArray⟩ t3 p3 p4).toList (by rfl) rfl HNW.out (by decide) (by decide) ?_
      intro cp6 w9 hown9 hgrow9
      obtain ⟨e3, z3⟩ := HZ3.out
      have hpush := HIb.out.push hlt hBm (HY.out.mono (w' := (wv.alloc (.cells (st7 k3 (.slice a5 l5 c5) (.slice a4 l4 q4) ⟨nm3.toArray⟩ t3 p3 p4) TSt))) ⟨by simp, fun b _ hl => Lib.alloc_old _ _ _ hl⟩ fun b hb => hb) z3 (by have e4 := congrArg Array.toList e3; have e5 : c2 = (st7 k3 (.slice a5 l5 c5) (.slice a4 l4 q4) ⟨nm3.toArray⟩ t3 p3 p4).toList := e4; rw [e5]; exact hown9) hgrow9
      have hf9 : w9.frozen? ⟨B, 2, none⟩ = false := Lib.frozen_of_heap hpush.1 _
      have hc9 : w9.cell? ⟨B, 2, none⟩ = some (.slice q 1 1) := Lib.cell_of_heap hpush.1 2
      have hp2 := hpush.2
      simp only [World.size_alloc, List.length_cons, List.length_nil, Nat.reduceAdd] at hp2
      have HI9 := Lib.hid hp2
      clear hp2
      clear hpush hown9 hgrow9 e3 z3
      refine hK _ _ ?_
      clear hK K
      refine wpAny_ready (rs := [6]) (by kernel_rfl) (by simp) ?_
      refine AllReady.cons rfl (fun K hK => ?_) AllReady.nil
      go_simp
      refine hK _ _ ?_
      clear hK K
      refine wpAny_ready (rs := [7]) (by kernel_rfl) (by simp) ?_
      refine AllReady.cons rfl (fun K hK => ?_) AllReady.nil
      go_simp
      refine hK _ _ ?_
      clear hK K hf9 hc9
      refine wpAny_done (by kernel_rfl) ?_ _
      refine NoPanic.normal ?_
      have hl9 := HI9.out.own.left
      have hz9 := HI9.out.own.res
      go_wp2_with (first
        | ((with_reducible refine load7 rfl (.tmp 4) rfl B 2 0 0 (Pa.hd ts).place ⟨#[]⟩ (.slice a3 l3 c3) (.slice (some ⟨wv.heap.size + 1, 0, none⟩) 2 cp6) ?xc hl9 ?_); (case xc => simp [go_sem]))
        | ((with_reducible refine store7 rfl (.tmp 2) (.tmp 39) rfl w.heap.size 2 0 0 (Pa.hd ts).place ⟨#[]⟩ a3 (some ⟨wv.heap.size + 1, 0, none⟩) l3 c3 2 cp6 ?xa ?xb z7 rfl hz9 ?_); (case xa => simp [go_sem]); (case xb => simp [go_sem])))
      refine leaves_cons (f := 170) (args := #[.pointer (some ⟨w.heap.size + 1, 0, none⟩)]) (by simp) (by simp [go_sem]) ?_
      refine (goes_back (HI9.out.own.p.row (by omega) _) HD.out ((setRow_other _ _ _ _ (by omega)).trans HI9.out.dv) _).mono ?_
      rintro e u' wz ⟨rfl, rfl, hpz, hkz⟩
      refine leaves_st _ _ _ _ _ _ _ _ rfl (by omega) hz9 hkz ⟨_, rfl, .mk 2 [x] [s, y] [] 0 0 (Pa.hd ts).place _ _ ?_ ?_, hpz, (HI9.out.own.keep.row (Nat.le_refl _) _).trans hkz⟩
      · exact ((HI9.out.ks.mono (Q := New (w.heap.size + 1)) ⟨Nat.le_refl _, fun _ _ _ => rfl⟩ fun b hb => hb.1).mono (Same.row (G := G) (Keep.refl G _) (by omega) (by omega) _) (New.le (Nat.le_succ _))).mono (Same.of hkz (by omega)) fun b hb => hb
      · exact ((SlAt.ss ((HI9.out.i.grow.done (stays_not _)).mono ⟨Nat.le_refl _, fun _ _ _ => rfl⟩ (fun b hb => hb) fun k r hk => hk.mono ⟨Nat.le_refl _, fun _ _ _ => rfl⟩ fun b hb => hb.1)).mono (Same.row (G := G) (Keep.refl G _) (by omega) (by omega) _) (New.le (Nat.le_succ _))).mono (Same.of hkz (by omega)) fun b hb => hb
    · go_simp
      refine hK _ _ ?_
      clear hK K
      have HIb := Lib.hid (HIc.out.below (w2 := (wv.alloc (.cells (st7 k3 (.slice a5 l5 c5) (.slice a4 l4 q4) ⟨nm3.toArray⟩ t3 p3 p4) TSt))) stays_st ((Below.refl _ _).alloc (Nat.le_refl _) _))
      have HNW := Lib.hid (World.news_of_block (heap_alloc_new wv (.cells (st7 k3 (.slice a5 l5 c5) (.slice a4 l4 q4) ⟨nm3.toArray⟩ t3 p3 p4) TSt)))
      have hBn : B < wv.heap.size := (Array.getElem?_eq_some_iff.1 HIc.out.own.left).1
      have y0 := HIb.out.own.cell (i := 2) (v := (.slice q 1 1)) rfl
      refine wpAny_ready (rs := [1]) (by kernel_rfl) (by simp) ?_
      refine AllReady.cons rfl (fun K hK => ?_) AllReady.nil
      go_simp
      refine hK _ _ ?_
      clear hK K y0
      refine wpAny_ready (rs := [5]) (by kernel_rfl) (by simp) ?_
      refine AllReady.cons rfl (fun K hK => ?_) AllReady.nil
      rw [if_pos (by kernel_rfl)]
      refine wp_append_full (.tmp 33) (.tmp 36) 33 rfl (w.heap.size + 1) TSt i0 (.agg z7) 7 96 Tryz.underlying33 hi hz0 hz1 hz2 rfl q 1 _ (by rfl) (by decide) HIb.out.i.grow.own ⟨wv.heap.size, 0, none⟩ (st7 k3 (.slice a5 l5 c5) (.slice a4 l4 q4) ⟨nm3.toArray⟩ t3 p3 p4).toList (by rfl) rfl HNW.out (by decide) (by decide) ?_
      intro cp6 w9 hown9 hgrow9
      obtain ⟨e3, z3⟩ := HZ3.out
      have hpush := HIb.out.push hlt hBm (HY.out.mono (w' := (wv.alloc (.cells (st7 k3 (.slice a5 l5 c5) (.slice a4 l4 q4) ⟨nm3.toArray⟩ t3 p3 p4) TSt))) ⟨by simp, fun b _ hl => Lib.alloc_old _ _ _ hl⟩ fun b hb => hb) z3 (by have e4 := congrArg Array.toList e3; have e5 : c2 = (st7 k3 (.slice a5 l5 c5) (.slice a4 l4 q4) ⟨nm3.toArray⟩ t3 p3 p4).toList := e4; rw [e5]; exact hown9) hgrow9
      have hf9 : w9.frozen? ⟨B, 2, none⟩ = false := Lib.frozen_of_heap hpush.1 _
      have hc9 : w9.cell? ⟨B, 2, none⟩ = some (.slice q 1 1) := Lib.cell_of_heap hpush.1 2
      have hp2 := hpush.2
      simp only [World.size_alloc, List.length_cons, List.length_nil, Nat.reduceAdd] at hp2
      have HI9 := Lib.hid hp2
      clear hp2
      clear hpush hown9 hgrow9 e3 z3
      refine hK _ _ ?_
      clear hK K
      refine wpAny_ready (rs := [6]) (by kernel_rfl) (by simp) ?_
      refine AllReady.cons rfl (fun K hK => ?_) AllReady.nil
      go_simp
      refine hK _ _ ?_
      clear hK K
      refine wpAny_ready (rs := [7]) (by kernel_rfl) (by simp) ?_
      refine AllReady.cons rfl (fun K hK => ?_) AllReady.nil
      go_simp
      refine hK _ _ ?_
      clear hK K hf9 hc9
      refine wpAny_done (by kernel_rfl) ?_ _
      refine NoPanic.normal ?_
      have hl9 := HI9.out.own.left
      have hz9 := HI9.out.own.res
      go_wp2_with (first
        | ((with_reducible refine load7 rfl (.tmp 4) rfl B 2 0 0 (Pa.hd ts).place ⟨#[]⟩ (.slice a3 l3 c3) (.slice (some ⟨wv.heap.size + 1, 0, none⟩) 2 cp6) ?xc hl9 ?_); (case xc => simp [go_sem]))
        | ((with_reducible refine store7 rfl (.tmp 2) (.tmp 39) rfl w.heap.size 2 0 0 (Pa.hd ts).place ⟨#[]⟩ a3 (some ⟨wv.heap.size + 1, 0, none⟩) l3 c3 2 cp6 ?xa ?xb z7 rfl hz9 ?_); (case xa => simp [go_sem]); (case xb => simp [go_sem])))
      refine leaves_cons (f := 170) (args := #[.pointer (some ⟨w.heap.size + 1, 0, none⟩)]) (by simp) (by simp [go_sem]) ?_
      refine (goes_back (HI9.out.own.p.row (by omega) _) HD.out ((setRow_other _ _ _ _ (by omega)).trans HI9.out.dv) _).mono ?_
      rintro e u' wz ⟨rfl, rfl, hpz, hkz⟩
      refine leaves_st _ _ _ _ _ _ _ _ rfl (by omega) hz9 hkz ⟨_, rfl, .mk 2 [x] [s, y] [] 0 0 (Pa.hd ts).place _ _ ?_ ?_, hpz, (HI9.out.own.keep.row (Nat.le_refl _) _).trans hkz⟩
      · exact ((HI9.out.ks.mono (Q := New (w.heap.size + 1)) ⟨Nat.le_refl _, fun _ _ _ => rfl⟩ fun b hb => hb.1).mono (Same.row (G := G) (Keep.refl G _) (by omega) (by omega) _) (New.le (Nat.le_succ _))).mono (Same.of hkz (by omega)) fun b hb => hb
      · exact ((SlAt.ss ((HI9.out.i.grow.done (stays_not _)).mono ⟨Nat.le_refl _, fun _ _ _ => rfl⟩ (fun b hb => hb) fun k r hk => hk.mono ⟨Nat.le_refl _, fun _ _ _ => rfl⟩ fun b hb => hb.1)).mono (Same.row (G := G) (Keep.refl G _) (by omega) (by omega) _) (New.le (Nat.le_succ _))).mono (Same.of hkz (by omega)) fun b hb => hb
end PaC
end Go.Proofs.YtnlbhnmiekanfaaGreatDoor
/-
  The parser's statements, all together, as the model says. Condition: what the parser holds lies in memory; what real.Parse answers of the texts of reals.
-/
namespace Go.Proofs.YtnlbhnmiekanfaaGreatDoor
open Go.RowKit Go.Deep
set_option linter.unusedVariables false
set_option linter.unusedSimpArgs false
namespace PaC
open Pa Lx
variable {N : Nat} {Rl : Bs → Prop} {rb : Bs → Nat}
abbrev ConS (N G : Nat) (Rl : Bs → Prop) (f : FuncId) (args : Array Value) (d : Nat) (ts : List Tok) (x : R St) : Prop := ConW (StOk N G d) N G Rl f args d ts x
theorem conS_bad {α : Type} {Ok : α → List Tok → World → Ending → World → Prop} {G d : Nat} {f : FuncId} {args : Array Value} {ts : List Tok} {p er : Nat} (h : ∀ w, PAt N w G ts d → Calls Tryz.prog f args w (BadPost G (p : Int) (er : Int) w)) : ConW Ok N G Rl f args d ts (.bad p er) :=
  ⟨fun _ _ e => (by cases e), fun _ => h⟩
theorem conS_ok {α : Type} {Ok : α → List Tok → World → Ending → World → Prop} {G d : Nat} {f : FuncId} {args : Array Value} {ts r : List Tok} {a : α} (hg : Good Rl r) (h : ∀ w, PAt N w G ts d → Calls Tryz.prog f args w (Ok a r w)) : ConW Ok N G Rl f args d ts (.ok a r) :=
  ⟨fun _ _ e => (by cases e; exact hg), fun _ => h⟩
theorem conS_out {α : Type} {Ok : α → List Tok → World → Ending → World → Prop} {G d : Nat} {f : FuncId} {args : Array Value} {ts : List Tok} : ConW Ok N G Rl f args d ts (.out) :=
  ⟨fun _ _ e => (by cases e), fun h => absurd rfl h⟩
theorem ConW.at_ok {α : Type} {Ok : α → List Tok → World → Ending → World → Prop} {G d : Nat} {f : FuncId} {args : Array Value} {ts r : List Tok} {x : R α} {a : α} (h : ConW Ok N G Rl f args d ts x) (hx : x = .ok a r) : Good Rl r ∧ ∀ w, PAt N w G ts d → Calls Tryz.prog f args w (Ok a r w) := by
  subst hx
  exact ⟨h.1 a r rfl, h.2 (fun e => by cases e)⟩
theorem ConW.at_bad {α : Type} {Ok : α → List Tok → World → Ending → World → Prop} {G d : Nat} {f : FuncId} {args : Array Value} {ts : List Tok} {x : R α} {p er : Nat} (h : ConW Ok N G Rl f args d ts x) (hx : x = .bad p er) : ∀ w, PAt N w G ts d → Calls Tryz.prog f args w (BadPost G (p : Int) (er : Int) w) := by
  subst hx
  exact h.2 (fun e => by cases e)
theorem want_self {ts : List Tok} {l : List Bs} (h : Pa.sees ts l = true) : Pa.want ts l = .ok (Pa.hd ts).text ts.tail := want_ok h
theorem want_no_out {ts : List Tok} {l : List Bs} : Pa.want ts l ≠ .out := by unfold Pa.want; split <;> exact fun h => by cases h
theorem simple_step {G d f kind place : Nat} {ts : List Tok} (hg : Good Rl ts) (hx : ∀ ts, Good Rl ts → Con N G Rl 96 #[ptr G] d ts (pExpr rb f d ts)) :
    ConS N G Rl 197 #[ptr G, .int .i64 (kind : Int), .int .i64 (place : Int)] d ts (pSimple rb f kind place d ts) := by
  cases hs : Pa.sees ts [[59]] with
  | true =>
    have hw := want_self hs
    have e : pSimple rb f kind place d ts = .ok (.mk kind [] [] [] 0 0 place) ts.tail := by rw [pSimple, if_pos hs, hw]; rfl
    have hr : Good Rl ts.tail := good_behind hg (by decide) hs
    rw [e]
    exact conS_ok hr fun w hp => simple_none hp hg hs hw hr
  | false =>
    have e : pSimple rb f kind place d ts = (pExpr rb f d ts).bind fun x r => (Pa.want r [[59]]).bind fun _ r2 => .ok (.mk kind [x] [] [] 0 0 place) r2 := by rw [pSimple, if_neg (by rw [hs]; decide)]
    have cx := (hx ts hg).w
    cases hq : pExpr rb f d ts with
    | out => rw [e, hq]; exact conS_out
    | bad p er => rw [e, hq]; exact conS_bad fun w hp => simple_bad hp hg hs (cx.at_bad hq)
    | ok x r =>
      obtain ⟨hr, c⟩ := cx.at_ok hq
      cases hw : Pa.want r [[59]] with
      | out => exact absurd hw want_no_out
      | bad p er =>
        have e2 : pSimple rb f kind place d ts = .bad p er := by rw [e, hq]; show (Pa.want r [[59]]).bind _ = _; rw [hw]; rfl
        rw [e2]
        exact conS_bad fun w hp => simple_open hp hg hs c hr hw
      | ok s r2 =>
        have e2 : pSimple rb f kind place d ts = .ok (.mk kind [x] [] [] 0 0 place) r2 := by rw [e, hq]; show (Pa.want r [[59]]).bind _ = _; rw [hw]; rfl
        have hr2 := (good_want hr (by decide) hw).1
        rw [e2]
        exact conS_ok hr2 fun w hp => simple_one hp hg hs c hr hw hr2
theorem good_typed {ts r : List Tok} {a : Nat} (hg : Good Rl ts) (h : pType ts = .ok a r) : Good Rl r := ((typed_con (N := 0) (G := 0) (d := 0) hg).1 a r h).1
theorem good_length {ts r : List Tok} {a : Nat} (hg : Good Rl ts) (h : pLength ts = .ok a r) : Good Rl r := by
  obtain ⟨t, l, rfl⟩ := hg.ne
  unfold pLength at h
  split at h
  · rename_i hk
    split at h
    · obtain ⟨u, r1, e1, h2⟩ := hg.tail (.inl (by have : t.kind = 2 := hk; omega))
      subst e1
      obtain ⟨s, r2, h3, h4⟩ := bind_ok h
      cases h4
      exact (good_want h2 (by decide) h3).1
    · cases h
  · cases h
theorem typed_no_out {ts : List Tok} (hg : Good Rl ts) : pType ts ≠ .out := by
  intro hx
  rw [pType] at hx
  cases h1 : Pa.sees ts types with
  | false => rw [want_bad h1] at hx; cases hx
  | true =>
    rw [want_ok h1] at hx
    simp only [R.bind] at hx
    unfold Pa.pointer at hx
    repeat' split at hx
    all_goals cases hx
theorem name_no_out {ts : List Tok} : pName ts ≠ .out := by unfold pName; split <;> exact fun h => by cases h
theorem length_no_out {ts : List Tok} : pLength ts ≠ .out := by
  unfold pLength Pa.want
  repeat' split
  all_goals exact fun h => by cases h
/-- what follows a name, or an array's length, in a local declaration -/
def localTail (rb : Bs → Nat) (f d a len place : Nat) (nm : Bs) (ts : List Tok) : R St :=
  (if Pa.sees ts [[61]] then (pExpr rb f d ts.tail).bind fun x r4 => .ok [x] r4 else .ok [] ts).bind fun xs r5 => (Pa.want r5 [[59]]).bind fun _ r6 => .ok (.mk 8 xs [] nm a len place) r6
theorem localTail_no {f d a len place : Nat} {nm : Bs} {ts : List Tok} (h : Pa.sees ts [[61]] = false) : localTail rb f d a len place nm ts = (Pa.want ts [[59]]).bind fun _ r6 => .ok (.mk 8 [] [] nm a len place) r6 := by
  rw [localTail, if_neg (by rw [h]; decide)]; rfl
theorem localTail_yes {f d a len place : Nat} {nm : Bs} {ts : List Tok} (h : Pa.sees ts [[61]] = true) : localTail rb f d a len place nm ts = (pExpr rb f d ts.tail).bind fun x r5 => (Pa.want r5 [[59]]).bind fun _ r6 => .ok (.mk 8 [x] [] nm a len place) r6 := by
  rw [localTail, if_pos h]
  cases pExpr rb f d ts.tail <;> rfl
theorem local_step {G d f : Nat} {ts : List Tok} (hg : Good Rl ts) (hx : ∀ ts, Good Rl ts → Con N G Rl 96 #[ptr G] d ts (pExpr rb f d ts)) :
    ConS N G Rl 195 #[ptr G] d ts (pLocal rb f d ts) := by
  have e : pLocal rb f d ts = (pType ts).bind fun t r => (pName r).bind fun n r2 => (if Pa.sees r2 [[91]] then pLength r2.tail else .ok 0 r2).bind fun len r3 => localTail rb f d t len (Pa.hd ts).place n r3 := by rw [pLocal]; rfl
  cases h1 : pType ts with
  | out => exact absurd h1 (typed_no_out hg)
  | bad p er => rw [e, h1]; exact conS_bad fun w hp => local_typed hp hg h1
  | ok a r1 =>
    have g1 := good_typed hg h1
    cases h2 : pName r1 with
    | out => exact absurd h2 name_no_out
    | bad p er =>
      have e2 : pLocal rb f d ts = .bad p er := by rw [e, h1]; show (pName r1).bind _ = _; rw [h2]; rfl
      rw [e2]
      exact conS_bad fun w hp => local_name hp hg h1 g1 h2
    | ok nm r2 =>
      have g2 := good_name g1 h2
      have e2 : pLocal rb f d ts = (if Pa.sees r2 [[91]] then pLength r2.tail else .ok 0 r2).bind fun len r3 => localTail rb f d a len (Pa.hd ts).place nm r3 := by rw [e, h1]; show (pName r1).bind _ = _; rw [h2]; rfl
      cases hb : Pa.sees r2 [[91]] with
      | false =>
        have e3 : pLocal rb f d ts = localTail rb f d a 0 (Pa.hd ts).place nm r2 := by rw [e2, if_neg (by rw [hb]; decide)]; rfl
        cases he : Pa.sees r2 [[61]] with
        | false =>
          rw [localTail_no he] at e3
          cases hw : Pa.want r2 [[59]] with
          | out => exact absurd hw want_no_out
          | bad p er => rw [e3, hw]; exact conS_bad fun w hp => local_one_open hp hg h1 g1 h2 g2 hb he hw
          | ok s r6 => have g6 := (good_want g2 (by decide) hw).1; rw [e3, hw]; exact conS_ok g6 fun w hp => local_one_plain hp hg h1 g1 h2 g2 hb he hw g6
        | true =>
          rw [localTail_yes he] at e3
          have gt : Good Rl r2.tail := good_behind g2 (by decide) he
          have cx := (hx _ gt).w
          cases hq : pExpr rb f d r2.tail with
          | out => rw [e3, hq]; exact conS_out
          | bad p er => rw [e3, hq]; exact conS_bad fun w hp => local_one_bad hp hg h1 g1 h2 g2 hb he (cx.at_bad hq)
          | ok x r5 =>
            obtain ⟨g5, c⟩ := cx.at_ok hq
            have e4 : pLocal rb f d ts = (Pa.want r5 [[59]]).bind fun _ r6 => .ok (.mk 8 [x] [] nm a 0 (Pa.hd ts).place) r6 := by rw [e3, hq]; rfl
            cases hw : Pa.want r5 [[59]] with
            | out => exact absurd hw want_no_out
            | bad p er => rw [e4, hw]; exact conS_bad fun w hp => local_one_set_open hp hg h1 g1 h2 g2 hb he c g5 hw
            | ok s r6 => have g6 := (good_want g5 (by decide) hw).1; rw [e4, hw]; exact conS_ok g6 fun w hp => local_one_set hp hg h1 g1 h2 g2 hb he c g5 hw g6
      | true =>
        have gb : Good Rl r2.tail := good_behind g2 (by decide) hb
        cases h3 : pLength r2.tail with
        | out => exact absurd h3 length_no_out
        | bad p er => rw [e2, if_pos hb, h3]; exact conS_bad fun w hp => local_length hp hg h1 g1 h2 g2 hb h3
        | ok len r3 =>
          have g3 := good_length gb h3
          have e3 : pLocal rb f d ts = localTail rb f d a len (Pa.hd ts).place nm r3 := by rw [e2, if_pos hb, h3]; rfl
          cases he : Pa.sees r3 [[61]] with
          | false =>
            rw [localTail_no he] at e3
            cases hw : Pa.want r3 [[59]] with
            | out => exact absurd hw want_no_out
            | bad p er => rw [e3, hw]; exact conS_bad fun w hp => local_arr_open hp hg h1 g1 h2 g2 hb h3 g3 he hw
            | ok s r6 => have g6 := (good_want g3 (by decide) hw).1; rw [e3, hw]; exact conS_ok g6 fun w hp => local_arr_plain hp hg h1 g1 h2 g2 hb h3 g3 he hw g6
          | true =>
            rw [localTail_yes he] at e3
            have gt : Good Rl r3.tail := good_behind g3 (by decide) he
            have cx := (hx _ gt).w
            cases hq : pExpr rb f d r3.tail with
            | out => rw [e3, hq]; exact conS_out
            | bad p er => rw [e3, hq]; exact conS_bad fun w hp => local_arr_bad hp hg h1 g1 h2 g2 hb h3 g3 he (cx.at_bad hq)
            | ok x r5 =>
              obtain ⟨g5, c⟩ := cx.at_ok hq
              have e4 : pLocal rb f d ts = (Pa.want r5 [[59]]).bind fun _ r6 => .ok (.mk 8 [x] [] nm a len (Pa.hd ts).place) r6 := by rw [e3, hq]; rfl
              cases hw : Pa.want r5 [[59]] with
              | out => exact absurd hw want_no_out
              | bad p er => rw [e4, hw]; exact conS_bad fun w hp => local_arr_set_open hp hg h1 g1 h2 g2 hb h3 g3 he c g5 hw
              | ok s r6 => have g6 := (good_want g5 (by decide) hw).1; rw [e4, hw]; exact conS_ok g6 fun w hp => local_arr_set hp hg h1 g1 h2 g2 hb h3 g3 he c g5 hw g6
end PaC
end Go.Proofs.YtnlbhnmiekanfaaGreatDoor
/-
  The parser's statements, one step of the fuel, then all. Condition: what the parser holds lies in memory; what real.Parse answers of the texts of reals.
-/
namespace Go.Proofs.YtnlbhnmiekanfaaGreatDoor
open Go.RowKit Go.Deep
set_option linter.unusedVariables false
set_option linter.unusedSimpArgs false
namespace PaC
open Pa Lx
variable {N : Nat} {Rl : Bs → Prop} {rb : Bs → Nat}
theorem guarded_step {G d f kind place : Nat} {ts : List Tok} (hg : Good Rl ts) (hx : ∀ ts, Good Rl ts → Con N G Rl 96 #[ptr G] d ts (pExpr rb f d ts))
    (hst : ∀ ts, Good Rl ts → ConS N G Rl 173 #[ptr G] d ts (pStmt rb f d ts)) :
    ConW (GuOk N G d kind place) N G Rl 196 #[ptr G, .int .i64 (kind : Int), .int .i64 (place : Int)] d ts (pGuarded rb (f + 1) kind place d ts) := by
  have e : pGuarded rb (f + 1) kind place d ts = (Pa.want ts [[40]]).bind fun _ r => (pExpr rb f d r).bind fun x r2 => (Pa.want r2 [[41]]).bind fun _ r3 => (pStmt rb f d r3).bind fun s r4 => .ok (x, s) r4 := by rw [pGuarded]
  cases h1 : Pa.want ts [[40]] with
  | out => exact absurd h1 want_no_out
  | bad p er => rw [e, h1]; exact conS_bad fun w hp => guarded_open hp hg h1
  | ok s1 r1 =>
    have g1 := (good_want hg (by decide) h1).1
    have e1 : pGuarded rb (f + 1) kind place d ts = (pExpr rb f d r1).bind fun x r2 => (Pa.want r2 [[41]]).bind fun _ r3 => (pStmt rb f d r3).bind fun s r4 => .ok (x, s) r4 := by rw [e, h1]; rfl
    have cx := (hx r1 g1).w
    cases hq : pExpr rb f d r1 with
    | out => rw [e1, hq]; exact conS_out
    | bad p er => rw [e1, hq]; exact conS_bad fun w hp => guarded_bad hp hg h1 g1 (cx.at_bad hq)
    | ok x r2 =>
      obtain ⟨g2, c⟩ := cx.at_ok hq
      have e2 : pGuarded rb (f + 1) kind place d ts = (Pa.want r2 [[41]]).bind fun _ r3 => (pStmt rb f d r3).bind fun s r4 => .ok (x, s) r4 := by rw [e1, hq]; rfl
      cases h3 : Pa.want r2 [[41]] with
      | out => exact absurd h3 want_no_out
      | bad p er => rw [e2, h3]; exact conS_bad fun w hp => guarded_shut hp hg h1 g1 c g2 h3
      | ok s3 r3 =>
        have g3 := (good_want g2 (by decide) h3).1
        have e3 : pGuarded rb (f + 1) kind place d ts = (pStmt rb f d r3).bind fun s r4 => .ok (x, s) r4 := by rw [e2, h3]; rfl
        have cs := hst r3 g3
        cases hq2 : pStmt rb f d r3 with
        | out => rw [e3, hq2]; exact conS_out
        | bad p er => rw [e3, hq2]; exact conS_bad fun w hp => guarded_stmt hp hg h1 g1 c g2 h3 g3 (cs.at_bad hq2)
        | ok s r4 =>
          obtain ⟨g4, c4⟩ := cs.at_ok hq2
          rw [e3, hq2]
          exact conS_ok g4 fun w hp => guarded_ok hp hg h1 g1 c g2 h3 g3 c4 g4
theorem stmts_good {G d : Nat} : ∀ (f : Nat) (he : ∀ f', f' ≤ f → ∀ ts, Good Rl ts → ConS N G Rl 173 #[ptr G] d ts (pStmt rb f' d ts)) (acc : List St) (ts : List Tok) (hg : Good Rl ts) (a : List St) (r : List Tok) (h : pStmts rb f d acc ts = .ok a r), Good Rl r
  | 0, _, _, _, _, _, _, h => by rw [pStmts] at h; cases h
  | f + 1, he, acc, ts, hg, a, r, h => by
    rw [pStmts] at h
    cases hs : Pa.sees ts [[125]] with
    | true =>
      rw [if_pos hs] at h
      cases h
      exact good_behind hg (by decide) hs
    | false =>
      rw [if_neg (by rw [hs]; decide)] at h
      obtain ⟨y, r1, h1, h2⟩ := bind_ok h
      exact stmts_good f (fun f' hf => he f' (by omega)) _ _ ((he f (by omega) ts hg).1 _ _ h1) _ _ h2
theorem block_step {G d f : Nat} {ts : List Tok} (hf : f ≤ 1000000) (hg : Good Rl ts) (he : ∀ f', f' ≤ f → ∀ ts, Good Rl ts → ConS N G Rl 173 #[ptr G] d ts (pStmt rb f' d ts)) :
    ConS N G Rl 146 #[ptr G] d ts (pBlock rb (f + 1) d ts) := by
  have e : pBlock rb (f + 1) d ts = (Pa.want ts [[123]]).bind fun _ r => (pStmts rb f d [] r).bind fun ks r2 => .ok (.mk 1 [] ks [] 0 0 (Pa.hd ts).place) r2 := by rw [pBlock]
  cases h1 : Pa.want ts [[123]] with
  | out => exact absurd h1 want_no_out
  | bad p er => rw [e, h1]; exact conS_bad fun w hp => block_open hp hg h1
  | ok s r =>
    have g1 := (good_want hg (by decide) h1).1
    have e1 : pBlock rb (f + 1) d ts = (pStmts rb f d [] r).bind fun ks r2 => .ok (.mk 1 [] ks [] 0 0 (Pa.hd ts).place) r2 := by rw [e, h1]; rfl
    rw [e1]
    by_cases hX : pStmts rb f d [] r = .out
    · rw [hX]; exact conS_out
    · refine ⟨fun a r' h => ?_, fun _ w hp => block_loop hf hp hg g1 h1 he hX rfl⟩
      obtain ⟨ks, r2, h2, h3⟩ := bind_ok h
      cases h3
      exact stmts_good f he [] r g1 _ _ h2
theorem stmt_step {G d f : Nat} {ts : List Tok} (hg : Good Rl ts) (hx : ∀ ts, Good Rl ts → Con N G Rl 96 #[ptr G] (d + 1) ts (pExpr rb f (d + 1) ts))
    (hb : ∀ ts, Good Rl ts → ConS N G Rl 146 #[ptr G] (d + 1) ts (pBlock rb f (d + 1) ts))
    (hgu : ∀ (kind place : Nat) ts, Good Rl ts → ConW (GuOk N G (d + 1) kind place) N G Rl 196 #[ptr G, .int .i64 (kind : Int), .int .i64 (place : Int)] (d + 1) ts (pGuarded rb f kind place (d + 1) ts))
    (hst : ∀ ts, Good Rl ts → ConS N G Rl 173 #[ptr G] (d + 1) ts (pStmt rb f (d + 1) ts)) :
    ConS N G Rl 173 #[ptr G] d ts (pStmt rb (f + 1) d ts) := by
  by_cases hd : 40 ≤ d
  · have e : pStmt rb (f + 1) d ts = .bad (Pa.hd ts).place 12 := by rw [pStmt, if_pos hd]
    rw [e]
    obtain ⟨t, l, rfl⟩ := hg.ne
    exact conS_bad fun w hp => stmt_deep hp hd
  have hd' : d < 40 := by omega
  have e : pStmt rb (f + 1) d ts = if Pa.sees ts [[123]] then pBlock rb f (d + 1) ts
    else if Pa.sees ts types then pLocal rb f (d + 1) ts
    else if Pa.sees ts [kIf] then
      (pGuarded rb f 2 (Pa.hd ts).place (d + 1) ts.tail).bind fun g r =>
        if Pa.sees r [kElse] then (pStmt rb f (d + 1) r.tail).bind fun s2 r2 => .ok (.mk 2 [g.1] [g.2, s2] [] 0 0 (Pa.hd ts).place) r2
        else .ok (.mk 2 [g.1] [g.2] [] 0 0 (Pa.hd ts).place) r
    else if Pa.sees ts [kWhile] then (pGuarded rb f 3 (Pa.hd ts).place (d + 1) ts.tail).bind fun g r => .ok (.mk 3 [g.1] [g.2] [] 0 0 (Pa.hd ts).place) r
    else if Pa.sees ts [kReturn] then pSimple rb f 4 (Pa.hd ts).place (d + 1) ts.tail
    else if Pa.sees ts [kBreak] then (Pa.want ts.tail [[59]]).bind fun _ r => .ok (.mk 5 [] [] [] 0 0 (Pa.hd ts).place) r
    else if Pa.sees ts [kContinue] then (Pa.want ts.tail [[59]]).bind fun _ r => .ok (.mk 6 [] [] [] 0 0 (Pa.hd ts).place) r
    else pSimple rb f 7 (Pa.hd ts).place (d + 1) ts := by rw [pStmt, if_neg hd]
  have nf : ∀ {b : Bool}, b = false → ¬ (b = true) := fun h h2 => by rw [h] at h2; cases h2
  cases s0 : Pa.sees ts [[123]] with
  | true =>
    rw [e, if_pos s0]
    have cb := hb ts hg
    cases hq : pBlock rb f (d + 1) ts with
    | out => exact conS_out
    | bad p er => exact conS_bad fun w hp => stmt_block_bad hp hg hd' s0 (cb.at_bad hq)
    | ok x r => exact conS_ok (cb.at_ok hq).1 fun w hp => stmt_block hp hg hd' s0 (cb.at_ok hq).2
  | false =>
  rw [if_neg (nf s0)] at e
  cases s1 : Pa.sees ts types with
  | true =>
    rw [e, if_pos s1]
    have cb := local_step (f := f) hg hx
    cases hq : pLocal rb f (d + 1) ts with
    | out => exact conS_out
    | bad p er => exact conS_bad fun w hp => stmt_local_bad hp hg hd' s0 s1 (cb.at_bad hq)
    | ok x r => exact conS_ok (cb.at_ok hq).1 fun w hp => stmt_local hp hg hd' s0 s1 (cb.at_ok hq).2
  | false =>
  rw [if_neg (nf s1)] at e
  cases s2 : Pa.sees ts [kIf] with
  | true =>
    rw [if_pos s2] at e
    have gt : Good Rl ts.tail := good_behind hg (by decide) s2
    have cb := hgu 2 (Pa.hd ts).place ts.tail gt
    cases hq : pGuarded rb f 2 (Pa.hd ts).place (d + 1) ts.tail with
    | out => rw [e, hq]; exact conS_out
    | bad p er => rw [e, hq]; exact conS_bad fun w hp => stmt_if_bad hp hg hd' s0 s1 s2 (cb.at_bad hq)
    | ok xs r2 =>
      obtain ⟨x, s⟩ := xs
      obtain ⟨g2, c⟩ := cb.at_ok hq
      have e2 : pStmt rb (f + 1) d ts = if Pa.sees r2 [kElse] then (pStmt rb f (d + 1) r2.tail).bind fun s2 r2 => .ok (.mk 2 [x] [s, s2] [] 0 0 (Pa.hd ts).place) r2 else .ok (.mk 2 [x] [s] [] 0 0 (Pa.hd ts).place) r2 := by rw [e, hq]; rfl
      cases hE : Pa.sees r2 [kElse] with
      | false => rw [e2, if_neg (nf hE)]; exact conS_ok g2 fun w hp => stmt_if hp hg hd' s0 s1 s2 c g2 hE
      | true =>
        rw [if_pos hE] at e2
        have g3 : Good Rl r2.tail := good_behind g2 (by decide) hE
        have cs := hst r2.tail g3
        cases hq2 : pStmt rb f (d + 1) r2.tail with
        | out => rw [e2, hq2]; exact conS_out
        | bad p er => rw [e2, hq2]; exact conS_bad fun w hp => stmt_else_bad hp hg hd' s0 s1 s2 c g2 hE (cs.at_bad hq2)
        | ok y r4 => rw [e2, hq2]; exact conS_ok (cs.at_ok hq2).1 fun w hp => stmt_else hp hg hd' s0 s1 s2 c g2 hE (cs.at_ok hq2).2 (cs.at_ok hq2).1
  | false =>
  rw [if_neg (nf s2)] at e
  cases s3 : Pa.sees ts [kWhile] with
  | true =>
    rw [if_pos s3] at e
    have gt : Good Rl ts.tail := good_behind hg (by decide) s3
    have cb := hgu 3 (Pa.hd ts).place ts.tail gt
    cases hq : pGuarded rb f 3 (Pa.hd ts).place (d + 1) ts.tail with
    | out => rw [e, hq]; exact conS_out
    | bad p er => rw [e, hq]; exact conS_bad fun w hp => stmt_while_bad hp hg hd' s0 s1 s2 s3 (cb.at_bad hq)
    | ok xs r2 =>
      obtain ⟨x, s⟩ := xs
      rw [e, hq]
      exact conS_ok (cb.at_ok hq).1 fun w hp => stmt_while hp hg hd' s0 s1 s2 s3 (cb.at_ok hq).2
  | false =>
  rw [if_neg (nf s3)] at e
  cases s4 : Pa.sees ts [kReturn] with
  | true =>
    rw [e, if_pos s4]
    have gt : Good Rl ts.tail := good_behind hg (by decide) s4
    have cb := simple_step (f := f) (kind := 4) (place := (Pa.hd ts).place) gt hx
    cases hq : pSimple rb f 4 (Pa.hd ts).place (d + 1) ts.tail with
    | out => exact conS_out
    | bad p er => exact conS_bad fun w hp => stmt_return_bad hp hg hd' s0 s1 s2 s3 s4 (cb.at_bad hq)
    | ok x r => exact conS_ok (cb.at_ok hq).1 fun w hp => stmt_return hp hg hd' s0 s1 s2 s3 s4 (cb.at_ok hq).2
  | false =>
  rw [if_neg (nf s4)] at e
  cases s5 : Pa.sees ts [kBreak] with
  | true =>
    rw [if_pos s5] at e
    have gt : Good Rl ts.tail := good_behind hg (by decide) s5
    cases hw : Pa.want ts.tail [[59]] with
    | out => exact absurd hw want_no_out
    | bad p er => rw [e, hw]; exact conS_bad fun w hp => stmt_break_bad hp hg hd' s0 s1 s2 s3 s4 s5 hw
    | ok s r => rw [e, hw]; exact conS_ok (good_want gt (by decide) hw).1 fun w hp => stmt_break hp hg hd' s0 s1 s2 s3 s4 s5 hw
  | false =>
  rw [if_neg (nf s5)] at e
  cases s6 : Pa.sees ts [kContinue] with
  | true =>
    rw [if_pos s6] at e
    have gt : Good Rl ts.tail := good_behind hg (by decide) s6
    cases hw : Pa.want ts.tail [[59]] with
    | out => exact absurd hw want_no_out
    | bad p er => rw [e, hw]; exact conS_bad fun w hp => stmt_continue_bad hp hg hd' s0 s1 s2 s3 s4 s5 s6 hw
    | ok s r => rw [e, hw]; exact conS_ok (good_want gt (by decide) hw).1 fun w hp => stmt_continue hp hg hd' s0 s1 s2 s3 s4 s5 s6 hw
  | false =>
  rw [if_neg (nf s6)] at e
  rw [e]
  have cb := simple_step (f := f) (kind := 7) (place := (Pa.hd ts).place) hg hx
  cases hq : pSimple rb f 7 (Pa.hd ts).place (d + 1) ts with
  | out => exact conS_out
  | bad p er => exact conS_bad fun w hp => stmt_expr_bad hp hg hd' s0 s1 s2 s3 s4 s5 s6 (cb.at_bad hq)
  | ok x r => exact conS_ok (cb.at_ok hq).1 fun w hp => stmt_expr hp hg hd' s0 s1 s2 s3 s4 s5 s6 (cb.at_ok hq).2
/-- all of the statements' calls, at one fuel -/
structure AllS (N G : Nat) (Rl : Bs → Prop) (rb : Bs → Nat) (f : Nat) : Prop where
  stmt : ∀ d ts, Good Rl ts → ConS N G Rl 173 #[ptr G] d ts (pStmt rb f d ts)
  block : ∀ d ts, Good Rl ts → ConS N G Rl 146 #[ptr G] d ts (pBlock rb f d ts)
  guarded : ∀ (kind place : Nat) d ts, Good Rl ts → ConW (GuOk N G d kind place) N G Rl 196 #[ptr G, .int .i64 (kind : Int), .int .i64 (place : Int)] d ts (pGuarded rb f kind place d ts)
theorem allS {G : Nat} (hr : Reals N G Rl rb) : ∀ (f : Nat), f ≤ 1000000 → ∀ f', f' ≤ f → AllS N G Rl rb f'
  | 0, _, f', hf => by
    obtain rfl : f' = 0 := by omega
    refine ⟨fun d ts _ => ?_, fun d ts _ => ?_, fun kind place d ts _ => ?_⟩
    · rw [pStmt]; exact conS_out
    · rw [pBlock]; exact conS_out
    · rw [pGuarded]; exact conS_out
  | f + 1, hm, f', hf => by
    have ih := allS hr f (by omega)
    by_cases hf' : f' ≤ f
    · exact ih f' hf'
    obtain rfl : f' = f + 1 := by omega
    have hx : ∀ d ts, Good Rl ts → Con N G Rl 96 #[ptr G] d ts (pExpr rb f d ts) := fun d ts hg => (allX hr f f (Nat.le_refl _)).expr d ts hg
    have i0 := ih f (Nat.le_refl _)
    exact ⟨fun d ts hg => stmt_step hg (hx _) (i0.block _) (fun k p ts hg => i0.guarded k p _ ts hg) (i0.stmt _), fun d ts hg => block_step (by omega) hg fun f' h ts hg => (ih f' h).stmt d ts hg, fun k p d ts hg => guarded_step hg (hx d) (i0.stmt d)⟩
end PaC
end Go.Proofs.YtnlbhnmiekanfaaGreatDoor
