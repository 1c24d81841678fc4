/-
  ParDe ParDf, joined.
  Conditions: those that are written at each.
-/
import Derived.Test.YtnlbhnmiekanfaaGreatDoorPxI
import Derived.Deep.CutRange
/-
  The parser's declarations, each way through. Condition: what the parser holds lies in memory.
-/
namespace Go.Proofs.YtnlbhnmiekanfaaGreatDoor
open Go.RowKit Go.Deep
set_option linter.unusedVariables false
set_option linter.unusedSimpArgs false
namespace PaC
open Pa Lx
attribute [local go_sem] fld0 fld1 fld2
variable {N : Nat} {Rl : Bs → Prop} {rb : Bs → Nat}
/-- a declaration in memory, and what is left -/
def DeOk (N G d : Nat) (x : De) (r : List Tok) (w : World) (e : Ending) (w' : World) : Prop := ∃ c, e = .returned (.agg c.toArray) ∧ DeAt (New w.heap.size) w' x c ∧ PAt N w' G r d ∧ Keep G w w'
/-- behind the two words that may stand first -/
def DeC (N G d : Nat) (Rl : Bs → Prop) (w wx : World) (st ex : Bool) (r : List Tok) : Prop := OwnI N G d Rl TDe z17 w wx (w.heap.size + 1) r (de17 false st ex ⟨#[]⟩ 0 0 nilV false nilV 0 nilV nilV ⟨#[]⟩ 0 0 0 0)
/-- which words stand first, and what is left -/
def Pre (ts r : List Tok) (st ex : Bool) : Prop := (st = true ∧ ex = false ∧ Pa.sees ts [kStatic] = true ∧ r = ts.tail) ∨ (st = false ∧ Pa.sees ts [kStatic] = false ∧ Pa.sees ts [kExtern] = ex ∧ r = behindIf ts ex)
abbrev four (w : World) : World := w.alloc (.cells #[.string ⟨#[59]⟩, .string ⟨#[61]⟩, .string ⟨#[91]⟩, .string ⟨#[40]⟩] 9)
abbrev sl4 (w : World) : Value := .slice (some ⟨w.heap.size, 0, none⟩) 4 4
theorem fin_decl {Q : Ending → World → Prop} (cs : Array Value) (hsz : (Tryz.prog.info? TDe).map (·.size) = some cs.size) {tmps : Array Value} {B : Nat} {w : World} (old : Array Value)
    (hp : tmps.getD 2 undef = .pointer (some ⟨B, 0, none⟩)) (hg : w.heap[B]? = some (.cells old TDe (0, 0))) (hQ : Q (.returned (.agg cs)) (w.setRow B cs)) :
    bodyPost Tryz.prog Tryz.f65 Q .ret { tmps := tmps, defers := [] } (w.setRow B cs) :=
  bodyPost_ret (v := .agg cs) (results_cell_row Tryz.results65 tmps _ B TDe cs (0, 0) _ hp (setRow_heap _ _ _ _ _ _ hg) Tryz.underlying37 rfl hsz) rfl hQ
theorem good_pre {ts r : List Tok} {st ex : Bool} (hg : Good Rl ts) (h : Pre ts r st ex) : Good Rl r := by
  rcases h with ⟨-, -, h, rfl⟩ | ⟨-, -, h, rfl⟩
  · exact good_behind hg (by decide) h
  · exact good_behind hg (by decide) h
set_option maxRecDepth 100000 in
set_option maxHeartbeats 8000000 in
theorem decl_typed {w : World} {G d : Nat} {ts r : List Tok} {st ex : Bool} {p er : Nat} (h : PAt N w G ts d) (hgt : Good Rl ts) (hpre : Pre ts r st ex) (h1 : pType r = .bad p er) :
    Calls Tryz.prog 65 #[ptr G] w (BadPost G (p : Int) (er : Int) w) := by
  have hlt := h.base
  have hg := good_pre hgt hpre
  have HI0 := Lib.hid (OwnI.first (T := TDe) (z := z17) (c := z17) hlt hgt (h.below ((Below.refl _ _).alloc (Nat.le_refl _) _)) (Keep.refl G _))
  rw [World.size_alloc] at HI0
  have hb : Pa.sees ts [kStatic] = st := by rcases hpre with ⟨rfl, -, h, -⟩ | ⟨rfl, h, -⟩ <;> exact h
  have gb : Good Rl (behindIf ts st) := good_behind hgt (by decide) hb
  have k1 : ∀ W, PAt N W G ts d → Calls Tryz.prog 92 #[ptr G, sl1 W] (one W #[115, 116, 97, 116, 105, 99]) (OkPost N G d (.bool st) (behindIf ts st) W) := fun W hW => takesL [kStatic] 1 rfl (by decide) (by decide) hgt hb hW
  have k2 : st = false → ∀ W, PAt N W G ts d → Calls Tryz.prog 92 #[ptr G, sl1 W] (one W #[101, 120, 116, 101, 114, 110]) (OkPost N G d (.bool ex) (behindIf ts ex) W) := fun hst W hW => by
    have hx : Pa.sees ts [kExtern] = ex := by
      rcases hpre with ⟨h1, -⟩ | ⟨-, -, h, -⟩
      · rw [hst] at h1; cases h1
      · exact h
    exact takesL [kExtern] 1 rfl (by decide) (by decide) hgt hx hW
  have c0 : ∀ W, PAt N W G (r) d → Calls Tryz.prog 64 #[ptr G] W (OkPost N G d (tokV (Pa.hd r)) r W) := fun W hW => nextL hg hW
  have c1 : ∀ W, PAt N W G (r) d → Calls Tryz.prog 93 #[ptr G] W (BadPost G (p : Int) (er : Int) W) := fun W hW => by have := typedL hg hW; rw [h1] at this; exact this
  clear h
  go_enter Tryz.func65, Tryz.ntmps65
  go_upto_region 3 with (have k1' := k1 _ HI0.out.p; simp only [sl1, one, World.size_alloc] at k1'; (with_reducible refine k1'.mono ?_); rintro e w1 ⟨rfl, hp, hk⟩; have HI1 := Lib.hid (HI0.out.next hlt hp hk gb); have hf1 := HI1.out.frozen 1; have hc1 := HI1.out.cell (i := 1) rfl; have HJ1 := Lib.hid (HI1.out.set hlt 1 (.bool st) (c2 := (de17 false st false ⟨#[]⟩ 0 0 nilV false nilV 0 nilV nilV ⟨#[]⟩ 0 0 0 0)) rfl); clear hp hk k1 k1')
  go_cut [] from 8 to 16 (fun wx => DeC N G d Rl w wx st ex r)
  case first =>
    have hc2 := HJ1.out.cell (i := 1) (v := .bool st) rfl
    have hf2 := HJ1.out.frozen 2
    have hc3 := HJ1.out.cell (i := 2) rfl
    cases st with
    | true =>
      obtain ⟨rfl, rfl⟩ : ex = false ∧ r = ts.tail := by
        rcases hpre with ⟨-, h1, -, h2⟩ | ⟨h1, -⟩
        · exact ⟨h1, h2⟩
        · cases h1
      clear k2 hb
      go_wp2
      go_meet
      case rel => exact HJ1.out.set hlt 2 (.bool false) rfl
    | false =>
      have k3 := k2 rfl
      obtain rfl : r = behindIf ts ex := by
        rcases hpre with ⟨h1, -⟩ | ⟨-, -, -, h2⟩
        · cases h1
        · exact h2
      clear k2 hb
      go_wp2_with (first
        | (have k3' := k3 _ HJ1.out.p; simp only [sl1, one, World.size_setCell] at k3'; (with_reducible refine k3'.mono ?_); rintro e w2 ⟨rfl, hp, hk⟩; have HI2 := Lib.hid (HJ1.out.next hlt hp hk hg); have hf3 := HI2.out.frozen 2; have hc4 := HI2.out.cell (i := 2) rfl; have HJ2 := Lib.hid (HI2.out.set hlt 2 (.bool ex) (c2 := (de17 false false ex ⟨#[]⟩ 0 0 nilV false nilV 0 nilV nilV ⟨#[]⟩ 0 0 0 0)) rfl); clear hp hk k3 k3'))
      go_meet
      case rel => exact HJ2.out
  case rest =>
    have HC := Lib.hid (show OwnI N G d Rl TDe z17 w wc (w.heap.size + 1) r (de17 false st ex ⟨#[]⟩ 0 0 nilV false nilV 0 nilV nilV ⟨#[]⟩ 0 0 0 0) from hcut)
    clear hcut k2 HI0 HI1 HJ1 hf1 hc1 hb
    go_wp2_with (first
      | ((with_reducible refine (c0 _ HC.out.p).mono ?_); rintro e w1 ⟨rfl, hp, hk⟩; have HI1 := Lib.hid (HC.out.next hlt hp hk hg); have hf1 := HI1.out.frozen 16; have hc1 := HI1.out.cell (i := 16) rfl; have HJ1 := Lib.hid (HI1.out.set hlt 16 (.int .i64 ((Pa.hd r).place : Int)) (c2 := (de17 false st ex ⟨#[]⟩ 0 0 nilV false nilV 0 nilV nilV ⟨#[]⟩ 0 0 0 (Pa.hd r).place)) rfl); have HKs1 := Lib.hid hk; clear hp hk; clear c0)
      | (have c1' := c1 _ HJ1.out.p; (try simp only [sl1, one, sl4, four, slN, World.size_alloc, World.size_setCell, setRow_size] at c1'); (with_reducible refine c1'.mono ?_); rintro e w2 ⟨rfl, hp, hk⟩; have HW := Lib.hid hp; have HK := Lib.hid (HJ1.out.keep.trans hk); clear hp hk; clear c1 c1'))
    exact ⟨rfl, rfl, HW.out, HK.out⟩
set_option maxRecDepth 100000 in
set_option maxHeartbeats 8000000 in
theorem decl_name {w : World} {G d : Nat} {ts r : List Tok} {st ex : Bool} {r1 : List Tok} {a : Nat} {p er : Nat} (h : PAt N w G ts d) (hgt : Good Rl ts) (hpre : Pre ts r st ex) (h1 : pType r = .ok a r1) (g1 : Good Rl r1) (h2 : pName r1 = .bad p er) :
    Calls Tryz.prog 65 #[ptr G] w (BadPost G (p : Int) (er : Int) w) := by
  have hlt := h.base
  have hg := good_pre hgt hpre
  have HI0 := Lib.hid (OwnI.first (T := TDe) (z := z17) (c := z17) hlt hgt (h.below ((Below.refl _ _).alloc (Nat.le_refl _) _)) (Keep.refl G _))
  rw [World.size_alloc] at HI0
  have hb : Pa.sees ts [kStatic] = st := by rcases hpre with ⟨rfl, -, h, -⟩ | ⟨rfl, h, -⟩ <;> exact h
  have gb : Good Rl (behindIf ts st) := good_behind hgt (by decide) hb
  have k1 : ∀ W, PAt N W G ts d → Calls Tryz.prog 92 #[ptr G, sl1 W] (one W #[115, 116, 97, 116, 105, 99]) (OkPost N G d (.bool st) (behindIf ts st) W) := fun W hW => takesL [kStatic] 1 rfl (by decide) (by decide) hgt hb hW
  have k2 : st = false → ∀ W, PAt N W G ts d → Calls Tryz.prog 92 #[ptr G, sl1 W] (one W #[101, 120, 116, 101, 114, 110]) (OkPost N G d (.bool ex) (behindIf ts ex) W) := fun hst W hW => by
    have hx : Pa.sees ts [kExtern] = ex := by
      rcases hpre with ⟨h1, -⟩ | ⟨-, -, h, -⟩
      · rw [hst] at h1; cases h1
      · exact h
    exact takesL [kExtern] 1 rfl (by decide) (by decide) hgt hx hW
  have c0 : ∀ W, PAt N W G (r) d → Calls Tryz.prog 64 #[ptr G] W (OkPost N G d (tokV (Pa.hd r)) r W) := fun W hW => nextL hg hW
  have c1 : ∀ W, PAt N W G (r) d → Calls Tryz.prog 93 #[ptr G] W (OkPost N G d (.int .i64 (a : Int)) (r1) W) := fun W hW => by have := typedL hg hW; rw [h1] at this; exact this
  have c2 : ∀ W, PAt N W G (r1) d → Calls Tryz.prog 94 #[ptr G] W (BadPost G (p : Int) (er : Int) W) := fun W hW => by have := nameL g1 hW; rw [h2] at this; exact this
  clear h
  go_enter Tryz.func65, Tryz.ntmps65
  go_upto_region 3 with (have k1' := k1 _ HI0.out.p; simp only [sl1, one, World.size_alloc] at k1'; (with_reducible refine k1'.mono ?_); rintro e w1 ⟨rfl, hp, hk⟩; have HI1 := Lib.hid (HI0.out.next hlt hp hk gb); have hf1 := HI1.out.frozen 1; have hc1 := HI1.out.cell (i := 1) rfl; have HJ1 := Lib.hid (HI1.out.set hlt 1 (.bool st) (c2 := (de17 false st false ⟨#[]⟩ 0 0 nilV false nilV 0 nilV nilV ⟨#[]⟩ 0 0 0 0)) rfl); clear hp hk k1 k1')
  go_cut [] from 8 to 16 (fun wx => DeC N G d Rl w wx st ex r)
  case first =>
    have hc2 := HJ1.out.cell (i := 1) (v := .bool st) rfl
    have hf2 := HJ1.out.frozen 2
    have hc3 := HJ1.out.cell (i := 2) rfl
    cases st with
    | true =>
      obtain ⟨rfl, rfl⟩ : ex = false ∧ r = ts.tail := by
        rcases hpre with ⟨-, h1, -, h2⟩ | ⟨h1, -⟩
        · exact ⟨h1, h2⟩
        · cases h1
      clear k2 hb
      go_wp2
      go_meet
      case rel => exact HJ1.out.set hlt 2 (.bool false) rfl
    | false =>
      have k3 := k2 rfl
      obtain rfl : r = behindIf ts ex := by
        rcases hpre with ⟨h1, -⟩ | ⟨-, -, -, h2⟩
        · cases h1
        · exact h2
      clear k2 hb
      go_wp2_with (first
        | (have k3' := k3 _ HJ1.out.p; simp only [sl1, one, World.size_setCell] at k3'; (with_reducible refine k3'.mono ?_); rintro e w2 ⟨rfl, hp, hk⟩; have HI2 := Lib.hid (HJ1.out.next hlt hp hk hg); have hf3 := HI2.out.frozen 2; have hc4 := HI2.out.cell (i := 2) rfl; have HJ2 := Lib.hid (HI2.out.set hlt 2 (.bool ex) (c2 := (de17 false false ex ⟨#[]⟩ 0 0 nilV false nilV 0 nilV nilV ⟨#[]⟩ 0 0 0 0)) rfl); clear hp hk k3 k3'))
      go_meet
      case rel => exact HJ2.out
  case rest =>
    have HC := Lib.hid (show OwnI N G d Rl TDe z17 w wc (w.heap.size + 1) r (de17 false st ex ⟨#[]⟩ 0 0 nilV false nilV 0 nilV nilV ⟨#[]⟩ 0 0 0 0) from hcut)
    clear hcut k2 HI0 HI1 HJ1 hf1 hc1 hb
    go_wp2_with (first
      | ((with_reducible refine (c0 _ HC.out.p).mono ?_); rintro e w1 ⟨rfl, hp, hk⟩; have HI1 := Lib.hid (HC.out.next hlt hp hk hg); have hf1 := HI1.out.frozen 16; have hc1 := HI1.out.cell (i := 16) rfl; have HJ1 := Lib.hid (HI1.out.set hlt 16 (.int .i64 ((Pa.hd r).place : Int)) (c2 := (de17 false st ex ⟨#[]⟩ 0 0 nilV false nilV 0 nilV nilV ⟨#[]⟩ 0 0 0 (Pa.hd r).place)) rfl); have HKs1 := Lib.hid hk; clear hp hk; clear c0)
      | (have c1' := c1 _ HJ1.out.p; (try simp only [sl1, one, sl4, four, slN, World.size_alloc, World.size_setCell, setRow_size] at c1'); (with_reducible refine c1'.mono ?_); rintro e w2 ⟨rfl, hp, hk⟩; have HI2 := Lib.hid (HJ1.out.next hlt hp hk g1); have hf2 := HI2.out.frozen 4; have hc2 := HI2.out.cell (i := 4) rfl; have HJ2 := Lib.hid (HI2.out.set hlt 4 (.int .i64 (a : Int)) (c2 := (de17 false st ex ⟨#[]⟩ a 0 nilV false nilV 0 nilV nilV ⟨#[]⟩ 0 0 0 (Pa.hd r).place)) rfl); have HKs2 := Lib.hid hk; clear hp hk; clear c1 c1')
      | (have c2' := c2 _ HJ2.out.p; (try simp only [sl1, one, sl4, four, slN, World.size_alloc, World.size_setCell, setRow_size] at c2'); (with_reducible refine c2'.mono ?_); rintro e w3 ⟨rfl, hp, hk⟩; have HW := Lib.hid hp; have HK := Lib.hid (HJ2.out.keep.trans hk); clear hp hk; clear c2 c2'))
    exact ⟨rfl, rfl, HW.out, HK.out⟩
set_option maxRecDepth 100000 in
set_option maxHeartbeats 8000000 in
theorem decl_sign {w : World} {G d : Nat} {ts r : List Tok} {st ex : Bool} {r1 r2 : List Tok} {a : Nat} {nm : Bs} {p er : Nat} (h : PAt N w G ts d) (hgt : Good Rl ts) (hpre : Pre ts r st ex) (h1 : pType r = .ok a r1) (g1 : Good Rl r1) (h2 : pName r1 = .ok nm r2) (g2 : Good Rl r2) (h3 : Pa.want r2 [[59], [61], [91], [40]] = .bad p er) :
    Calls Tryz.prog 65 #[ptr G] w (BadPost G (p : Int) (er : Int) w) := by
  have hlt := h.base
  have hg := good_pre hgt hpre
  have HI0 := Lib.hid (OwnI.first (T := TDe) (z := z17) (c := z17) hlt hgt (h.below ((Below.refl _ _).alloc (Nat.le_refl _) _)) (Keep.refl G _))
  rw [World.size_alloc] at HI0
  have hb : Pa.sees ts [kStatic] = st := by rcases hpre with ⟨rfl, -, h, -⟩ | ⟨rfl, h, -⟩ <;> exact h
  have gb : Good Rl (behindIf ts st) := good_behind hgt (by decide) hb
  have k1 : ∀ W, PAt N W G ts d → Calls Tryz.prog 92 #[ptr G, sl1 W] (one W #[115, 116, 97, 116, 105, 99]) (OkPost N G d (.bool st) (behindIf ts st) W) := fun W hW => takesL [kStatic] 1 rfl (by decide) (by decide) hgt hb hW
  have k2 : st = false → ∀ W, PAt N W G ts d → Calls Tryz.prog 92 #[ptr G, sl1 W] (one W #[101, 120, 116, 101, 114, 110]) (OkPost N G d (.bool ex) (behindIf ts ex) W) := fun hst W hW => by
    have hx : Pa.sees ts [kExtern] = ex := by
      rcases hpre with ⟨h1, -⟩ | ⟨-, -, h, -⟩
      · rw [hst] at h1; cases h1
      · exact h
    exact takesL [kExtern] 1 rfl (by decide) (by decide) hgt hx hW
  have c0 : ∀ W, PAt N W G (r) d → Calls Tryz.prog 64 #[ptr G] W (OkPost N G d (tokV (Pa.hd r)) r W) := fun W hW => nextL hg hW
  have c1 : ∀ W, PAt N W G (r) d → Calls Tryz.prog 93 #[ptr G] W (OkPost N G d (.int .i64 (a : Int)) (r1) W) := fun W hW => by have := typedL hg hW; rw [h1] at this; exact this
  have c2 : ∀ W, PAt N W G (r1) d → Calls Tryz.prog 94 #[ptr G] W (OkPost N G d (.string ⟨nm.toArray⟩) (r2) W) := fun W hW => by have := nameL g1 hW; rw [h2] at this; exact this
  have c3 : ∀ W, PAt N W G (r2) d → Calls Tryz.prog 95 #[ptr G, sl4 W] (four W) (BadPost G (p : Int) (er : Int) W) := fun W hW => by have := wantL [[59], [61], [91], [40]] 4 rfl (by decide) (by decide) g2 hW; rw [h3] at this; exact this
  clear h
  go_enter Tryz.func65, Tryz.ntmps65
  go_upto_region 3 with (have k1' := k1 _ HI0.out.p; simp only [sl1, one, World.size_alloc] at k1'; (with_reducible refine k1'.mono ?_); rintro e w1 ⟨rfl, hp, hk⟩; have HI1 := Lib.hid (HI0.out.next hlt hp hk gb); have hf1 := HI1.out.frozen 1; have hc1 := HI1.out.cell (i := 1) rfl; have HJ1 := Lib.hid (HI1.out.set hlt 1 (.bool st) (c2 := (de17 false st false ⟨#[]⟩ 0 0 nilV false nilV 0 nilV nilV ⟨#[]⟩ 0 0 0 0)) rfl); clear hp hk k1 k1')
  go_cut [] from 8 to 16 (fun wx => DeC N G d Rl w wx st ex r)
  case first =>
    have hc2 := HJ1.out.cell (i := 1) (v := .bool st) rfl
    have hf2 := HJ1.out.frozen 2
    have hc3 := HJ1.out.cell (i := 2) rfl
    cases st with
    | true =>
      obtain ⟨rfl, rfl⟩ : ex = false ∧ r = ts.tail := by
        rcases hpre with ⟨-, h1, -, h2⟩ | ⟨h1, -⟩
        · exact ⟨h1, h2⟩
        · cases h1
      clear k2 hb
      go_wp2
      go_meet
      case rel => exact HJ1.out.set hlt 2 (.bool false) rfl
    | false =>
      have k3 := k2 rfl
      obtain rfl : r = behindIf ts ex := by
        rcases hpre with ⟨h1, -⟩ | ⟨-, -, -, h2⟩
        · cases h1
        · exact h2
      clear k2 hb
      go_wp2_with (first
        | (have k3' := k3 _ HJ1.out.p; simp only [sl1, one, World.size_setCell] at k3'; (with_reducible refine k3'.mono ?_); rintro e w2 ⟨rfl, hp, hk⟩; have HI2 := Lib.hid (HJ1.out.next hlt hp hk hg); have hf3 := HI2.out.frozen 2; have hc4 := HI2.out.cell (i := 2) rfl; have HJ2 := Lib.hid (HI2.out.set hlt 2 (.bool ex) (c2 := (de17 false false ex ⟨#[]⟩ 0 0 nilV false nilV 0 nilV nilV ⟨#[]⟩ 0 0 0 0)) rfl); clear hp hk k3 k3'))
      go_meet
      case rel => exact HJ2.out
  case rest =>
    have HC := Lib.hid (show OwnI N G d Rl TDe z17 w wc (w.heap.size + 1) r (de17 false st ex ⟨#[]⟩ 0 0 nilV false nilV 0 nilV nilV ⟨#[]⟩ 0 0 0 0) from hcut)
    clear hcut k2 HI0 HI1 HJ1 hf1 hc1 hb
    go_wp2_with (first
      | ((with_reducible refine (c0 _ HC.out.p).mono ?_); rintro e w1 ⟨rfl, hp, hk⟩; have HI1 := Lib.hid (HC.out.next hlt hp hk hg); have hf1 := HI1.out.frozen 16; have hc1 := HI1.out.cell (i := 16) rfl; have HJ1 := Lib.hid (HI1.out.set hlt 16 (.int .i64 ((Pa.hd r).place : Int)) (c2 := (de17 false st ex ⟨#[]⟩ 0 0 nilV false nilV 0 nilV nilV ⟨#[]⟩ 0 0 0 (Pa.hd r).place)) rfl); have HKs1 := Lib.hid hk; clear hp hk; clear c0)
      | (have c1' := c1 _ HJ1.out.p; (try simp only [sl1, one, sl4, four, slN, World.size_alloc, World.size_setCell, setRow_size] at c1'); (with_reducible refine c1'.mono ?_); rintro e w2 ⟨rfl, hp, hk⟩; have HI2 := Lib.hid (HJ1.out.next hlt hp hk g1); have hf2 := HI2.out.frozen 4; have hc2 := HI2.out.cell (i := 4) rfl; have HJ2 := Lib.hid (HI2.out.set hlt 4 (.int .i64 (a : Int)) (c2 := (de17 false st ex ⟨#[]⟩ a 0 nilV false nilV 0 nilV nilV ⟨#[]⟩ 0 0 0 (Pa.hd r).place)) rfl); have HKs2 := Lib.hid hk; clear hp hk; clear c1 c1')
      | (have c2' := c2 _ HJ2.out.p; (try simp only [sl1, one, sl4, four, slN, World.size_alloc, World.size_setCell, setRow_size] at c2'); (with_reducible refine c2'.mono ?_); rintro e w3 ⟨rfl, hp, hk⟩; have HI3 := Lib.hid (HJ2.out.next hlt hp hk g2); have hf3 := HI3.out.frozen 3; have hc3 := HI3.out.cell (i := 3) rfl; have HJ3 := Lib.hid (HI3.out.set hlt 3 (.string ⟨nm.toArray⟩) (c2 := (de17 false st ex ⟨nm.toArray⟩ a 0 nilV false nilV 0 nilV nilV ⟨#[]⟩ 0 0 0 (Pa.hd r).place)) rfl); have HKs3 := Lib.hid hk; clear hp hk; clear c2 c2')
      | (have c3' := c3 _ HJ3.out.p; (try simp only [sl1, one, sl4, four, slN, World.size_alloc, World.size_setCell, setRow_size] at c3'); (with_reducible refine c3'.mono ?_); rintro e w4 ⟨rfl, hp, hk⟩; have HW := Lib.hid hp; have HK := Lib.hid (HJ3.out.keep.trans hk); clear hp hk; clear c3 c3'))
    exact ⟨rfl, rfl, HW.out, HK.out⟩
set_option maxRecDepth 100000 in
set_option maxHeartbeats 8000000 in
theorem decl_plain {w : World} {G d : Nat} {ts r : List Tok} {st ex : Bool} {r1 r2 : List Tok} {a : Nat} {nm : Bs} {r3 : List Tok} (h : PAt N w G ts d) (hgt : Good Rl ts) (hpre : Pre ts r st ex) (h1 : pType r = .ok a r1) (g1 : Good Rl r1) (h2 : pName r1 = .ok nm r2) (g2 : Good Rl r2) (h3 : Pa.want r2 [[59], [61], [91], [40]] = .ok [59] r3) (g3 : Good Rl r3) :
    Calls Tryz.prog 65 #[ptr G] w (DeOk N G d ⟨false, st, ex, nm, a, 0, [], false, [], noSt, (Pa.hd r).place⟩ r3 w) := by
  have hlt := h.base
  have hg := good_pre hgt hpre
  have HI0 := Lib.hid (OwnI.first (T := TDe) (z := z17) (c := z17) hlt hgt (h.below ((Below.refl _ _).alloc (Nat.le_refl _) _)) (Keep.refl G _))
  rw [World.size_alloc] at HI0
  have hb : Pa.sees ts [kStatic] = st := by rcases hpre with ⟨rfl, -, h, -⟩ | ⟨rfl, h, -⟩ <;> exact h
  have gb : Good Rl (behindIf ts st) := good_behind hgt (by decide) hb
  have k1 : ∀ W, PAt N W G ts d → Calls Tryz.prog 92 #[ptr G, sl1 W] (one W #[115, 116, 97, 116, 105, 99]) (OkPost N G d (.bool st) (behindIf ts st) W) := fun W hW => takesL [kStatic] 1 rfl (by decide) (by decide) hgt hb hW
  have k2 : st = false → ∀ W, PAt N W G ts d → Calls Tryz.prog 92 #[ptr G, sl1 W] (one W #[101, 120, 116, 101, 114, 110]) (OkPost N G d (.bool ex) (behindIf ts ex) W) := fun hst W hW => by
    have hx : Pa.sees ts [kExtern] = ex := by
      rcases hpre with ⟨h1, -⟩ | ⟨-, -, h, -⟩
      · rw [hst] at h1; cases h1
      · exact h
    exact takesL [kExtern] 1 rfl (by decide) (by decide) hgt hx hW
  have c0 : ∀ W, PAt N W G (r) d → Calls Tryz.prog 64 #[ptr G] W (OkPost N G d (tokV (Pa.hd r)) r W) := fun W hW => nextL hg hW
  have c1 : ∀ W, PAt N W G (r) d → Calls Tryz.prog 93 #[ptr G] W (OkPost N G d (.int .i64 (a : Int)) (r1) W) := fun W hW => by have := typedL hg hW; rw [h1] at this; exact this
  have c2 : ∀ W, PAt N W G (r1) d → Calls Tryz.prog 94 #[ptr G] W (OkPost N G d (.string ⟨nm.toArray⟩) (r2) W) := fun W hW => by have := nameL g1 hW; rw [h2] at this; exact this
  have c3 : ∀ W, PAt N W G (r2) d → Calls Tryz.prog 95 #[ptr G, sl4 W] (four W) (OkPost N G d (.string ⟨#[59]⟩) r3 W) := fun W hW => by have := wantL [[59], [61], [91], [40]] 4 rfl (by decide) (by decide) g2 hW; rw [h3] at this; exact this
  clear h
  go_enter Tryz.func65, Tryz.ntmps65
  go_upto_region 3 with (have k1' := k1 _ HI0.out.p; simp only [sl1, one, World.size_alloc] at k1'; (with_reducible refine k1'.mono ?_); rintro e w1 ⟨rfl, hp, hk⟩; have HI1 := Lib.hid (HI0.out.next hlt hp hk gb); have hf1 := HI1.out.frozen 1; have hc1 := HI1.out.cell (i := 1) rfl; have HJ1 := Lib.hid (HI1.out.set hlt 1 (.bool st) (c2 := (de17 false st false ⟨#[]⟩ 0 0 nilV false nilV 0 nilV nilV ⟨#[]⟩ 0 0 0 0)) rfl); clear hp hk k1 k1')
  go_cut [] from 8 to 16 (fun wx => DeC N G d Rl w wx st ex r)
  case first =>
    have hc2 := HJ1.out.cell (i := 1) (v := .bool st) rfl
    have hf2 := HJ1.out.frozen 2
    have hc3 := HJ1.out.cell (i := 2) rfl
    cases st with
    | true =>
      obtain ⟨rfl, rfl⟩ : ex = false ∧ r = ts.tail := by
        rcases hpre with ⟨-, h1, -, h2⟩ | ⟨h1, -⟩
        · exact ⟨h1, h2⟩
        · cases h1
      clear k2 hb
      go_wp2
      go_meet
      case rel => exact HJ1.out.set hlt 2 (.bool false) rfl
    | false =>
      have k3 := k2 rfl
      obtain rfl : r = behindIf ts ex := by
        rcases hpre with ⟨h1, -⟩ | ⟨-, -, -, h2⟩
        · cases h1
        · exact h2
      clear k2 hb
      go_wp2_with (first
        | (have k3' := k3 _ HJ1.out.p; simp only [sl1, one, World.size_setCell] at k3'; (with_reducible refine k3'.mono ?_); rintro e w2 ⟨rfl, hp, hk⟩; have HI2 := Lib.hid (HJ1.out.next hlt hp hk hg); have hf3 := HI2.out.frozen 2; have hc4 := HI2.out.cell (i := 2) rfl; have HJ2 := Lib.hid (HI2.out.set hlt 2 (.bool ex) (c2 := (de17 false false ex ⟨#[]⟩ 0 0 nilV false nilV 0 nilV nilV ⟨#[]⟩ 0 0 0 0)) rfl); clear hp hk k3 k3'))
      go_meet
      case rel => exact HJ2.out
  case rest =>
    have HC := Lib.hid (show OwnI N G d Rl TDe z17 w wc (w.heap.size + 1) r (de17 false st ex ⟨#[]⟩ 0 0 nilV false nilV 0 nilV nilV ⟨#[]⟩ 0 0 0 0) from hcut)
    clear hcut k2 HI0 HI1 HJ1 hf1 hc1 hb
    go_wp2_with (first
      | ((with_reducible refine (c0 _ HC.out.p).mono ?_); rintro e w1 ⟨rfl, hp, hk⟩; have HI1 := Lib.hid (HC.out.next hlt hp hk hg); have hf1 := HI1.out.frozen 16; have hc1 := HI1.out.cell (i := 16) rfl; have HJ1 := Lib.hid (HI1.out.set hlt 16 (.int .i64 ((Pa.hd r).place : Int)) (c2 := (de17 false st ex ⟨#[]⟩ 0 0 nilV false nilV 0 nilV nilV ⟨#[]⟩ 0 0 0 (Pa.hd r).place)) rfl); have HKs1 := Lib.hid hk; clear hp hk; clear c0)
      | (have c1' := c1 _ HJ1.out.p; (try simp only [sl1, one, sl4, four, slN, World.size_alloc, World.size_setCell, setRow_size] at c1'); (with_reducible refine c1'.mono ?_); rintro e w2 ⟨rfl, hp, hk⟩; have HI2 := Lib.hid (HJ1.out.next hlt hp hk g1); have hf2 := HI2.out.frozen 4; have hc2 := HI2.out.cell (i := 4) rfl; have HJ2 := Lib.hid (HI2.out.set hlt 4 (.int .i64 (a : Int)) (c2 := (de17 false st ex ⟨#[]⟩ a 0 nilV false nilV 0 nilV nilV ⟨#[]⟩ 0 0 0 (Pa.hd r).place)) rfl); have HKs2 := Lib.hid hk; clear hp hk; clear c1 c1')
      | (have c2' := c2 _ HJ2.out.p; (try simp only [sl1, one, sl4, four, slN, World.size_alloc, World.size_setCell, setRow_size] at c2'); (with_reducible refine c2'.mono ?_); rintro e w3 ⟨rfl, hp, hk⟩; have HI3 := Lib.hid (HJ2.out.next hlt hp hk g2); have hf3 := HI3.out.frozen 3; have hc3 := HI3.out.cell (i := 3) rfl; have HJ3 := Lib.hid (HI3.out.set hlt 3 (.string ⟨nm.toArray⟩) (c2 := (de17 false st ex ⟨nm.toArray⟩ a 0 nilV false nilV 0 nilV nilV ⟨#[]⟩ 0 0 0 (Pa.hd r).place)) rfl); have HKs3 := Lib.hid hk; clear hp hk; clear c2 c2')
      | (have c3' := c3 _ HJ3.out.p; (try simp only [sl1, one, sl4, four, slN, World.size_alloc, World.size_setCell, setRow_size] at c3'); (with_reducible refine c3'.mono ?_); rintro e w4 ⟨rfl, hp, hk⟩; have HI4 := Lib.hid (HJ3.out.next hlt hp hk g3); have HKs4 := Lib.hid hk; clear hp hk; have hl4 := HI4.out.left; have hz4 := HI4.out.res; clear c3 c3')
      | ((with_reducible refine load17 rfl (.tmp 3) rfl (w.heap.size + 1) (de17 false st ex ⟨nm.toArray⟩ a 0 nilV false nilV 0 nilV nilV ⟨#[]⟩ 0 0 0 (Pa.hd r).place) (size17 _ _ _ _ _ _ _ _ _ _ _ _ _ _ _ _ _) ?xc hl4 ?_); (case xc => simp [go_sem]))
      | ((with_reducible refine store17 rfl (.tmp 2) (.tmp 55) rfl w.heap.size (de17 false st ex ⟨nm.toArray⟩ a 0 nilV false nilV 0 nilV nilV ⟨#[]⟩ 0 0 0 (Pa.hd r).place) (size17 _ _ _ _ _ _ _ _ _ _ _ _ _ _ _ _ _) (one17 _ _ _ _ _ _ _ _ _ _ _ _ _ _ _ _ _ _ _ _ _ _ _ _ _) rfl ?xa ?xb z17 rfl hz4 ?_); (case xa => simp [go_sem]); (case xb => simp [go_sem])))
    refine fin_decl _ (size17 _ _ _ _ _ _ _ _ _ _ _ _ _ _ _ _ _) _ (by simp) hz4 ⟨_, rfl, DeAt.mk ⟨false, st, ex, nm, a, 0, [], false, [], noSt, (Pa.hd r).place⟩ nilV nilV [.int .i64 0, nilV, nilV, .string ⟨#[]⟩, .int .i64 0, .int .i64 0, .int .i64 0] .nil .nil (.mk 0 [] [] [] 0 0 0 _ _ .nil .nil), HI4.out.p.row (by omega) _, HI4.out.keep.row (Nat.le_refl _) _⟩
set_option maxRecDepth 100000 in
set_option maxHeartbeats 8000000 in
theorem decl_eq_bad {w : World} {G d : Nat} {ts r : List Tok} {st ex : Bool} {r1 r2 : List Tok} {a : Nat} {nm : Bs} {r3 : List Tok} {p er : Nat} (h : PAt N w G ts d) (hgt : Good Rl ts) (hpre : Pre ts r st ex) (h1 : pType r = .ok a r1) (g1 : Good Rl r1) (h2 : pName r1 = .ok nm r2) (g2 : Good Rl r2) (h3 : Pa.want r2 [[59], [61], [91], [40]] = .ok [61] r3) (g3 : Good Rl r3) (cx : ∀ W, PAt N W G r3 d → Calls Tryz.prog 96 #[ptr G] W (BadPost G (p : Int) (er : Int) W)) :
    Calls Tryz.prog 65 #[ptr G] w (BadPost G (p : Int) (er : Int) w) := by
  have hlt := h.base
  have hg := good_pre hgt hpre
  have HI0 := Lib.hid (OwnI.first (T := TDe) (z := z17) (c := z17) hlt hgt (h.below ((Below.refl _ _).alloc (Nat.le_refl _) _)) (Keep.refl G _))
  rw [World.size_alloc] at HI0
  have hb : Pa.sees ts [kStatic] = st := by rcases hpre with ⟨rfl, -, h, -⟩ | ⟨rfl, h, -⟩ <;> exact h
  have gb : Good Rl (behindIf ts st) := good_behind hgt (by decide) hb
  have k1 : ∀ W, PAt N W G ts d → Calls Tryz.prog 92 #[ptr G, sl1 W] (one W #[115, 116, 97, 116, 105, 99]) (OkPost N G d (.bool st) (behindIf ts st) W) := fun W hW => takesL [kStatic] 1 rfl (by decide) (by decide) hgt hb hW
  have k2 : st = false → ∀ W, PAt N W G ts d → Calls Tryz.prog 92 #[ptr G, sl1 W] (one W #[101, 120, 116, 101, 114, 110]) (OkPost N G d (.bool ex) (behindIf ts ex) W) := fun hst W hW => by
    have hx : Pa.sees ts [kExtern] = ex := by
      rcases hpre with ⟨h1, -⟩ | ⟨-, -, h, -⟩
      · rw [hst] at h1; cases h1
      · exact h
    exact takesL [kExtern] 1 rfl (by decide) (by decide) hgt hx hW
  have c0 : ∀ W, PAt N W G (r) d → Calls Tryz.prog 64 #[ptr G] W (OkPost N G d (tokV (Pa.hd r)) r W) := fun W hW => nextL hg hW
  have c1 : ∀ W, PAt N W G (r) d → Calls Tryz.prog 93 #[ptr G] W (OkPost N G d (.int .i64 (a : Int)) (r1) W) := fun W hW => by have := typedL hg hW; rw [h1] at this; exact this
  have c2 : ∀ W, PAt N W G (r1) d → Calls Tryz.prog 94 #[ptr G] W (OkPost N G d (.string ⟨nm.toArray⟩) (r2) W) := fun W hW => by have := nameL g1 hW; rw [h2] at this; exact this
  have c3 : ∀ W, PAt N W G (r2) d → Calls Tryz.prog 95 #[ptr G, sl4 W] (four W) (OkPost N G d (.string ⟨#[61]⟩) r3 W) := fun W hW => by have := wantL [[59], [61], [91], [40]] 4 rfl (by decide) (by decide) g2 hW; rw [h3] at this; exact this
  clear h
  go_enter Tryz.func65, Tryz.ntmps65
  go_upto_region 3 with (have k1' := k1 _ HI0.out.p; simp only [sl1, one, World.size_alloc] at k1'; (with_reducible refine k1'.mono ?_); rintro e w1 ⟨rfl, hp, hk⟩; have HI1 := Lib.hid (HI0.out.next hlt hp hk gb); have hf1 := HI1.out.frozen 1; have hc1 := HI1.out.cell (i := 1) rfl; have HJ1 := Lib.hid (HI1.out.set hlt 1 (.bool st) (c2 := (de17 false st false ⟨#[]⟩ 0 0 nilV false nilV 0 nilV nilV ⟨#[]⟩ 0 0 0 0)) rfl); clear hp hk k1 k1')
  go_cut [] from 8 to 16 (fun wx => DeC N G d Rl w wx st ex r)
  case first =>
    have hc2 := HJ1.out.cell (i := 1) (v := .bool st) rfl
    have hf2 := HJ1.out.frozen 2
    have hc3 := HJ1.out.cell (i := 2) rfl
    cases st with
    | true =>
      obtain ⟨rfl, rfl⟩ : ex = false ∧ r = ts.tail := by
        rcases hpre with ⟨-, h1, -, h2⟩ | ⟨h1, -⟩
        · exact ⟨h1, h2⟩
        · cases h1
      clear k2 hb
      go_wp2
      go_meet
      case rel => exact HJ1.out.set hlt 2 (.bool false) rfl
    | false =>
      have k3 := k2 rfl
      obtain rfl : r = behindIf ts ex := by
        rcases hpre with ⟨h1, -⟩ | ⟨-, -, -, h2⟩
        · cases h1
        · exact h2
      clear k2 hb
      go_wp2_with (first
        | (have k3' := k3 _ HJ1.out.p; simp only [sl1, one, World.size_setCell] at k3'; (with_reducible refine k3'.mono ?_); rintro e w2 ⟨rfl, hp, hk⟩; have HI2 := Lib.hid (HJ1.out.next hlt hp hk hg); have hf3 := HI2.out.frozen 2; have hc4 := HI2.out.cell (i := 2) rfl; have HJ2 := Lib.hid (HI2.out.set hlt 2 (.bool ex) (c2 := (de17 false false ex ⟨#[]⟩ 0 0 nilV false nilV 0 nilV nilV ⟨#[]⟩ 0 0 0 0)) rfl); clear hp hk k3 k3'))
      go_meet
      case rel => exact HJ2.out
  case rest =>
    have HC := Lib.hid (show OwnI N G d Rl TDe z17 w wc (w.heap.size + 1) r (de17 false st ex ⟨#[]⟩ 0 0 nilV false nilV 0 nilV nilV ⟨#[]⟩ 0 0 0 0) from hcut)
    clear hcut k2 HI0 HI1 HJ1 hf1 hc1 hb
    go_wp2_with (first
      | ((with_reducible refine (c0 _ HC.out.p).mono ?_); rintro e w1 ⟨rfl, hp, hk⟩; have HI1 := Lib.hid (HC.out.next hlt hp hk hg); have hf1 := HI1.out.frozen 16; have hc1 := HI1.out.cell (i := 16) rfl; have HJ1 := Lib.hid (HI1.out.set hlt 16 (.int .i64 ((Pa.hd r).place : Int)) (c2 := (de17 false st ex ⟨#[]⟩ 0 0 nilV false nilV 0 nilV nilV ⟨#[]⟩ 0 0 0 (Pa.hd r).place)) rfl); have HKs1 := Lib.hid hk; clear hp hk; clear c0)
      | (have c1' := c1 _ HJ1.out.p; (try simp only [sl1, one, sl4, four, slN, World.size_alloc, World.size_setCell, setRow_size] at c1'); (with_reducible refine c1'.mono ?_); rintro e w2 ⟨rfl, hp, hk⟩; have HI2 := Lib.hid (HJ1.out.next hlt hp hk g1); have hf2 := HI2.out.frozen 4; have hc2 := HI2.out.cell (i := 4) rfl; have HJ2 := Lib.hid (HI2.out.set hlt 4 (.int .i64 (a : Int)) (c2 := (de17 false st ex ⟨#[]⟩ a 0 nilV false nilV 0 nilV nilV ⟨#[]⟩ 0 0 0 (Pa.hd r).place)) rfl); have HKs2 := Lib.hid hk; clear hp hk; clear c1 c1')
      | (have c2' := c2 _ HJ2.out.p; (try simp only [sl1, one, sl4, four, slN, World.size_alloc, World.size_setCell, setRow_size] at c2'); (with_reducible refine c2'.mono ?_); rintro e w3 ⟨rfl, hp, hk⟩; have HI3 := Lib.hid (HJ2.out.next hlt hp hk g2); have hf3 := HI3.out.frozen 3; have hc3 := HI3.out.cell (i := 3) rfl; have HJ3 := Lib.hid (HI3.out.set hlt 3 (.string ⟨nm.toArray⟩) (c2 := (de17 false st ex ⟨nm.toArray⟩ a 0 nilV false nilV 0 nilV nilV ⟨#[]⟩ 0 0 0 (Pa.hd r).place)) rfl); have HKs3 := Lib.hid hk; clear hp hk; clear c2 c2')
      | (have c3' := c3 _ HJ3.out.p; (try simp only [sl1, one, sl4, four, slN, World.size_alloc, World.size_setCell, setRow_size] at c3'); (with_reducible refine c3'.mono ?_); rintro e w4 ⟨rfl, hp, hk⟩; have HI4 := Lib.hid (HJ3.out.next hlt hp hk g3); have hf4 := HI4.out.frozen 7; have hc4 := HI4.out.cell (i := 7) rfl; have HJ4 := Lib.hid (HI4.out.set hlt 7 (.bool true) (c2 := (de17 false st ex ⟨nm.toArray⟩ a 0 nilV true nilV 0 nilV nilV ⟨#[]⟩ 0 0 0 (Pa.hd r).place)) rfl); have HKs4 := Lib.hid hk; clear hp hk; clear c3 c3')
      | (have cx' := cx _ HJ4.out.p; (try simp only [sl1, one, sl4, four, slN, World.size_alloc, World.size_setCell, setRow_size] at cx'); (with_reducible refine cx'.mono ?_); rintro e w5 ⟨rfl, hp, hk⟩; have HW := Lib.hid hp; have HK := Lib.hid (HJ4.out.keep.trans hk); clear hp hk; clear cx cx'))
    exact ⟨rfl, rfl, HW.out, HK.out⟩
set_option maxRecDepth 100000 in
set_option maxHeartbeats 8000000 in
theorem decl_eq_open {w : World} {G d : Nat} {ts r : List Tok} {st ex : Bool} {r1 r2 : List Tok} {a : Nat} {nm : Bs} {r3 : List Tok} {r4 : List Tok} {x : Ex} {p er : Nat} (h : PAt N w G ts d) (hgt : Good Rl ts) (hpre : Pre ts r st ex) (h1 : pType r = .ok a r1) (g1 : Good Rl r1) (h2 : pName r1 = .ok nm r2) (g2 : Good Rl r2) (h3 : Pa.want r2 [[59], [61], [91], [40]] = .ok [61] r3) (g3 : Good Rl r3) (cx : ∀ W, PAt N W G r3 d → Calls Tryz.prog 96 #[ptr G] W (ExOk N G d x r4 W)) (g4 : Good Rl r4) (hw : Pa.want r4 [[59]] = .bad p er) :
    Calls Tryz.prog 65 #[ptr G] w (BadPost G (p : Int) (er : Int) w) := by
  have hlt := h.base
  have hg := good_pre hgt hpre
  have HI0 := Lib.hid (OwnI.first (T := TDe) (z := z17) (c := z17) hlt hgt (h.below ((Below.refl _ _).alloc (Nat.le_refl _) _)) (Keep.refl G _))
  rw [World.size_alloc] at HI0
  have hb : Pa.sees ts [kStatic] = st := by rcases hpre with ⟨rfl, -, h, -⟩ | ⟨rfl, h, -⟩ <;> exact h
  have gb : Good Rl (behindIf ts st) := good_behind hgt (by decide) hb
  have k1 : ∀ W, PAt N W G ts d → Calls Tryz.prog 92 #[ptr G, sl1 W] (one W #[115, 116, 97, 116, 105, 99]) (OkPost N G d (.bool st) (behindIf ts st) W) := fun W hW => takesL [kStatic] 1 rfl (by decide) (by decide) hgt hb hW
  have k2 : st = false → ∀ W, PAt N W G ts d → Calls Tryz.prog 92 #[ptr G, sl1 W] (one W #[101, 120, 116, 101, 114, 110]) (OkPost N G d (.bool ex) (behindIf ts ex) W) := fun hst W hW => by
    have hx : Pa.sees ts [kExtern] = ex := by
      rcases hpre with ⟨h1, -⟩ | ⟨-, -, h, -⟩
      · rw [hst] at h1; cases h1
      · exact h
    exact takesL [kExtern] 1 rfl (by decide) (by decide) hgt hx hW
  have c0 : ∀ W, PAt N W G (r) d → Calls Tryz.prog 64 #[ptr G] W (OkPost N G d (tokV (Pa.hd r)) r W) := fun W hW => nextL hg hW
  have c1 : ∀ W, PAt N W G (r) d → Calls Tryz.prog 93 #[ptr G] W (OkPost N G d (.int .i64 (a : Int)) (r1) W) := fun W hW => by have := typedL hg hW; rw [h1] at this; exact this
  have c2 : ∀ W, PAt N W G (r1) d → Calls Tryz.prog 94 #[ptr G] W (OkPost N G d (.string ⟨nm.toArray⟩) (r2) W) := fun W hW => by have := nameL g1 hW; rw [h2] at this; exact this
  have c3 : ∀ W, PAt N W G (r2) d → Calls Tryz.prog 95 #[ptr G, sl4 W] (four W) (OkPost N G d (.string ⟨#[61]⟩) r3 W) := fun W hW => by have := wantL [[59], [61], [91], [40]] 4 rfl (by decide) (by decide) g2 hW; rw [h3] at this; exact this
  have c4 : ∀ W, PAt N W G (r4) d → Calls Tryz.prog 95 #[ptr G, sl1 W] (one W #[59]) (BadPost G (p : Int) (er : Int) W) := fun W hW => by have := wantL [[59]] 1 rfl (by decide) (by decide) g4 hW; rw [hw] at this; exact this
  clear h
  go_enter Tryz.func65, Tryz.ntmps65
  go_upto_region 3 with (have k1' := k1 _ HI0.out.p; simp only [sl1, one, World.size_alloc] at k1'; (with_reducible refine k1'.mono ?_); rintro e w1 ⟨rfl, hp, hk⟩; have HI1 := Lib.hid (HI0.out.next hlt hp hk gb); have hf1 := HI1.out.frozen 1; have hc1 := HI1.out.cell (i := 1) rfl; have HJ1 := Lib.hid (HI1.out.set hlt 1 (.bool st) (c2 := (de17 false st false ⟨#[]⟩ 0 0 nilV false nilV 0 nilV nilV ⟨#[]⟩ 0 0 0 0)) rfl); clear hp hk k1 k1')
  go_cut [] from 8 to 16 (fun wx => DeC N G d Rl w wx st ex r)
  case first =>
    have hc2 := HJ1.out.cell (i := 1) (v := .bool st) rfl
    have hf2 := HJ1.out.frozen 2
    have hc3 := HJ1.out.cell (i := 2) rfl
    cases st with
    | true =>
      obtain ⟨rfl, rfl⟩ : ex = false ∧ r = ts.tail := by
        rcases hpre with ⟨-, h1, -, h2⟩ | ⟨h1, -⟩
        · exact ⟨h1, h2⟩
        · cases h1
      clear k2 hb
      go_wp2
      go_meet
      case rel => exact HJ1.out.set hlt 2 (.bool false) rfl
    | false =>
      have k3 := k2 rfl
      obtain rfl : r = behindIf ts ex := by
        rcases hpre with ⟨h1, -⟩ | ⟨-, -, -, h2⟩
        · cases h1
        · exact h2
      clear k2 hb
      go_wp2_with (first
        | (have k3' := k3 _ HJ1.out.p; simp only [sl1, one, World.size_setCell] at k3'; (with_reducible refine k3'.mono ?_); rintro e w2 ⟨rfl, hp, hk⟩; have HI2 := Lib.hid (HJ1.out.next hlt hp hk hg); have hf3 := HI2.out.frozen 2; have hc4 := HI2.out.cell (i := 2) rfl; have HJ2 := Lib.hid (HI2.out.set hlt 2 (.bool ex) (c2 := (de17 false false ex ⟨#[]⟩ 0 0 nilV false nilV 0 nilV nilV ⟨#[]⟩ 0 0 0 0)) rfl); clear hp hk k3 k3'))
      go_meet
      case rel => exact HJ2.out
  case rest =>
    have HC := Lib.hid (show OwnI N G d Rl TDe z17 w wc (w.heap.size + 1) r (de17 false st ex ⟨#[]⟩ 0 0 nilV false nilV 0 nilV nilV ⟨#[]⟩ 0 0 0 0) from hcut)
    clear hcut k2 HI0 HI1 HJ1 hf1 hc1 hb
    go_wp2_with (first
      | ((with_reducible refine (c0 _ HC.out.p).mono ?_); rintro e w1 ⟨rfl, hp, hk⟩; have HI1 := Lib.hid (HC.out.next hlt hp hk hg); have hf1 := HI1.out.frozen 16; have hc1 := HI1.out.cell (i := 16) rfl; have HJ1 := Lib.hid (HI1.out.set hlt 16 (.int .i64 ((Pa.hd r).place : Int)) (c2 := (de17 false st ex ⟨#[]⟩ 0 0 nilV false nilV 0 nilV nilV ⟨#[]⟩ 0 0 0 (Pa.hd r).place)) rfl); have HKs1 := Lib.hid hk; clear hp hk; clear c0)
      | (have c1' := c1 _ HJ1.out.p; (try simp only [sl1, one, sl4, four, slN, World.size_alloc, World.size_setCell, setRow_size] at c1'); (with_reducible refine c1'.mono ?_); rintro e w2 ⟨rfl, hp, hk⟩; have HI2 := Lib.hid (HJ1.out.next hlt hp hk g1); have hf2 := HI2.out.frozen 4; have hc2 := HI2.out.cell (i := 4) rfl; have HJ2 := Lib.hid (HI2.out.set hlt 4 (.int .i64 (a : Int)) (c2 := (de17 false st ex ⟨#[]⟩ a 0 nilV false nilV 0 nilV nilV ⟨#[]⟩ 0 0 0 (Pa.hd r).place)) rfl); have HKs2 := Lib.hid hk; clear hp hk; clear c1 c1')
      | (have c2' := c2 _ HJ2.out.p; (try simp only [sl1, one, sl4, four, slN, World.size_alloc, World.size_setCell, setRow_size] at c2'); (with_reducible refine c2'.mono ?_); rintro e w3 ⟨rfl, hp, hk⟩; have HI3 := Lib.hid (HJ2.out.next hlt hp hk g2); have hf3 := HI3.out.frozen 3; have hc3 := HI3.out.cell (i := 3) rfl; have HJ3 := Lib.hid (HI3.out.set hlt 3 (.string ⟨nm.toArray⟩) (c2 := (de17 false st ex ⟨nm.toArray⟩ a 0 nilV false nilV 0 nilV nilV ⟨#[]⟩ 0 0 0 (Pa.hd r).place)) rfl); have HKs3 := Lib.hid hk; clear hp hk; clear c2 c2')
      | (have c3' := c3 _ HJ3.out.p; (try simp only [sl1, one, sl4, four, slN, World.size_alloc, World.size_setCell, setRow_size] at c3'); (with_reducible refine c3'.mono ?_); rintro e w4 ⟨rfl, hp, hk⟩; have HI4 := Lib.hid (HJ3.out.next hlt hp hk g3); have hf4 := HI4.out.frozen 7; have hc4 := HI4.out.cell (i := 7) rfl; have HJ4 := Lib.hid (HI4.out.set hlt 7 (.bool true) (c2 := (de17 false st ex ⟨nm.toArray⟩ a 0 nilV true nilV 0 nilV nilV ⟨#[]⟩ 0 0 0 (Pa.hd r).place)) rfl); have HKs4 := Lib.hid hk; clear hp hk; clear c3 c3')
      | (have cx' := cx _ HJ4.out.p; (try simp only [sl1, one, sl4, four, slN, World.size_alloc, World.size_setCell, setRow_size] at cx'); (with_reducible refine cx'.mono ?_); rintro e w5 ⟨c, rfl, hex, hp, hk⟩; obtain ⟨k1, op1, nm1, n1, b1, t1, p1, a1, l1, q1, e1, z1, -⟩ := hex.eight; rw [e1]; have HI5 := Lib.hid ((HJ4.out.next hlt hp hk g4).below ((Below.refl w5.heap.size w5).alloc (Nat.le_refl _) (.cells (ex8 k1 ⟨op1.toArray⟩ ⟨nm1.toArray⟩ n1 b1 (.slice a1 l1 q1) t1 p1) TE))); have HN := Lib.hid (heap_alloc_new w5 (.cells (ex8 k1 ⟨op1.toArray⟩ ⟨nm1.toArray⟩ n1 b1 (.slice a1 l1 q1) t1 p1) TE)); have HE := Lib.hid e1; have hf5 := HI5.out.frozen 6; have hc5 := HI5.out.cell (i := 6) rfl; have HJ5 := Lib.hid (HI5.out.set hlt 6 (.slice (some ⟨w5.heap.size, 0, none⟩) 1 1) (c2 := (de17 false st ex ⟨nm.toArray⟩ a 0 (.slice (some ⟨w5.heap.size, 0, none⟩) 1 1) true nilV 0 nilV nilV ⟨#[]⟩ 0 0 0 (Pa.hd r).place)) rfl); have HX := Lib.hid hex; have HS := Lib.hid (And.intro HJ4.out.keep.size (And.intro HJ4.out.lt (And.intro (Array.getElem?_eq_some_iff.1 HJ4.out.left).1 hk.size))); clear hp hk hex e1; clear cx cx')
      | (have c4' := c4 _ HJ5.out.p; (try simp only [sl1, one, sl4, four, slN, World.size_alloc, World.size_setCell, setRow_size] at c4'); (with_reducible refine c4'.mono ?_); rintro e w6 ⟨rfl, hp, hk⟩; have HW := Lib.hid hp; have HK := Lib.hid (HJ5.out.keep.trans hk); clear hp hk; clear c4 c4'))
    exact ⟨rfl, rfl, HW.out, HK.out⟩
set_option maxRecDepth 100000 in
set_option maxHeartbeats 8000000 in
theorem decl_eq {w : World} {G d : Nat} {ts r : List Tok} {st ex : Bool} {r1 r2 : List Tok} {a : Nat} {nm : Bs} {r3 : List Tok} {r4 r5 : List Tok} {x : Ex} {s : Bs} (h : PAt N w G ts d) (hgt : Good Rl ts) (hpre : Pre ts r st ex) (h1 : pType r = .ok a r1) (g1 : Good Rl r1) (h2 : pName r1 = .ok nm r2) (g2 : Good Rl r2) (h3 : Pa.want r2 [[59], [61], [91], [40]] = .ok [61] r3) (g3 : Good Rl r3) (cx : ∀ W, PAt N W G r3 d → Calls Tryz.prog 96 #[ptr G] W (ExOk N G d x r4 W)) (g4 : Good Rl r4) (hw : Pa.want r4 [[59]] = .ok s r5) (g5 : Good Rl r5) :
    Calls Tryz.prog 65 #[ptr G] w (DeOk N G d ⟨false, st, ex, nm, a, 0, [x], true, [], noSt, (Pa.hd r).place⟩ r5 w) := by
  have hlt := h.base
  have hg := good_pre hgt hpre
  have HI0 := Lib.hid (OwnI.first (T := TDe) (z := z17) (c := z17) hlt hgt (h.below ((Below.refl _ _).alloc (Nat.le_refl _) _)) (Keep.refl G _))
  rw [World.size_alloc] at HI0
  have hb : Pa.sees ts [kStatic] = st := by rcases hpre with ⟨rfl, -, h, -⟩ | ⟨rfl, h, -⟩ <;> exact h
  have gb : Good Rl (behindIf ts st) := good_behind hgt (by decide) hb
  have k1 : ∀ W, PAt N W G ts d → Calls Tryz.prog 92 #[ptr G, sl1 W] (one W #[115, 116, 97, 116, 105, 99]) (OkPost N G d (.bool st) (behindIf ts st) W) := fun W hW => takesL [kStatic] 1 rfl (by decide) (by decide) hgt hb hW
  have k2 : st = false → ∀ W, PAt N W G ts d → Calls Tryz.prog 92 #[ptr G, sl1 W] (one W #[101, 120, 116, 101, 114, 110]) (OkPost N G d (.bool ex) (behindIf ts ex) W) := fun hst W hW => by
    have hx : Pa.sees ts [kExtern] = ex := by
      rcases hpre with ⟨h1, -⟩ | ⟨-, -, h, -⟩
      · rw [hst] at h1; cases h1
      · exact h
    exact takesL [kExtern] 1 rfl (by decide) (by decide) hgt hx hW
  have c0 : ∀ W, PAt N W G (r) d → Calls Tryz.prog 64 #[ptr G] W (OkPost N G d (tokV (Pa.hd r)) r W) := fun W hW => nextL hg hW
  have c1 : ∀ W, PAt N W G (r) d → Calls Tryz.prog 93 #[ptr G] W (OkPost N G d (.int .i64 (a : Int)) (r1) W) := fun W hW => by have := typedL hg hW; rw [h1] at this; exact this
  have c2 : ∀ W, PAt N W G (r1) d → Calls Tryz.prog 94 #[ptr G] W (OkPost N G d (.string ⟨nm.toArray⟩) (r2) W) := fun W hW => by have := nameL g1 hW; rw [h2] at this; exact this
  have c3 : ∀ W, PAt N W G (r2) d → Calls Tryz.prog 95 #[ptr G, sl4 W] (four W) (OkPost N G d (.string ⟨#[61]⟩) r3 W) := fun W hW => by have := wantL [[59], [61], [91], [40]] 4 rfl (by decide) (by decide) g2 hW; rw [h3] at this; exact this
  have c4 : ∀ W, PAt N W G (r4) d → Calls Tryz.prog 95 #[ptr G, sl1 W] (one W #[59]) (OkPost N G d (.string ⟨s.toArray⟩) (r5) W) := fun W hW => by have := wantL [[59]] 1 rfl (by decide) (by decide) g4 hW; rw [hw] at this; exact this
  clear h
  go_enter Tryz.func65, Tryz.ntmps65
  go_upto_region 3 with (have k1' := k1 _ HI0.out.p; simp only [sl1, one, World.size_alloc] at k1'; (with_reducible refine k1'.mono ?_); rintro e w1 ⟨rfl, hp, hk⟩; have HI1 := Lib.hid (HI0.out.next hlt hp hk gb); have hf1 := HI1.out.frozen 1; have hc1 := HI1.out.cell (i := 1) rfl; have HJ1 := Lib.hid (HI1.out.set hlt 1 (.bool st) (c2 := (de17 false st false ⟨#[]⟩ 0 0 nilV false nilV 0 nilV nilV ⟨#[]⟩ 0 0 0 0)) rfl); clear hp hk k1 k1')
  go_cut [] from 8 to 16 (fun wx => DeC N G d Rl w wx st ex r)
  case first =>
    have hc2 := HJ1.out.cell (i := 1) (v := .bool st) rfl
    have hf2 := HJ1.out.frozen 2
    have hc3 := HJ1.out.cell (i := 2) rfl
    cases st with
    | true =>
      obtain ⟨rfl, rfl⟩ : ex = false ∧ r = ts.tail := by
        rcases hpre with ⟨-, h1, -, h2⟩ | ⟨h1, -⟩
        · exact ⟨h1, h2⟩
        · cases h1
      clear k2 hb
      go_wp2
      go_meet
      case rel => exact HJ1.out.set hlt 2 (.bool false) rfl
    | false =>
      have k3 := k2 rfl
      obtain rfl : r = behindIf ts ex := by
        rcases hpre with ⟨h1, -⟩ | ⟨-, -, -, h2⟩
        · cases h1
        · exact h2
      clear k2 hb
      go_wp2_with (first
        | (have k3' := k3 _ HJ1.out.p; simp only [sl1, one, World.size_setCell] at k3'; (with_reducible refine k3'.mono ?_); rintro e w2 ⟨rfl, hp, hk⟩; have HI2 := Lib.hid (HJ1.out.next hlt hp hk hg); have hf3 := HI2.out.frozen 2; have hc4 := HI2.out.cell (i := 2) rfl; have HJ2 := Lib.hid (HI2.out.set hlt 2 (.bool ex) (c2 := (de17 false false ex ⟨#[]⟩ 0 0 nilV false nilV 0 nilV nilV ⟨#[]⟩ 0 0 0 0)) rfl); clear hp hk k3 k3'))
      go_meet
      case rel => exact HJ2.out
  case rest =>
    have HC := Lib.hid (show OwnI N G d Rl TDe z17 w wc (w.heap.size + 1) r (de17 false st ex ⟨#[]⟩ 0 0 nilV false nilV 0 nilV nilV ⟨#[]⟩ 0 0 0 0) from hcut)
    clear hcut k2 HI0 HI1 HJ1 hf1 hc1 hb
    go_wp2_with (first
      | ((with_reducible refine (c0 _ HC.out.p).mono ?_); rintro e w1 ⟨rfl, hp, hk⟩; have HI1 := Lib.hid (HC.out.next hlt hp hk hg); have hf1 := HI1.out.frozen 16; have hc1 := HI1.out.cell (i := 16) rfl; have HJ1 := Lib.hid (HI1.out.set hlt 16 (.int .i64 ((Pa.hd r).place : Int)) (c2 := (de17 false st ex ⟨#[]⟩ 0 0 nilV false nilV 0 nilV nilV ⟨#[]⟩ 0 0 0 (Pa.hd r).place)) rfl); have HKs1 := Lib.hid hk; clear hp hk; clear c0)
      | (have c1' := c1 _ HJ1.out.p; (try simp only [sl1, one, sl4, four, slN, World.size_alloc, World.size_setCell, setRow_size] at c1'); (with_reducible refine c1'.mono ?_); rintro e w2 ⟨rfl, hp, hk⟩; have HI2 := Lib.hid (HJ1.out.next hlt hp hk g1); have hf2 := HI2.out.frozen 4; have hc2 := HI2.out.cell (i := 4) rfl; have HJ2 := Lib.hid (HI2.out.set hlt 4 (.int .i64 (a : Int)) (c2 := (de17 false st ex ⟨#[]⟩ a 0 nilV false nilV 0 nilV nilV ⟨#[]⟩ 0 0 0 (Pa.hd r).place)) rfl); have HKs2 := Lib.hid hk; clear hp hk; clear c1 c1')
      | (have c2' := c2 _ HJ2.out.p; (try simp only [sl1, one, sl4, four, slN, World.size_alloc, World.size_setCell, setRow_size] at c2'); (with_reducible refine c2'.mono ?_); rintro e w3 ⟨rfl, hp, hk⟩; have HI3 := Lib.hid (HJ2.out.next hlt hp hk g2); have hf3 := HI3.out.frozen 3; have hc3 := HI3.out.cell (i := 3) rfl; have HJ3 := Lib.hid (HI3.out.set hlt 3 (.string ⟨nm.toArray⟩) (c2 := (de17 false st ex ⟨nm.toArray⟩ a 0 nilV false nilV 0 nilV nilV ⟨#[]⟩ 0 0 0 (Pa.hd r).place)) rfl); have HKs3 := Lib.hid hk; clear hp hk; clear c2 c2')
      | (have c3' := c3 _ HJ3.out.p; (try simp only [sl1, one, sl4, four, slN, World.size_alloc, World.size_setCell, setRow_size] at c3'); (with_reducible refine c3'.mono ?_); rintro e w4 ⟨rfl, hp, hk⟩; have HI4 := Lib.hid (HJ3.out.next hlt hp hk g3); have hf4 := HI4.out.frozen 7; have hc4 := HI4.out.cell (i := 7) rfl; have HJ4 := Lib.hid (HI4.out.set hlt 7 (.bool true) (c2 := (de17 false st ex ⟨nm.toArray⟩ a 0 nilV true nilV 0 nilV nilV ⟨#[]⟩ 0 0 0 (Pa.hd r).place)) rfl); have HKs4 := Lib.hid hk; clear hp hk; clear c3 c3')
      | (have cx' := cx _ HJ4.out.p; (try simp only [sl1, one, sl4, four, slN, World.size_alloc, World.size_setCell, setRow_size] at cx'); (with_reducible refine cx'.mono ?_); rintro e w5 ⟨c, rfl, hex, hp, hk⟩; obtain ⟨k1, op1, nm1, n1, b1, t1, p1, a1, l1, q1, e1, z1, -⟩ := hex.eight; rw [e1]; have HI5 := Lib.hid ((HJ4.out.next hlt hp hk g4).below ((Below.refl w5.heap.size w5).alloc (Nat.le_refl _) (.cells (ex8 k1 ⟨op1.toArray⟩ ⟨nm1.toArray⟩ n1 b1 (.slice a1 l1 q1) t1 p1) TE))); have HN := Lib.hid (heap_alloc_new w5 (.cells (ex8 k1 ⟨op1.toArray⟩ ⟨nm1.toArray⟩ n1 b1 (.slice a1 l1 q1) t1 p1) TE)); have HE := Lib.hid e1; have hf5 := HI5.out.frozen 6; have hc5 := HI5.out.cell (i := 6) rfl; have HJ5 := Lib.hid (HI5.out.set hlt 6 (.slice (some ⟨w5.heap.size, 0, none⟩) 1 1) (c2 := (de17 false st ex ⟨nm.toArray⟩ a 0 (.slice (some ⟨w5.heap.size, 0, none⟩) 1 1) true nilV 0 nilV nilV ⟨#[]⟩ 0 0 0 (Pa.hd r).place)) rfl); have HX := Lib.hid hex; have HS := Lib.hid (And.intro HJ4.out.keep.size (And.intro HJ4.out.lt (And.intro (Array.getElem?_eq_some_iff.1 HJ4.out.left).1 hk.size))); clear hp hk hex e1; clear cx cx')
      | (have c4' := c4 _ HJ5.out.p; (try simp only [sl1, one, sl4, four, slN, World.size_alloc, World.size_setCell, setRow_size] at c4'); (with_reducible refine c4'.mono ?_); rintro e w6 ⟨rfl, hp, hk⟩; have HI6 := Lib.hid (HJ5.out.next hlt hp hk g5); have HKs6 := Lib.hid hk; clear hp hk; have hl6 := HI6.out.left; have hz6 := HI6.out.res; clear c4 c4')
      | ((with_reducible refine load17 rfl (.tmp 3) rfl (w.heap.size + 1) (de17 false st ex ⟨nm.toArray⟩ a 0 (.slice (some ⟨w5.heap.size, 0, none⟩) 1 1) true nilV 0 nilV nilV ⟨#[]⟩ 0 0 0 (Pa.hd r).place) (size17 _ _ _ _ _ _ _ _ _ _ _ _ _ _ _ _ _) ?xc hl6 ?_); (case xc => simp [go_sem]))
      | ((with_reducible refine store17 rfl (.tmp 2) (.tmp 55) rfl w.heap.size (de17 false st ex ⟨nm.toArray⟩ a 0 (.slice (some ⟨w5.heap.size, 0, none⟩) 1 1) true nilV 0 nilV nilV ⟨#[]⟩ 0 0 0 (Pa.hd r).place) (size17 _ _ _ _ _ _ _ _ _ _ _ _ _ _ _ _ _) (one17 _ _ _ _ _ _ _ _ _ _ _ _ _ _ _ _ _ _ _ _ _ _ _ _ _) rfl ?xa ?xb z17 rfl hz6 ?_); (case xa => simp [go_sem]); (case xb => simp [go_sem])))
    refine fin_decl _ (size17 _ _ _ _ _ _ _ _ _ _ _ _ _ _ _ _ _) _ (by simp) hz6 ⟨_, rfl, DeAt.mk ⟨false, st, ex, nm, a, 0, [x], true, [], noSt, (Pa.hd r).place⟩ _ nilV [.int .i64 0, nilV, nilV, .string ⟨#[]⟩, .int .i64 0, .int .i64 0, .int .i64 0] ?_ .nil (.mk 0 [] [] [] 0 0 0 _ _ .nil .nil), HI6.out.p.row (by omega) _, HI6.out.keep.row (Nat.le_refl _) _⟩
    obtain ⟨s1, s2, s3, s4⟩ := HS.out
    have hgb : (w.heap.size + 1) ≠ w5.heap.size := by omega
    have HKm : Hid (Keep G (w5.alloc (.cells (ex8 k1 ⟨op1.toArray⟩ ⟨nm1.toArray⟩ n1 b1 (.slice a1 l1 q1) t1 p1) TE) |>.setCell ⟨(w.heap.size + 1), 6, none⟩ (.slice (some ⟨w5.heap.size, 0, none⟩) 1 1)) w6) := HKs6
    have hN : w6.heap[w5.heap.size]? = some (.cells c.toArray TE (0, 0)) := by
      rw [HE.out]
      refine HKm.out.at (by omega) ?_
      rw [Below.heap_setCell _ _ _ _ (by show w5.heap.size ≠ (w.heap.size + 1); omega)]
      exact HN.out
    have hsm : Same (New ((w.heap.size + 1) + 1)) w5 (w6.setRow w.heap.size (de17 false st ex ⟨nm.toArray⟩ a 0 (.slice (some ⟨w5.heap.size, 0, none⟩) 1 1) true nilV 0 nilV nilV ⟨#[]⟩ 0 0 0 (Pa.hd r).place)) := by
      refine ⟨by rw [setRow_size]; have := HKm.out.size; simp [World.setCell] at this; omega, fun b hb hl => ?_⟩
      have hb' : (w.heap.size + 1) + 1 ≤ b := hb
      rw [setRow_other _ _ _ _ (by omega), HKm.out.block b (by simp [World.setCell]; omega) (by omega), Below.heap_setCell _ _ _ _ (by show b ≠ (w.heap.size + 1); omega)]
      exact Lib.alloc_old _ _ _ hl
    refine ks_one (HX.out.mono ⟨Nat.le_refl _, fun _ _ _ => rfl⟩ fun b hb => ?_) hsm (New.le (by omega)) ?_ ?_
    · exact Nat.le_trans (by omega) hb
    · show w.heap.size ≤ w5.heap.size; omega
    · rw [setRow_other _ _ _ _ (by omega)]; exact hN
set_option maxRecDepth 100000 in
set_option maxHeartbeats 8000000 in
theorem decl_len {w : World} {G d : Nat} {ts r : List Tok} {st ex : Bool} {r1 r2 : List Tok} {a : Nat} {nm : Bs} {r3 : List Tok} {p er : Nat} (h : PAt N w G ts d) (hgt : Good Rl ts) (hpre : Pre ts r st ex) (h1 : pType r = .ok a r1) (g1 : Good Rl r1) (h2 : pName r1 = .ok nm r2) (g2 : Good Rl r2) (h3 : Pa.want r2 [[59], [61], [91], [40]] = .ok [91] r3) (g3 : Good Rl r3) (h4 : pLength r3 = .bad p er) :
    Calls Tryz.prog 65 #[ptr G] w (BadPost G (p : Int) (er : Int) w) := by
  have hlt := h.base
  have hg := good_pre hgt hpre
  have HI0 := Lib.hid (OwnI.first (T := TDe) (z := z17) (c := z17) hlt hgt (h.below ((Below.refl _ _).alloc (Nat.le_refl _) _)) (Keep.refl G _))
  rw [World.size_alloc] at HI0
  have hb : Pa.sees ts [kStatic] = st := by rcases hpre with ⟨rfl, -, h, -⟩ | ⟨rfl, h, -⟩ <;> exact h
  have gb : Good Rl (behindIf ts st) := good_behind hgt (by decide) hb
  have k1 : ∀ W, PAt N W G ts d → Calls Tryz.prog 92 #[ptr G, sl1 W] (one W #[115, 116, 97, 116, 105, 99]) (OkPost N G d (.bool st) (behindIf ts st) W) := fun W hW => takesL [kStatic] 1 rfl (by decide) (by decide) hgt hb hW
  have k2 : st = false → ∀ W, PAt N W G ts d → Calls Tryz.prog 92 #[ptr G, sl1 W] (one W #[101, 120, 116, 101, 114, 110]) (OkPost N G d (.bool ex) (behindIf ts ex) W) := fun hst W hW => by
    have hx : Pa.sees ts [kExtern] = ex := by
      rcases hpre with ⟨h1, -⟩ | ⟨-, -, h, -⟩
      · rw [hst] at h1; cases h1
      · exact h
    exact takesL [kExtern] 1 rfl (by decide) (by decide) hgt hx hW
  have c0 : ∀ W, PAt N W G (r) d → Calls Tryz.prog 64 #[ptr G] W (OkPost N G d (tokV (Pa.hd r)) r W) := fun W hW => nextL hg hW
  have c1 : ∀ W, PAt N W G (r) d → Calls Tryz.prog 93 #[ptr G] W (OkPost N G d (.int .i64 (a : Int)) (r1) W) := fun W hW => by have := typedL hg hW; rw [h1] at this; exact this
  have c2 : ∀ W, PAt N W G (r1) d → Calls Tryz.prog 94 #[ptr G] W (OkPost N G d (.string ⟨nm.toArray⟩) (r2) W) := fun W hW => by have := nameL g1 hW; rw [h2] at this; exact this
  have c3 : ∀ W, PAt N W G (r2) d → Calls Tryz.prog 95 #[ptr G, sl4 W] (four W) (OkPost N G d (.string ⟨#[91]⟩) r3 W) := fun W hW => by have := wantL [[59], [61], [91], [40]] 4 rfl (by decide) (by decide) g2 hW; rw [h3] at this; exact this
  have c4 : ∀ W, PAt N W G (r3) d → Calls Tryz.prog 97 #[ptr G] W (BadPost G (p : Int) (er : Int) W) := fun W hW => by have := lengthL g3 hW; rw [h4] at this; exact this
  clear h
  go_enter Tryz.func65, Tryz.ntmps65
  go_upto_region 3 with (have k1' := k1 _ HI0.out.p; simp only [sl1, one, World.size_alloc] at k1'; (with_reducible refine k1'.mono ?_); rintro e w1 ⟨rfl, hp, hk⟩; have HI1 := Lib.hid (HI0.out.next hlt hp hk gb); have hf1 := HI1.out.frozen 1; have hc1 := HI1.out.cell (i := 1) rfl; have HJ1 := Lib.hid (HI1.out.set hlt 1 (.bool st) (c2 := (de17 false st false ⟨#[]⟩ 0 0 nilV false nilV 0 nilV nilV ⟨#[]⟩ 0 0 0 0)) rfl); clear hp hk k1 k1')
  go_cut [] from 8 to 16 (fun wx => DeC N G d Rl w wx st ex r)
  case first =>
    have hc2 := HJ1.out.cell (i := 1) (v := .bool st) rfl
    have hf2 := HJ1.out.frozen 2
    have hc3 := HJ1.out.cell (i := 2) rfl
    cases st with
    | true =>
      obtain ⟨rfl, rfl⟩ : ex = false ∧ r = ts.tail := by
        rcases hpre with ⟨-, h1, -, h2⟩ | ⟨h1, -⟩
        · exact ⟨h1, h2⟩
        · cases h1
      clear k2 hb
      go_wp2
      go_meet
      case rel => exact HJ1.out.set hlt 2 (.bool false) rfl
    | false =>
      have k3 := k2 rfl
      obtain rfl : r = behindIf ts ex := by
        rcases hpre with ⟨h1, -⟩ | ⟨-, -, -, h2⟩
        · cases h1
        · exact h2
      clear k2 hb
      go_wp2_with (first
        | (have k3' := k3 _ HJ1.out.p; simp only [sl1, one, World.size_setCell] at k3'; (with_reducible refine k3'.mono ?_); rintro e w2 ⟨rfl, hp, hk⟩; have HI2 := Lib.hid (HJ1.out.next hlt hp hk hg); have hf3 := HI2.out.frozen 2; have hc4 := HI2.out.cell (i := 2) rfl; have HJ2 := Lib.hid (HI2.out.set hlt 2 (.bool ex) (c2 := (de17 false false ex ⟨#[]⟩ 0 0 nilV false nilV 0 nilV nilV ⟨#[]⟩ 0 0 0 0)) rfl); clear hp hk k3 k3'))
      go_meet
      case rel => exact HJ2.out
  case rest =>
    have HC := Lib.hid (show OwnI N G d Rl TDe z17 w wc (w.heap.size + 1) r (de17 false st ex ⟨#[]⟩ 0 0 nilV false nilV 0 nilV nilV ⟨#[]⟩ 0 0 0 0) from hcut)
    clear hcut k2 HI0 HI1 HJ1 hf1 hc1 hb
    go_wp2_with (first
      | ((with_reducible refine (c0 _ HC.out.p).mono ?_); rintro e w1 ⟨rfl, hp, hk⟩; have HI1 := Lib.hid (HC.out.next hlt hp hk hg); have hf1 := HI1.out.frozen 16; have hc1 := HI1.out.cell (i := 16) rfl; have HJ1 := Lib.hid (HI1.out.set hlt 16 (.int .i64 ((Pa.hd r).place : Int)) (c2 := (de17 false st ex ⟨#[]⟩ 0 0 nilV false nilV 0 nilV nilV ⟨#[]⟩ 0 0 0 (Pa.hd r).place)) rfl); have HKs1 := Lib.hid hk; clear hp hk; clear c0)
      | (have c1' := c1 _ HJ1.out.p; (try simp only [sl1, one, sl4, four, slN, World.size_alloc, World.size_setCell, setRow_size] at c1'); (with_reducible refine c1'.mono ?_); rintro e w2 ⟨rfl, hp, hk⟩; have HI2 := Lib.hid (HJ1.out.next hlt hp hk g1); have hf2 := HI2.out.frozen 4; have hc2 := HI2.out.cell (i := 4) rfl; have HJ2 := Lib.hid (HI2.out.set hlt 4 (.int .i64 (a : Int)) (c2 := (de17 false st ex ⟨#[]⟩ a 0 nilV false nilV 0 nilV nilV ⟨#[]⟩ 0 0 0 (Pa.hd r).place)) rfl); have HKs2 := Lib.hid hk; clear hp hk; clear c1 c1')
      | (have c2' := c2 _ HJ2.out.p; (try simp only [sl1, one, sl4, four, slN, World.size_alloc, World.size_setCell, setRow_size] at c2'); (with_reducible refine c2'.mono ?_); rintro e w3 ⟨rfl, hp, hk⟩; have HI3 := Lib.hid (HJ2.out.next hlt hp hk g2); have hf3 := HI3.out.frozen 3; have hc3 := HI3.out.cell (i := 3) rfl; have HJ3 := Lib.hid (HI3.out.set hlt 3 (.string ⟨nm.toArray⟩) (c2 := (de17 false st ex ⟨nm.toArray⟩ a 0 nilV false nilV 0 nilV nilV ⟨#[]⟩ 0 0 0 (Pa.hd r).place)) rfl); have HKs3 := Lib.hid hk; clear hp hk; clear c2 c2')
      | (have c3' := c3 _ HJ3.out.p; (try simp only [sl1, one, sl4, four, slN, World.size_alloc, World.size_setCell, setRow_size] at c3'); (with_reducible refine c3'.mono ?_); rintro e w4 ⟨rfl, hp, hk⟩; have HI4 := Lib.hid (HJ3.out.next hlt hp hk g3); have HKs4 := Lib.hid hk; clear hp hk; clear c3 c3')
      | ((with_reducible refine (c4 _ HI4.out.p).mono ?_); rintro e w5 ⟨rfl, hp, hk⟩; have HW := Lib.hid hp; have HK := Lib.hid (HI4.out.keep.trans hk); clear hp hk; clear c4))
    exact ⟨rfl, rfl, HW.out, HK.out⟩
set_option maxRecDepth 100000 in
set_option maxHeartbeats 8000000 in
theorem decl_arr_bad {w : World} {G d : Nat} {ts r : List Tok} {st ex : Bool} {r1 r2 : List Tok} {a : Nat} {nm : Bs} {r3 : List Tok} {r4 : List Tok} {len p er : Nat} (h : PAt N w G ts d) (hgt : Good Rl ts) (hpre : Pre ts r st ex) (h1 : pType r = .ok a r1) (g1 : Good Rl r1) (h2 : pName r1 = .ok nm r2) (g2 : Good Rl r2) (h3 : Pa.want r2 [[59], [61], [91], [40]] = .ok [91] r3) (g3 : Good Rl r3) (h4 : pLength r3 = .ok len r4) (g4 : Good Rl r4) (ca : ∀ W, PAt N W G r4 d → W.heap[w.heap.size + 1]? = some (.cells (de17 false st ex ⟨nm.toArray⟩ a len nilV false nilV 0 nilV nilV ⟨#[]⟩ 0 0 0 (Pa.hd r).place) TDe (0, 0)) → Calls Tryz.prog 98 #[ptr G, ptr (w.heap.size + 1)] W (Bad2 G (w.heap.size + 1) (p : Int) (er : Int) W)) :
    Calls Tryz.prog 65 #[ptr G] w (BadPost G (p : Int) (er : Int) w) := by
  have hlt := h.base
  have hg := good_pre hgt hpre
  have HI0 := Lib.hid (OwnI.first (T := TDe) (z := z17) (c := z17) hlt hgt (h.below ((Below.refl _ _).alloc (Nat.le_refl _) _)) (Keep.refl G _))
  rw [World.size_alloc] at HI0
  have hb : Pa.sees ts [kStatic] = st := by rcases hpre with ⟨rfl, -, h, -⟩ | ⟨rfl, h, -⟩ <;> exact h
  have gb : Good Rl (behindIf ts st) := good_behind hgt (by decide) hb
  have k1 : ∀ W, PAt N W G ts d → Calls Tryz.prog 92 #[ptr G, sl1 W] (one W #[115, 116, 97, 116, 105, 99]) (OkPost N G d (.bool st) (behindIf ts st) W) := fun W hW => takesL [kStatic] 1 rfl (by decide) (by decide) hgt hb hW
  have k2 : st = false → ∀ W, PAt N W G ts d → Calls Tryz.prog 92 #[ptr G, sl1 W] (one W #[101, 120, 116, 101, 114, 110]) (OkPost N G d (.bool ex) (behindIf ts ex) W) := fun hst W hW => by
    have hx : Pa.sees ts [kExtern] = ex := by
      rcases hpre with ⟨h1, -⟩ | ⟨-, -, h, -⟩
      · rw [hst] at h1; cases h1
      · exact h
    exact takesL [kExtern] 1 rfl (by decide) (by decide) hgt hx hW
  have c0 : ∀ W, PAt N W G (r) d → Calls Tryz.prog 64 #[ptr G] W (OkPost N G d (tokV (Pa.hd r)) r W) := fun W hW => nextL hg hW
  have c1 : ∀ W, PAt N W G (r) d → Calls Tryz.prog 93 #[ptr G] W (OkPost N G d (.int .i64 (a : Int)) (r1) W) := fun W hW => by have := typedL hg hW; rw [h1] at this; exact this
  have c2 : ∀ W, PAt N W G (r1) d → Calls Tryz.prog 94 #[ptr G] W (OkPost N G d (.string ⟨nm.toArray⟩) (r2) W) := fun W hW => by have := nameL g1 hW; rw [h2] at this; exact this
  have c3 : ∀ W, PAt N W G (r2) d → Calls Tryz.prog 95 #[ptr G, sl4 W] (four W) (OkPost N G d (.string ⟨#[91]⟩) r3 W) := fun W hW => by have := wantL [[59], [61], [91], [40]] 4 rfl (by decide) (by decide) g2 hW; rw [h3] at this; exact this
  have c4 : ∀ W, PAt N W G (r3) d → Calls Tryz.prog 97 #[ptr G] W (OkPost N G d (.int .i64 (len : Int)) (r4) W) := fun W hW => by have := lengthL g3 hW; rw [h4] at this; exact this
  clear h
  go_enter Tryz.func65, Tryz.ntmps65
  go_upto_region 3 with (have k1' := k1 _ HI0.out.p; simp only [sl1, one, World.size_alloc] at k1'; (with_reducible refine k1'.mono ?_); rintro e w1 ⟨rfl, hp, hk⟩; have HI1 := Lib.hid (HI0.out.next hlt hp hk gb); have hf1 := HI1.out.frozen 1; have hc1 := HI1.out.cell (i := 1) rfl; have HJ1 := Lib.hid (HI1.out.set hlt 1 (.bool st) (c2 := (de17 false st false ⟨#[]⟩ 0 0 nilV false nilV 0 nilV nilV ⟨#[]⟩ 0 0 0 0)) rfl); clear hp hk k1 k1')
  go_cut [] from 8 to 16 (fun wx => DeC N G d Rl w wx st ex r)
  case first =>
    have hc2 := HJ1.out.cell (i := 1) (v := .bool st) rfl
    have hf2 := HJ1.out.frozen 2
    have hc3 := HJ1.out.cell (i := 2) rfl
    cases st with
    | true =>
      obtain ⟨rfl, rfl⟩ : ex = false ∧ r = ts.tail := by
        rcases hpre with ⟨-, h1, -, h2⟩ | ⟨h1, -⟩
        · exact ⟨h1, h2⟩
        · cases h1
      clear k2 hb
      go_wp2
      go_meet
      case rel => exact HJ1.out.set hlt 2 (.bool false) rfl
    | false =>
      have k3 := k2 rfl
      obtain rfl : r = behindIf ts ex := by
        rcases hpre with ⟨h1, -⟩ | ⟨-, -, -, h2⟩
        · cases h1
        · exact h2
      clear k2 hb
      go_wp2_with (first
        | (have k3' := k3 _ HJ1.out.p; simp only [sl1, one, World.size_setCell] at k3'; (with_reducible refine k3'.mono ?_); rintro e w2 ⟨rfl, hp, hk⟩; have HI2 := Lib.hid (HJ1.out.next hlt hp hk hg); have hf3 := HI2.out.frozen 2; have hc4 := HI2.out.cell (i := 2) rfl; have HJ2 := Lib.hid (HI2.out.set hlt 2 (.bool ex) (c2 := (de17 false false ex ⟨#[]⟩ 0 0 nilV false nilV 0 nilV nilV ⟨#[]⟩ 0 0 0 0)) rfl); clear hp hk k3 k3'))
      go_meet
      case rel => exact HJ2.out
  case rest =>
    have HC := Lib.hid (show OwnI N G d Rl TDe z17 w wc (w.heap.size + 1) r (de17 false st ex ⟨#[]⟩ 0 0 nilV false nilV 0 nilV nilV ⟨#[]⟩ 0 0 0 0) from hcut)
    clear hcut k2 HI0 HI1 HJ1 hf1 hc1 hb
    go_wp2_with (first
      | ((with_reducible refine (c0 _ HC.out.p).mono ?_); rintro e w1 ⟨rfl, hp, hk⟩; have HI1 := Lib.hid (HC.out.next hlt hp hk hg); have hf1 := HI1.out.frozen 16; have hc1 := HI1.out.cell (i := 16) rfl; have HJ1 := Lib.hid (HI1.out.set hlt 16 (.int .i64 ((Pa.hd r).place : Int)) (c2 := (de17 false st ex ⟨#[]⟩ 0 0 nilV false nilV 0 nilV nilV ⟨#[]⟩ 0 0 0 (Pa.hd r).place)) rfl); have HKs1 := Lib.hid hk; clear hp hk; clear c0)
      | (have c1' := c1 _ HJ1.out.p; (try simp only [sl1, one, sl4, four, slN, World.size_alloc, World.size_setCell, setRow_size] at c1'); (with_reducible refine c1'.mono ?_); rintro e w2 ⟨rfl, hp, hk⟩; have HI2 := Lib.hid (HJ1.out.next hlt hp hk g1); have hf2 := HI2.out.frozen 4; have hc2 := HI2.out.cell (i := 4) rfl; have HJ2 := Lib.hid (HI2.out.set hlt 4 (.int .i64 (a : Int)) (c2 := (de17 false st ex ⟨#[]⟩ a 0 nilV false nilV 0 nilV nilV ⟨#[]⟩ 0 0 0 (Pa.hd r).place)) rfl); have HKs2 := Lib.hid hk; clear hp hk; clear c1 c1')
      | (have c2' := c2 _ HJ2.out.p; (try simp only [sl1, one, sl4, four, slN, World.size_alloc, World.size_setCell, setRow_size] at c2'); (with_reducible refine c2'.mono ?_); rintro e w3 ⟨rfl, hp, hk⟩; have HI3 := Lib.hid (HJ2.out.next hlt hp hk g2); have hf3 := HI3.out.frozen 3; have hc3 := HI3.out.cell (i := 3) rfl; have HJ3 := Lib.hid (HI3.out.set hlt 3 (.string ⟨nm.toArray⟩) (c2 := (de17 false st ex ⟨nm.toArray⟩ a 0 nilV false nilV 0 nilV nilV ⟨#[]⟩ 0 0 0 (Pa.hd r).place)) rfl); have HKs3 := Lib.hid hk; clear hp hk; clear c2 c2')
      | (have c3' := c3 _ HJ3.out.p; (try simp only [sl1, one, sl4, four, slN, World.size_alloc, World.size_setCell, setRow_size] at c3'); (with_reducible refine c3'.mono ?_); rintro e w4 ⟨rfl, hp, hk⟩; have HI4 := Lib.hid (HJ3.out.next hlt hp hk g3); have HKs4 := Lib.hid hk; clear hp hk; clear c3 c3')
      | ((with_reducible refine (c4 _ HI4.out.p).mono ?_); rintro e w5 ⟨rfl, hp, hk⟩; have HI5 := Lib.hid (HI4.out.next hlt hp hk g4); have hf5 := HI5.out.frozen 5; have hc5 := HI5.out.cell (i := 5) rfl; have HJ5 := Lib.hid (HI5.out.set hlt 5 (.int .i64 (len : Int)) (c2 := (de17 false st ex ⟨nm.toArray⟩ a len nilV false nilV 0 nilV nilV ⟨#[]⟩ 0 0 0 (Pa.hd r).place)) rfl); have HKs5 := Lib.hid hk; clear hp hk; clear c4)
      | ((with_reducible refine (ca _ HJ5.out.p HJ5.out.left).mono ?_); rintro e w6 ⟨rfl, hp, hk⟩; have HW := Lib.hid hp; have HK := Lib.hid (show Keep G w w6 from ⟨hk.os.trans HJ5.out.keep.os, hk.tape.trans HJ5.out.keep.tape, hk.output.trans HJ5.out.keep.output, Nat.le_trans HJ5.out.keep.size hk.size, fun i hi' hne => (hk.block i (Nat.lt_of_lt_of_le hi' HJ5.out.keep.size) hne (by omega)).trans (HJ5.out.keep.block i hi' hne)⟩); clear hp hk ca))
    exact ⟨rfl, rfl, HW.out, HK.out⟩
/-- an array's initialisers, laid into their declaration -/
def ArOk (N G d : Nat) (Rl : Bs → Prop) (B : Nat) (fu st ex : Bool) (nm : ByteArray) (t l p : Int) (pv : Value) (ks : List Ex) (has : Bool) (r : List Tok) (w : World) (e : Ending) (w' : World) : Prop := ∃ a1 l1 q1, e = .returned (.tuple #[]) ∧ KsAt (fun b => w.heap.size ≤ b) w' ks (.slice a1 l1 q1) ∧ OutI N G d Rl w w' B r (de17 fu st ex nm t l (.slice a1 l1 q1) has pv 0 nilV nilV ⟨#[]⟩ 0 0 0 p)
set_option maxRecDepth 100000 in
set_option maxHeartbeats 8000000 in
theorem decl_arr {w : World} {G d : Nat} {ts r : List Tok} {st ex : Bool} {r1 r2 : List Tok} {a : Nat} {nm : Bs} {r3 : List Tok} {r4 r5 : List Tok} {len : Nat} {ks : List Ex} {has : Bool} (h : PAt N w G ts d) (hgt : Good Rl ts) (hpre : Pre ts r st ex) (h1 : pType r = .ok a r1) (g1 : Good Rl r1) (h2 : pName r1 = .ok nm r2) (g2 : Good Rl r2) (h3 : Pa.want r2 [[59], [61], [91], [40]] = .ok [91] r3) (g3 : Good Rl r3) (h4 : pLength r3 = .ok len r4) (g4 : Good Rl r4) (ca : ∀ W, PAt N W G r4 d → W.heap[w.heap.size + 1]? = some (.cells (de17 false st ex ⟨nm.toArray⟩ a len nilV false nilV 0 nilV nilV ⟨#[]⟩ 0 0 0 (Pa.hd r).place) TDe (0, 0)) → Calls Tryz.prog 98 #[ptr G, ptr (w.heap.size + 1)] W (ArOk N G d Rl (w.heap.size + 1) false st ex ⟨nm.toArray⟩ a len (Pa.hd r).place nilV ks has r5 W)) :
    Calls Tryz.prog 65 #[ptr G] w (DeOk N G d ⟨false, st, ex, nm, a, len, ks, has, [], noSt, (Pa.hd r).place⟩ r5 w) := by
  have hlt := h.base
  have hg := good_pre hgt hpre
  have HI0 := Lib.hid (OwnI.first (T := TDe) (z := z17) (c := z17) hlt hgt (h.below ((Below.refl _ _).alloc (Nat.le_refl _) _)) (Keep.refl G _))
  rw [World.size_alloc] at HI0
  have hb : Pa.sees ts [kStatic] = st := by rcases hpre with ⟨rfl, -, h, -⟩ | ⟨rfl, h, -⟩ <;> exact h
  have gb : Good Rl (behindIf ts st) := good_behind hgt (by decide) hb
  have k1 : ∀ W, PAt N W G ts d → Calls Tryz.prog 92 #[ptr G, sl1 W] (one W #[115, 116, 97, 116, 105, 99]) (OkPost N G d (.bool st) (behindIf ts st) W) := fun W hW => takesL [kStatic] 1 rfl (by decide) (by decide) hgt hb hW
  have k2 : st = false → ∀ W, PAt N W G ts d → Calls Tryz.prog 92 #[ptr G, sl1 W] (one W #[101, 120, 116, 101, 114, 110]) (OkPost N G d (.bool ex) (behindIf ts ex) W) := fun hst W hW => by
    have hx : Pa.sees ts [kExtern] = ex := by
      rcases hpre with ⟨h1, -⟩ | ⟨-, -, h, -⟩
      · rw [hst] at h1; cases h1
      · exact h
    exact takesL [kExtern] 1 rfl (by decide) (by decide) hgt hx hW
  have c0 : ∀ W, PAt N W G (r) d → Calls Tryz.prog 64 #[ptr G] W (OkPost N G d (tokV (Pa.hd r)) r W) := fun W hW => nextL hg hW
  have c1 : ∀ W, PAt N W G (r) d → Calls Tryz.prog 93 #[ptr G] W (OkPost N G d (.int .i64 (a : Int)) (r1) W) := fun W hW => by have := typedL hg hW; rw [h1] at this; exact this
  have c2 : ∀ W, PAt N W G (r1) d → Calls Tryz.prog 94 #[ptr G] W (OkPost N G d (.string ⟨nm.toArray⟩) (r2) W) := fun W hW => by have := nameL g1 hW; rw [h2] at this; exact this
  have c3 : ∀ W, PAt N W G (r2) d → Calls Tryz.prog 95 #[ptr G, sl4 W] (four W) (OkPost N G d (.string ⟨#[91]⟩) r3 W) := fun W hW => by have := wantL [[59], [61], [91], [40]] 4 rfl (by decide) (by decide) g2 hW; rw [h3] at this; exact this
  have c4 : ∀ W, PAt N W G (r3) d → Calls Tryz.prog 97 #[ptr G] W (OkPost N G d (.int .i64 (len : Int)) (r4) W) := fun W hW => by have := lengthL g3 hW; rw [h4] at this; exact this
  clear h
  go_enter Tryz.func65, Tryz.ntmps65
  go_upto_region 3 with (have k1' := k1 _ HI0.out.p; simp only [sl1, one, World.size_alloc] at k1'; (with_reducible refine k1'.mono ?_); rintro e w1 ⟨rfl, hp, hk⟩; have HI1 := Lib.hid (HI0.out.next hlt hp hk gb); have hf1 := HI1.out.frozen 1; have hc1 := HI1.out.cell (i := 1) rfl; have HJ1 := Lib.hid (HI1.out.set hlt 1 (.bool st) (c2 := (de17 false st false ⟨#[]⟩ 0 0 nilV false nilV 0 nilV nilV ⟨#[]⟩ 0 0 0 0)) rfl); clear hp hk k1 k1')
  go_cut [] from 8 to 16 (fun wx => DeC N G d Rl w wx st ex r)
  case first =>
    have hc2 := HJ1.out.cell (i := 1) (v := .bool st) rfl
    have hf2 := HJ1.out.frozen 2
    have hc3 := HJ1.out.cell (i := 2) rfl
    cases st with
    | true =>
      obtain ⟨rfl, rfl⟩ : ex = false ∧ r = ts.tail := by
        rcases hpre with ⟨-, h1, -, h2⟩ | ⟨h1, -⟩
        · exact ⟨h1, h2⟩
        · cases h1
      clear k2 hb
      go_wp2
      go_meet
      case rel => exact HJ1.out.set hlt 2 (.bool false) rfl
    | false =>
      have k3 := k2 rfl
      obtain rfl : r = behindIf ts ex := by
        rcases hpre with ⟨h1, -⟩ | ⟨-, -, -, h2⟩
        · cases h1
        · exact h2
      clear k2 hb
      go_wp2_with (first
        | (have k3' := k3 _ HJ1.out.p; simp only [sl1, one, World.size_setCell] at k3'; (with_reducible refine k3'.mono ?_); rintro e w2 ⟨rfl, hp, hk⟩; have HI2 := Lib.hid (HJ1.out.next hlt hp hk hg); have hf3 := HI2.out.frozen 2; have hc4 := HI2.out.cell (i := 2) rfl; have HJ2 := Lib.hid (HI2.out.set hlt 2 (.bool ex) (c2 := (de17 false false ex ⟨#[]⟩ 0 0 nilV false nilV 0 nilV nilV ⟨#[]⟩ 0 0 0 0)) rfl); clear hp hk k3 k3'))
      go_meet
      case rel => exact HJ2.out
  case rest =>
    have HC := Lib.hid (show OwnI N G d Rl TDe z17 w wc (w.heap.size + 1) r (de17 false st ex ⟨#[]⟩ 0 0 nilV false nilV 0 nilV nilV ⟨#[]⟩ 0 0 0 0) from hcut)
    clear hcut k2 HI0 HI1 HJ1 hf1 hc1 hb
    go_wp2_with (first
      | ((with_reducible refine (c0 _ HC.out.p).mono ?_); rintro e w1 ⟨rfl, hp, hk⟩; have HI1 := Lib.hid (HC.out.next hlt hp hk hg); have hf1 := HI1.out.frozen 16; have hc1 := HI1.out.cell (i := 16) rfl; have HJ1 := Lib.hid (HI1.out.set hlt 16 (.int .i64 ((Pa.hd r).place : Int)) (c2 := (de17 false st ex ⟨#[]⟩ 0 0 nilV false nilV 0 nilV nilV ⟨#[]⟩ 0 0 0 (Pa.hd r).place)) rfl); have HKs1 := Lib.hid hk; clear hp hk; clear c0)
      | (have c1' := c1 _ HJ1.out.p; (try simp only [sl1, one, sl4, four, slN, World.size_alloc, World.size_setCell, setRow_size] at c1'); (with_reducible refine c1'.mono ?_); rintro e w2 ⟨rfl, hp, hk⟩; have HI2 := Lib.hid (HJ1.out.next hlt hp hk g1); have hf2 := HI2.out.frozen 4; have hc2 := HI2.out.cell (i := 4) rfl; have HJ2 := Lib.hid (HI2.out.set hlt 4 (.int .i64 (a : Int)) (c2 := (de17 false st ex ⟨#[]⟩ a 0 nilV false nilV 0 nilV nilV ⟨#[]⟩ 0 0 0 (Pa.hd r).place)) rfl); have HKs2 := Lib.hid hk; clear hp hk; clear c1 c1')
      | (have c2' := c2 _ HJ2.out.p; (try simp only [sl1, one, sl4, four, slN, World.size_alloc, World.size_setCell, setRow_size] at c2'); (with_reducible refine c2'.mono ?_); rintro e w3 ⟨rfl, hp, hk⟩; have HI3 := Lib.hid (HJ2.out.next hlt hp hk g2); have hf3 := HI3.out.frozen 3; have hc3 := HI3.out.cell (i := 3) rfl; have HJ3 := Lib.hid (HI3.out.set hlt 3 (.string ⟨nm.toArray⟩) (c2 := (de17 false st ex ⟨nm.toArray⟩ a 0 nilV false nilV 0 nilV nilV ⟨#[]⟩ 0 0 0 (Pa.hd r).place)) rfl); have HKs3 := Lib.hid hk; clear hp hk; clear c2 c2')
      | (have c3' := c3 _ HJ3.out.p; (try simp only [sl1, one, sl4, four, slN, World.size_alloc, World.size_setCell, setRow_size] at c3'); (with_reducible refine c3'.mono ?_); rintro e w4 ⟨rfl, hp, hk⟩; have HI4 := Lib.hid (HJ3.out.next hlt hp hk g3); have HKs4 := Lib.hid hk; clear hp hk; clear c3 c3')
      | ((with_reducible refine (c4 _ HI4.out.p).mono ?_); rintro e w5 ⟨rfl, hp, hk⟩; have HI5 := Lib.hid (HI4.out.next hlt hp hk g4); have hf5 := HI5.out.frozen 5; have hc5 := HI5.out.cell (i := 5) rfl; have HJ5 := Lib.hid (HI5.out.set hlt 5 (.int .i64 (len : Int)) (c2 := (de17 false st ex ⟨nm.toArray⟩ a len nilV false nilV 0 nilV nilV ⟨#[]⟩ 0 0 0 (Pa.hd r).place)) rfl); have HKs5 := Lib.hid hk; clear hp hk; clear c4)
      | ((with_reducible refine (ca _ HJ5.out.p HJ5.out.left).mono ?_); rintro e w6 ⟨a1, l1, q1, rfl, hks, ho⟩; have HI6 := Lib.hid (HJ5.out.out hlt ho); have HX := Lib.hid hks; have HS := Lib.hid (And.intro HJ5.out.keep.size (Array.getElem?_eq_some_iff.1 HJ5.out.left).1); have hl6 := HI6.out.left; have hz6 := HI6.out.res; clear hks ho ca)
      | ((with_reducible refine load17 rfl (.tmp 3) rfl (w.heap.size + 1) (de17 false st ex ⟨nm.toArray⟩ a len (.slice a1 l1 q1) has nilV 0 nilV nilV ⟨#[]⟩ 0 0 0 (Pa.hd r).place) (size17 _ _ _ _ _ _ _ _ _ _ _ _ _ _ _ _ _) ?xc hl6 ?_); (case xc => simp [go_sem]))
      | ((with_reducible refine store17 rfl (.tmp 2) (.tmp 55) rfl w.heap.size (de17 false st ex ⟨nm.toArray⟩ a len (.slice a1 l1 q1) has nilV 0 nilV nilV ⟨#[]⟩ 0 0 0 (Pa.hd r).place) (size17 _ _ _ _ _ _ _ _ _ _ _ _ _ _ _ _ _) (one17 _ _ _ _ _ _ _ _ _ _ _ _ _ _ _ _ _ _ _ _ _ _ _ _ _) rfl ?xa ?xb z17 rfl hz6 ?_); (case xa => simp [go_sem]); (case xb => simp [go_sem])))
    refine fin_decl _ (size17 _ _ _ _ _ _ _ _ _ _ _ _ _ _ _ _ _) _ (by simp) hz6 ⟨_, rfl, DeAt.mk ⟨false, st, ex, nm, a, len, ks, has, [], noSt, (Pa.hd r).place⟩ _ nilV [.int .i64 0, nilV, nilV, .string ⟨#[]⟩, .int .i64 0, .int .i64 0, .int .i64 0] ?_ .nil (.mk 0 [] [] [] 0 0 0 _ _ .nil .nil), HI6.out.p.row (by omega) _, HI6.out.keep.row (Nat.le_refl _) _⟩
    obtain ⟨s1, s2⟩ := HS.out
    exact HX.out.mono ⟨by simp, fun b hb hl => setRow_other _ _ _ _ (by have hb' : _ ≤ b := hb; omega)⟩ fun b hb => Nat.le_trans s1 hb
set_option maxRecDepth 100000 in
set_option maxHeartbeats 8000000 in
theorem decl_params {w : World} {G d : Nat} {ts r : List Tok} {st ex : Bool} {r1 r2 : List Tok} {a : Nat} {nm : Bs} {r3 : List Tok} {p er : Nat} (h : PAt N w G ts d) (hgt : Good Rl ts) (hpre : Pre ts r st ex) (h1 : pType r = .ok a r1) (g1 : Good Rl r1) (h2 : pName r1 = .ok nm r2) (g2 : Good Rl r2) (h3 : Pa.want r2 [[59], [61], [91], [40]] = .ok [40] r3) (g3 : Good Rl r3) (cp : ∀ W, PAt N W G r3 d → Calls Tryz.prog 99 #[ptr G] W (BadPost G (p : Int) (er : Int) W)) :
    Calls Tryz.prog 65 #[ptr G] w (BadPost G (p : Int) (er : Int) w) := by
  have hlt := h.base
  have hg := good_pre hgt hpre
  have HI0 := Lib.hid (OwnI.first (T := TDe) (z := z17) (c := z17) hlt hgt (h.below ((Below.refl _ _).alloc (Nat.le_refl _) _)) (Keep.refl G _))
  rw [World.size_alloc] at HI0
  have hb : Pa.sees ts [kStatic] = st := by rcases hpre with ⟨rfl, -, h, -⟩ | ⟨rfl, h, -⟩ <;> exact h
  have gb : Good Rl (behindIf ts st) := good_behind hgt (by decide) hb
  have k1 : ∀ W, PAt N W G ts d → Calls Tryz.prog 92 #[ptr G, sl1 W] (one W #[115, 116, 97, 116, 105, 99]) (OkPost N G d (.bool st) (behindIf ts st) W) := fun W hW => takesL [kStatic] 1 rfl (by decide) (by decide) hgt hb hW
  have k2 : st = false → ∀ W, PAt N W G ts d → Calls Tryz.prog 92 #[ptr G, sl1 W] (one W #[101, 120, 116, 101, 114, 110]) (OkPost N G d (.bool ex) (behindIf ts ex) W) := fun hst W hW => by
    have hx : Pa.sees ts [kExtern] = ex := by
      rcases hpre with ⟨h1, -⟩ | ⟨-, -, h, -⟩
      · rw [hst] at h1; cases h1
      · exact h
    exact takesL [kExtern] 1 rfl (by decide) (by decide) hgt hx hW
  have c0 : ∀ W, PAt N W G (r) d → Calls Tryz.prog 64 #[ptr G] W (OkPost N G d (tokV (Pa.hd r)) r W) := fun W hW => nextL hg hW
  have c1 : ∀ W, PAt N W G (r) d → Calls Tryz.prog 93 #[ptr G] W (OkPost N G d (.int .i64 (a : Int)) (r1) W) := fun W hW => by have := typedL hg hW; rw [h1] at this; exact this
  have c2 : ∀ W, PAt N W G (r1) d → Calls Tryz.prog 94 #[ptr G] W (OkPost N G d (.string ⟨nm.toArray⟩) (r2) W) := fun W hW => by have := nameL g1 hW; rw [h2] at this; exact this
  have c3 : ∀ W, PAt N W G (r2) d → Calls Tryz.prog 95 #[ptr G, sl4 W] (four W) (OkPost N G d (.string ⟨#[40]⟩) r3 W) := fun W hW => by have := wantL [[59], [61], [91], [40]] 4 rfl (by decide) (by decide) g2 hW; rw [h3] at this; exact this
  clear h
  go_enter Tryz.func65, Tryz.ntmps65
  go_upto_region 3 with (have k1' := k1 _ HI0.out.p; simp only [sl1, one, World.size_alloc] at k1'; (with_reducible refine k1'.mono ?_); rintro e w1 ⟨rfl, hp, hk⟩; have HI1 := Lib.hid (HI0.out.next hlt hp hk gb); have hf1 := HI1.out.frozen 1; have hc1 := HI1.out.cell (i := 1) rfl; have HJ1 := Lib.hid (HI1.out.set hlt 1 (.bool st) (c2 := (de17 false st false ⟨#[]⟩ 0 0 nilV false nilV 0 nilV nilV ⟨#[]⟩ 0 0 0 0)) rfl); clear hp hk k1 k1')
  go_cut [] from 8 to 16 (fun wx => DeC N G d Rl w wx st ex r)
  case first =>
    have hc2 := HJ1.out.cell (i := 1) (v := .bool st) rfl
    have hf2 := HJ1.out.frozen 2
    have hc3 := HJ1.out.cell (i := 2) rfl
    cases st with
    | true =>
      obtain ⟨rfl, rfl⟩ : ex = false ∧ r = ts.tail := by
        rcases hpre with ⟨-, h1, -, h2⟩ | ⟨h1, -⟩
        · exact ⟨h1, h2⟩
        · cases h1
      clear k2 hb
      go_wp2
      go_meet
      case rel => exact HJ1.out.set hlt 2 (.bool false) rfl
    | false =>
      have k3 := k2 rfl
      obtain rfl : r = behindIf ts ex := by
        rcases hpre with ⟨h1, -⟩ | ⟨-, -, -, h2⟩
        · cases h1
        · exact h2
      clear k2 hb
      go_wp2_with (first
        | (have k3' := k3 _ HJ1.out.p; simp only [sl1, one, World.size_setCell] at k3'; (with_reducible refine k3'.mono ?_); rintro e w2 ⟨rfl, hp, hk⟩; have HI2 := Lib.hid (HJ1.out.next hlt hp hk hg); have hf3 := HI2.out.frozen 2; have hc4 := HI2.out.cell (i := 2) rfl; have HJ2 := Lib.hid (HI2.out.set hlt 2 (.bool ex) (c2 := (de17 false false ex ⟨#[]⟩ 0 0 nilV false nilV 0 nilV nilV ⟨#[]⟩ 0 0 0 0)) rfl); clear hp hk k3 k3'))
      go_meet
      case rel => exact HJ2.out
  case rest =>
    have HC := Lib.hid (show OwnI N G d Rl TDe z17 w wc (w.heap.size + 1) r (de17 false st ex ⟨#[]⟩ 0 0 nilV false nilV 0 nilV nilV ⟨#[]⟩ 0 0 0 0) from hcut)
    clear hcut k2 HI0 HI1 HJ1 hf1 hc1 hb
    go_wp2_with (first
      | ((with_reducible refine (c0 _ HC.out.p).mono ?_); rintro e w1 ⟨rfl, hp, hk⟩; have HI1 := Lib.hid (HC.out.next hlt hp hk hg); have hf1 := HI1.out.frozen 16; have hc1 := HI1.out.cell (i := 16) rfl; have HJ1 := Lib.hid (HI1.out.set hlt 16 (.int .i64 ((Pa.hd r).place : Int)) (c2 := (de17 false st ex ⟨#[]⟩ 0 0 nilV false nilV 0 nilV nilV ⟨#[]⟩ 0 0 0 (Pa.hd r).place)) rfl); have HKs1 := Lib.hid hk; clear hp hk; clear c0)
      | (have c1' := c1 _ HJ1.out.p; (try simp only [sl1, one, sl4, four, slN, World.size_alloc, World.size_setCell, setRow_size] at c1'); (with_reducible refine c1'.mono ?_); rintro e w2 ⟨rfl, hp, hk⟩; have HI2 := Lib.hid (HJ1.out.next hlt hp hk g1); have hf2 := HI2.out.frozen 4; have hc2 := HI2.out.cell (i := 4) rfl; have HJ2 := Lib.hid (HI2.out.set hlt 4 (.int .i64 (a : Int)) (c2 := (de17 false st ex ⟨#[]⟩ a 0 nilV false nilV 0 nilV nilV ⟨#[]⟩ 0 0 0 (Pa.hd r).place)) rfl); have HKs2 := Lib.hid hk; clear hp hk; clear c1 c1')
      | (have c2' := c2 _ HJ2.out.p; (try simp only [sl1, one, sl4, four, slN, World.size_alloc, World.size_setCell, setRow_size] at c2'); (with_reducible refine c2'.mono ?_); rintro e w3 ⟨rfl, hp, hk⟩; have HI3 := Lib.hid (HJ2.out.next hlt hp hk g2); have hf3 := HI3.out.frozen 3; have hc3 := HI3.out.cell (i := 3) rfl; have HJ3 := Lib.hid (HI3.out.set hlt 3 (.string ⟨nm.toArray⟩) (c2 := (de17 false st ex ⟨nm.toArray⟩ a 0 nilV false nilV 0 nilV nilV ⟨#[]⟩ 0 0 0 (Pa.hd r).place)) rfl); have HKs3 := Lib.hid hk; clear hp hk; clear c2 c2')
      | (have c3' := c3 _ HJ3.out.p; (try simp only [sl1, one, sl4, four, slN, World.size_alloc, World.size_setCell, setRow_size] at c3'); (with_reducible refine c3'.mono ?_); rintro e w4 ⟨rfl, hp, hk⟩; have HI4 := Lib.hid (HJ3.out.next hlt hp hk g3); have hf4 := HI4.out.frozen 0; have hc4 := HI4.out.cell (i := 0) rfl; have HJ4 := Lib.hid (HI4.out.set hlt 0 (.bool true) (c2 := (de17 true st ex ⟨nm.toArray⟩ a 0 nilV false nilV 0 nilV nilV ⟨#[]⟩ 0 0 0 (Pa.hd r).place)) rfl); have HKs4 := Lib.hid hk; clear hp hk; clear c3 c3')
      | (have cp' := cp _ HJ4.out.p; (try simp only [sl1, one, sl4, four, slN, World.size_alloc, World.size_setCell, setRow_size] at cp'); (with_reducible refine cp'.mono ?_); rintro e w5 ⟨rfl, hp, hk⟩; have HW := Lib.hid hp; have HK := Lib.hid (HJ4.out.keep.trans hk); clear hp hk; clear cp cp'))
    exact ⟨rfl, rfl, HW.out, HK.out⟩
set_option maxRecDepth 100000 in
set_option maxHeartbeats 8000000 in
theorem decl_body {w : World} {G d : Nat} {ts r : List Tok} {st ex : Bool} {r1 r2 : List Tok} {a : Nat} {nm : Bs} {r3 : List Tok} {r4 : List Tok} {ps : List Pr} {p er : Nat} (h : PAt N w G ts d) (hgt : Good Rl ts) (hpre : Pre ts r st ex) (h1 : pType r = .ok a r1) (g1 : Good Rl r1) (h2 : pName r1 = .ok nm r2) (g2 : Good Rl r2) (h3 : Pa.want r2 [[59], [61], [91], [40]] = .ok [40] r3) (g3 : Good Rl r3) (cp : ∀ W, PAt N W G r3 d → Calls Tryz.prog 99 #[ptr G] W (PsOk N G d ps r4 W)) (g4 : Good Rl r4) (cb : ∀ W a2 c2, PAt N W G r4 d → W.heap[w.heap.size + 1]? = some (.cells (de17 true st ex ⟨nm.toArray⟩ a 0 nilV false (.slice a2 ps.length c2) 0 nilV nilV ⟨#[]⟩ 0 0 0 (Pa.hd r).place) TDe (0, 0)) → Calls Tryz.prog 100 #[ptr G, ptr (w.heap.size + 1)] W (Bad2 G (w.heap.size + 1) (p : Int) (er : Int) W)) :
    Calls Tryz.prog 65 #[ptr G] w (BadPost G (p : Int) (er : Int) w) := by
  have hlt := h.base
  have hg := good_pre hgt hpre
  have HI0 := Lib.hid (OwnI.first (T := TDe) (z := z17) (c := z17) hlt hgt (h.below ((Below.refl _ _).alloc (Nat.le_refl _) _)) (Keep.refl G _))
  rw [World.size_alloc] at HI0
  have hb : Pa.sees ts [kStatic] = st := by rcases hpre with ⟨rfl, -, h, -⟩ | ⟨rfl, h, -⟩ <;> exact h
  have gb : Good Rl (behindIf ts st) := good_behind hgt (by decide) hb
  have k1 : ∀ W, PAt N W G ts d → Calls Tryz.prog 92 #[ptr G, sl1 W] (one W #[115, 116, 97, 116, 105, 99]) (OkPost N G d (.bool st) (behindIf ts st) W) := fun W hW => takesL [kStatic] 1 rfl (by decide) (by decide) hgt hb hW
  have k2 : st = false → ∀ W, PAt N W G ts d → Calls Tryz.prog 92 #[ptr G, sl1 W] (one W #[101, 120, 116, 101, 114, 110]) (OkPost N G d (.bool ex) (behindIf ts ex) W) := fun hst W hW => by
    have hx : Pa.sees ts [kExtern] = ex := by
      rcases hpre with ⟨h1, -⟩ | ⟨-, -, h, -⟩
      · rw [hst] at h1; cases h1
      · exact h
    exact takesL [kExtern] 1 rfl (by decide) (by decide) hgt hx hW
  have c0 : ∀ W, PAt N W G (r) d → Calls Tryz.prog 64 #[ptr G] W (OkPost N G d (tokV (Pa.hd r)) r W) := fun W hW => nextL hg hW
  have c1 : ∀ W, PAt N W G (r) d → Calls Tryz.prog 93 #[ptr G] W (OkPost N G d (.int .i64 (a : Int)) (r1) W) := fun W hW => by have := typedL hg hW; rw [h1] at this; exact this
  have c2 : ∀ W, PAt N W G (r1) d → Calls Tryz.prog 94 #[ptr G] W (OkPost N G d (.string ⟨nm.toArray⟩) (r2) W) := fun W hW => by have := nameL g1 hW; rw [h2] at this; exact this
  have c3 : ∀ W, PAt N W G (r2) d → Calls Tryz.prog 95 #[ptr G, sl4 W] (four W) (OkPost N G d (.string ⟨#[40]⟩) r3 W) := fun W hW => by have := wantL [[59], [61], [91], [40]] 4 rfl (by decide) (by decide) g2 hW; rw [h3] at this; exact this
  clear h
  go_enter Tryz.func65, Tryz.ntmps65
  go_upto_region 3 with (have k1' := k1 _ HI0.out.p; simp only [sl1, one, World.size_alloc] at k1'; (with_reducible refine k1'.mono ?_); rintro e w1 ⟨rfl, hp, hk⟩; have HI1 := Lib.hid (HI0.out.next hlt hp hk gb); have hf1 := HI1.out.frozen 1; have hc1 := HI1.out.cell (i := 1) rfl; have HJ1 := Lib.hid (HI1.out.set hlt 1 (.bool st) (c2 := (de17 false st false ⟨#[]⟩ 0 0 nilV false nilV 0 nilV nilV ⟨#[]⟩ 0 0 0 0)) rfl); clear hp hk k1 k1')
  go_cut [] from 8 to 16 (fun wx => DeC N G d Rl w wx st ex r)
  case first =>
    have hc2 := HJ1.out.cell (i := 1) (v := .bool st) rfl
    have hf2 := HJ1.out.frozen 2
    have hc3 := HJ1.out.cell (i := 2) rfl
    cases st with
    | true =>
      obtain ⟨rfl, rfl⟩ : ex = false ∧ r = ts.tail := by
        rcases hpre with ⟨-, h1, -, h2⟩ | ⟨h1, -⟩
        · exact ⟨h1, h2⟩
        · cases h1
      clear k2 hb
      go_wp2
      go_meet
      case rel => exact HJ1.out.set hlt 2 (.bool false) rfl
    | false =>
      have k3 := k2 rfl
      obtain rfl : r = behindIf ts ex := by
        rcases hpre with ⟨h1, -⟩ | ⟨-, -, -, h2⟩
        · cases h1
        · exact h2
      clear k2 hb
      go_wp2_with (first
        | (have k3' := k3 _ HJ1.out.p; simp only [sl1, one, World.size_setCell] at k3'; (with_reducible refine k3'.mono ?_); rintro e w2 ⟨rfl, hp, hk⟩; have HI2 := Lib.hid (HJ1.out.next hlt hp hk hg); have hf3 := HI2.out.frozen 2; have hc4 := HI2.out.cell (i := 2) rfl; have HJ2 := Lib.hid (HI2.out.set hlt 2 (.bool ex) (c2 := (de17 false false ex ⟨#[]⟩ 0 0 nilV false nilV 0 nilV nilV ⟨#[]⟩ 0 0 0 0)) rfl); clear hp hk k3 k3'))
      go_meet
      case rel => exact HJ2.out
  case rest =>
    have HC := Lib.hid (show OwnI N G d Rl TDe z17 w wc (w.heap.size + 1) r (de17 false st ex ⟨#[]⟩ 0 0 nilV false nilV 0 nilV nilV ⟨#[]⟩ 0 0 0 0) from hcut)
    clear hcut k2 HI0 HI1 HJ1 hf1 hc1 hb
    go_wp2_with (first
      | ((with_reducible refine (c0 _ HC.out.p).mono ?_); rintro e w1 ⟨rfl, hp, hk⟩; have HI1 := Lib.hid (HC.out.next hlt hp hk hg); have hf1 := HI1.out.frozen 16; have hc1 := HI1.out.cell (i := 16) rfl; have HJ1 := Lib.hid (HI1.out.set hlt 16 (.int .i64 ((Pa.hd r).place : Int)) (c2 := (de17 false st ex ⟨#[]⟩ 0 0 nilV false nilV 0 nilV nilV ⟨#[]⟩ 0 0 0 (Pa.hd r).place)) rfl); have HKs1 := Lib.hid hk; clear hp hk; clear c0)
      | (have c1' := c1 _ HJ1.out.p; (try simp only [sl1, one, sl4, four, slN, World.size_alloc, World.size_setCell, setRow_size] at c1'); (with_reducible refine c1'.mono ?_); rintro e w2 ⟨rfl, hp, hk⟩; have HI2 := Lib.hid (HJ1.out.next hlt hp hk g1); have hf2 := HI2.out.frozen 4; have hc2 := HI2.out.cell (i := 4) rfl; have HJ2 := Lib.hid (HI2.out.set hlt 4 (.int .i64 (a : Int)) (c2 := (de17 false st ex ⟨#[]⟩ a 0 nilV false nilV 0 nilV nilV ⟨#[]⟩ 0 0 0 (Pa.hd r).place)) rfl); have HKs2 := Lib.hid hk; clear hp hk; clear c1 c1')
      | (have c2' := c2 _ HJ2.out.p; (try simp only [sl1, one, sl4, four, slN, World.size_alloc, World.size_setCell, setRow_size] at c2'); (with_reducible refine c2'.mono ?_); rintro e w3 ⟨rfl, hp, hk⟩; have HI3 := Lib.hid (HJ2.out.next hlt hp hk g2); have hf3 := HI3.out.frozen 3; have hc3 := HI3.out.cell (i := 3) rfl; have HJ3 := Lib.hid (HI3.out.set hlt 3 (.string ⟨nm.toArray⟩) (c2 := (de17 false st ex ⟨nm.toArray⟩ a 0 nilV false nilV 0 nilV nilV ⟨#[]⟩ 0 0 0 (Pa.hd r).place)) rfl); have HKs3 := Lib.hid hk; clear hp hk; clear c2 c2')
      | (have c3' := c3 _ HJ3.out.p; (try simp only [sl1, one, sl4, four, slN, World.size_alloc, World.size_setCell, setRow_size] at c3'); (with_reducible refine c3'.mono ?_); rintro e w4 ⟨rfl, hp, hk⟩; have HI4 := Lib.hid (HJ3.out.next hlt hp hk g3); have hf4 := HI4.out.frozen 0; have hc4 := HI4.out.cell (i := 0) rfl; have HJ4 := Lib.hid (HI4.out.set hlt 0 (.bool true) (c2 := (de17 true st ex ⟨nm.toArray⟩ a 0 nilV false nilV 0 nilV nilV ⟨#[]⟩ 0 0 0 (Pa.hd r).place)) rfl); have HKs4 := Lib.hid hk; clear hp hk; clear c3 c3')
      | (have cp' := cp _ HJ4.out.p; (try simp only [sl1, one, sl4, four, slN, World.size_alloc, World.size_setCell, setRow_size] at cp'); (with_reducible refine cp'.mono ?_); rintro e w5 ⟨v, rfl, hps, hp, hk⟩; obtain ⟨a2, c2, rfl⟩ := hps.slice; have HI5 := Lib.hid (HJ4.out.next hlt hp hk g4); have hf5 := HI5.out.frozen 8; have hc5 := HI5.out.cell (i := 8) rfl; have HJ5 := Lib.hid (HI5.out.set hlt 8 (.slice a2 ps.length c2) (c2 := (de17 true st ex ⟨nm.toArray⟩ a 0 nilV false (.slice a2 ps.length c2) 0 nilV nilV ⟨#[]⟩ 0 0 0 (Pa.hd r).place)) rfl); have HXP := Lib.hid hps; have HSP := Lib.hid (And.intro HJ4.out.keep.size (Array.getElem?_eq_some_iff.1 HJ4.out.left).1); clear hp hk hps; clear cp cp')
      | ((with_reducible refine (cb _ a2 c2 HJ5.out.p HJ5.out.left).mono ?_); rintro e w6 ⟨rfl, hp, hk⟩; have HW := Lib.hid hp; have HK := Lib.hid (show Keep G w w6 from ⟨hk.os.trans HJ5.out.keep.os, hk.tape.trans HJ5.out.keep.tape, hk.output.trans HJ5.out.keep.output, Nat.le_trans HJ5.out.keep.size hk.size, fun i hi' hne => (hk.block i (Nat.lt_of_lt_of_le hi' HJ5.out.keep.size) hne (by omega)).trans (HJ5.out.keep.block i hi' hne)⟩); clear hp hk cb))
    exact ⟨rfl, rfl, HW.out, HK.out⟩
set_option maxRecDepth 100000 in
set_option maxHeartbeats 8000000 in
theorem decl_proto {w : World} {G d : Nat} {ts r : List Tok} {st ex : Bool} {r1 r2 : List Tok} {a : Nat} {nm : Bs} {r3 : List Tok} {r4 r5 : List Tok} {ps : List Pr} (h : PAt N w G ts d) (hgt : Good Rl ts) (hpre : Pre ts r st ex) (h1 : pType r = .ok a r1) (g1 : Good Rl r1) (h2 : pName r1 = .ok nm r2) (g2 : Good Rl r2) (h3 : Pa.want r2 [[59], [61], [91], [40]] = .ok [40] r3) (g3 : Good Rl r3) (cp : ∀ W, PAt N W G r3 d → Calls Tryz.prog 99 #[ptr G] W (PsOk N G d ps r4 W)) (g4 : Good Rl r4) (cb : ∀ W a2 c2, PAt N W G r4 d → W.heap[w.heap.size + 1]? = some (.cells (de17 true st ex ⟨nm.toArray⟩ a 0 nilV false (.slice a2 ps.length c2) 0 nilV nilV ⟨#[]⟩ 0 0 0 (Pa.hd r).place) TDe (0, 0)) → Calls Tryz.prog 100 #[ptr G, ptr (w.heap.size + 1)] W (fun e w' => e = .returned (.tuple #[]) ∧ OutI N G d Rl W w' (w.heap.size + 1) r5 (de17 true st ex ⟨nm.toArray⟩ a 0 nilV false (.slice a2 ps.length c2) 0 nilV nilV ⟨#[]⟩ 0 0 0 (Pa.hd r).place))) :
    Calls Tryz.prog 65 #[ptr G] w (DeOk N G d ⟨true, st, ex, nm, a, 0, [], false, ps, noSt, (Pa.hd r).place⟩ r5 w) := by
  have hlt := h.base
  have hg := good_pre hgt hpre
  have HI0 := Lib.hid (OwnI.first (T := TDe) (z := z17) (c := z17) hlt hgt (h.below ((Below.refl _ _).alloc (Nat.le_refl _) _)) (Keep.refl G _))
  rw [World.size_alloc] at HI0
  have hb : Pa.sees ts [kStatic] = st := by rcases hpre with ⟨rfl, -, h, -⟩ | ⟨rfl, h, -⟩ <;> exact h
  have gb : Good Rl (behindIf ts st) := good_behind hgt (by decide) hb
  have k1 : ∀ W, PAt N W G ts d → Calls Tryz.prog 92 #[ptr G, sl1 W] (one W #[115, 116, 97, 116, 105, 99]) (OkPost N G d (.bool st) (behindIf ts st) W) := fun W hW => takesL [kStatic] 1 rfl (by decide) (by decide) hgt hb hW
  have k2 : st = false → ∀ W, PAt N W G ts d → Calls Tryz.prog 92 #[ptr G, sl1 W] (one W #[101, 120, 116, 101, 114, 110]) (OkPost N G d (.bool ex) (behindIf ts ex) W) := fun hst W hW => by
    have hx : Pa.sees ts [kExtern] = ex := by
      rcases hpre with ⟨h1, -⟩ | ⟨-, -, h, -⟩
      · rw [hst] at h1; cases h1
      · exact h
    exact takesL [kExtern] 1 rfl (by decide) (by decide) hgt hx hW
  have c0 : ∀ W, PAt N W G (r) d → Calls Tryz.prog 64 #[ptr G] W (OkPost N G d (tokV (Pa.hd r)) r W) := fun W hW => nextL hg hW
  have c1 : ∀ W, PAt N W G (r) d → Calls Tryz.prog 93 #[ptr G] W (OkPost N G d (.int .i64 (a : Int)) (r1) W) := fun W hW => by have := typedL hg hW; rw [h1] at this; exact this
  have c2 : ∀ W, PAt N W G (r1) d → Calls Tryz.prog 94 #[ptr G] W (OkPost N G d (.string ⟨nm.toArray⟩) (r2) W) := fun W hW => by have := nameL g1 hW; rw [h2] at this; exact this
  have c3 : ∀ W, PAt N W G (r2) d → Calls Tryz.prog 95 #[ptr G, sl4 W] (four W) (OkPost N G d (.string ⟨#[40]⟩) r3 W) := fun W hW => by have := wantL [[59], [61], [91], [40]] 4 rfl (by decide) (by decide) g2 hW; rw [h3] at this; exact this
  clear h
  go_enter Tryz.func65, Tryz.ntmps65
  go_upto_region 3 with (have k1' := k1 _ HI0.out.p; simp only [sl1, one, World.size_alloc] at k1'; (with_reducible refine k1'.mono ?_); rintro e w1 ⟨rfl, hp, hk⟩; have HI1 := Lib.hid (HI0.out.next hlt hp hk gb); have hf1 := HI1.out.frozen 1; have hc1 := HI1.out.cell (i := 1) rfl; have HJ1 := Lib.hid (HI1.out.set hlt 1 (.bool st) (c2 := (de17 false st false ⟨#[]⟩ 0 0 nilV false nilV 0 nilV nilV ⟨#[]⟩ 0 0 0 0)) rfl); clear hp hk k1 k1')
  go_cut [] from 8 to 16 (fun wx => DeC N G d Rl w wx st ex r)
  case first =>
    have hc2 := HJ1.out.cell (i := 1) (v := .bool st) rfl
    have hf2 := HJ1.out.frozen 2
    have hc3 := HJ1.out.cell (i := 2) rfl
    cases st with
    | true =>
      obtain ⟨rfl, rfl⟩ : ex = false ∧ r = ts.tail := by
        rcases hpre with ⟨-, h1, -, h2⟩ | ⟨h1, -⟩
        · exact ⟨h1, h2⟩
        · cases h1
      clear k2 hb
      go_wp2
      go_meet
      case rel => exact HJ1.out.set hlt 2 (.bool false) rfl
    | false =>
      have k3 := k2 rfl
      obtain rfl : r = behindIf ts ex := by
        rcases hpre with ⟨h1, -⟩ | ⟨-, -, -, h2⟩
        · cases h1
        · exact h2
      clear k2 hb
      go_wp2_with (first
        | (have k3' := k3 _ HJ1.out.p; simp only [sl1, one, World.size_setCell] at k3'; (with_reducible refine k3'.mono ?_); rintro e w2 ⟨rfl, hp, hk⟩; have HI2 := Lib.hid (HJ1.out.next hlt hp hk hg); have hf3 := HI2.out.frozen 2; have hc4 := HI2.out.cell (i := 2) rfl; have HJ2 := Lib.hid (HI2.out.set hlt 2 (.bool ex) (c2 := (de17 false false ex ⟨#[]⟩ 0 0 nilV false nilV 0 nilV nilV ⟨#[]⟩ 0 0 0 0)) rfl); clear hp hk k3 k3'))
      go_meet
      case rel => exact HJ2.out
  case rest =>
    have HC := Lib.hid (show OwnI N G d Rl TDe z17 w wc (w.heap.size + 1) r (de17 false st ex ⟨#[]⟩ 0 0 nilV false nilV 0 nilV nilV ⟨#[]⟩ 0 0 0 0) from hcut)
    clear hcut k2 HI0 HI1 HJ1 hf1 hc1 hb
    go_wp2_with (first
      | ((with_reducible refine (c0 _ HC.out.p).mono ?_); rintro e w1 ⟨rfl, hp, hk⟩; have HI1 := Lib.hid (HC.out.next hlt hp hk hg); have hf1 := HI1.out.frozen 16; have hc1 := HI1.out.cell (i := 16) rfl; have HJ1 := Lib.hid (HI1.out.set hlt 16 (.int .i64 ((Pa.hd r).place : Int)) (c2 := (de17 false st ex ⟨#[]⟩ 0 0 nilV false nilV 0 nilV nilV ⟨#[]⟩ 0 0 0 (Pa.hd r).place)) rfl); have HKs1 := Lib.hid hk; clear hp hk; clear c0)
      | (have c1' := c1 _ HJ1.out.p; (try simp only [sl1, one, sl4, four, slN, World.size_alloc, World.size_setCell, setRow_size] at c1'); (with_reducible refine c1'.mono ?_); rintro e w2 ⟨rfl, hp, hk⟩; have HI2 := Lib.hid (HJ1.out.next hlt hp hk g1); have hf2 := HI2.out.frozen 4; have hc2 := HI2.out.cell (i := 4) rfl; have HJ2 := Lib.hid (HI2.out.set hlt 4 (.int .i64 (a : Int)) (c2 := (de17 false st ex ⟨#[]⟩ a 0 nilV false nilV 0 nilV nilV ⟨#[]⟩ 0 0 0 (Pa.hd r).place)) rfl); have HKs2 := Lib.hid hk; clear hp hk; clear c1 c1')
      | (have c2' := c2 _ HJ2.out.p; (try simp only [sl1, one, sl4, four, slN, World.size_alloc, World.size_setCell, setRow_size] at c2'); (with_reducible refine c2'.mono ?_); rintro e w3 ⟨rfl, hp, hk⟩; have HI3 := Lib.hid (HJ2.out.next hlt hp hk g2); have hf3 := HI3.out.frozen 3; have hc3 := HI3.out.cell (i := 3) rfl; have HJ3 := Lib.hid (HI3.out.set hlt 3 (.string ⟨nm.toArray⟩) (c2 := (de17 false st ex ⟨nm.toArray⟩ a 0 nilV false nilV 0 nilV nilV ⟨#[]⟩ 0 0 0 (Pa.hd r).place)) rfl); have HKs3 := Lib.hid hk; clear hp hk; clear c2 c2')
      | (have c3' := c3 _ HJ3.out.p; (try simp only [sl1, one, sl4, four, slN, World.size_alloc, World.size_setCell, setRow_size] at c3'); (with_reducible refine c3'.mono ?_); rintro e w4 ⟨rfl, hp, hk⟩; have HI4 := Lib.hid (HJ3.out.next hlt hp hk g3); have hf4 := HI4.out.frozen 0; have hc4 := HI4.out.cell (i := 0) rfl; have HJ4 := Lib.hid (HI4.out.set hlt 0 (.bool true) (c2 := (de17 true st ex ⟨nm.toArray⟩ a 0 nilV false nilV 0 nilV nilV ⟨#[]⟩ 0 0 0 (Pa.hd r).place)) rfl); have HKs4 := Lib.hid hk; clear hp hk; clear c3 c3')
      | (have cp' := cp _ HJ4.out.p; (try simp only [sl1, one, sl4, four, slN, World.size_alloc, World.size_setCell, setRow_size] at cp'); (with_reducible refine cp'.mono ?_); rintro e w5 ⟨v, rfl, hps, hp, hk⟩; obtain ⟨a2, c2, rfl⟩ := hps.slice; have HI5 := Lib.hid (HJ4.out.next hlt hp hk g4); have hf5 := HI5.out.frozen 8; have hc5 := HI5.out.cell (i := 8) rfl; have HJ5 := Lib.hid (HI5.out.set hlt 8 (.slice a2 ps.length c2) (c2 := (de17 true st ex ⟨nm.toArray⟩ a 0 nilV false (.slice a2 ps.length c2) 0 nilV nilV ⟨#[]⟩ 0 0 0 (Pa.hd r).place)) rfl); have HXP := Lib.hid hps; have HSP := Lib.hid (And.intro HJ4.out.keep.size (Array.getElem?_eq_some_iff.1 HJ4.out.left).1); clear hp hk hps; clear cp cp')
      | ((with_reducible refine (cb _ a2 c2 HJ5.out.p HJ5.out.left).mono ?_); rintro e w6 ⟨rfl, ho⟩; have HI6 := Lib.hid (HJ5.out.out hlt ho); have HOK := Lib.hid ho.keep; have hl6 := HI6.out.left; have hz6 := HI6.out.res; clear ho cb)
      | ((with_reducible refine load17 rfl (.tmp 3) rfl (w.heap.size + 1) (de17 true st ex ⟨nm.toArray⟩ a 0 nilV false (.slice a2 ps.length c2) 0 nilV nilV ⟨#[]⟩ 0 0 0 (Pa.hd r).place) (size17 _ _ _ _ _ _ _ _ _ _ _ _ _ _ _ _ _) ?xc hl6 ?_); (case xc => simp [go_sem]))
      | ((with_reducible refine store17 rfl (.tmp 2) (.tmp 55) rfl w.heap.size (de17 true st ex ⟨nm.toArray⟩ a 0 nilV false (.slice a2 ps.length c2) 0 nilV nilV ⟨#[]⟩ 0 0 0 (Pa.hd r).place) (size17 _ _ _ _ _ _ _ _ _ _ _ _ _ _ _ _ _) (one17 _ _ _ _ _ _ _ _ _ _ _ _ _ _ _ _ _ _ _ _ _ _ _ _ _) rfl ?xa ?xb z17 rfl hz6 ?_); (case xa => simp [go_sem]); (case xb => simp [go_sem])))
    refine fin_decl _ (size17 _ _ _ _ _ _ _ _ _ _ _ _ _ _ _ _ _) _ (by simp) hz6 ⟨_, rfl, DeAt.mk ⟨true, st, ex, nm, a, 0, [], false, ps, noSt, (Pa.hd r).place⟩ nilV _ [.int .i64 0, nilV, nilV, .string ⟨#[]⟩, .int .i64 0, .int .i64 0, .int .i64 0] .nil ?_ (.mk 0 [] [] [] 0 0 0 _ _ .nil .nil), HI6.out.p.row (by omega) _, HI6.out.keep.row (Nat.le_refl _) _⟩
    obtain ⟨s1, s2⟩ := HSP.out
    have hsp : Same (New (w.heap.size + 2)) w5 (w6.setRow w.heap.size (de17 true st ex ⟨nm.toArray⟩ a 0 nilV false (.slice a2 ps.length c2) 0 nilV nilV ⟨#[]⟩ 0 0 0 (Pa.hd r).place)) := by
      refine ⟨by have := HOK.out.size; simp only [World.size_setCell] at this; rw [setRow_size]; exact this, fun b hb hl => ?_⟩
      have hb' : w.heap.size + 2 ≤ b := hb
      rw [setRow_other _ _ _ _ (by omega), HOK.out.block b (by simp only [World.size_setCell]; exact hl) (by omega) (by omega), Below.heap_setCell _ _ _ _ (by show b ≠ w.heap.size + 1; omega)]
    exact (HXP.out.mono ⟨Nat.le_refl _, fun _ _ _ => rfl⟩ (fun b hb => Nat.le_trans (by omega) hb) fun _ _ h => h).mono hsp (New.le (by omega)) fun _ _ h => h
set_option maxRecDepth 100000 in
set_option maxHeartbeats 8000000 in
theorem decl_func {w : World} {G d : Nat} {ts r : List Tok} {st ex : Bool} {r1 r2 : List Tok} {a : Nat} {nm : Bs} {r3 : List Tok} {r4 r5 : List Tok} {ps : List Pr} {x : St} (h : PAt N w G ts d) (hgt : Good Rl ts) (hpre : Pre ts r st ex) (h1 : pType r = .ok a r1) (g1 : Good Rl r1) (h2 : pName r1 = .ok nm r2) (g2 : Good Rl r2) (h3 : Pa.want r2 [[59], [61], [91], [40]] = .ok [40] r3) (g3 : Good Rl r3) (cp : ∀ W, PAt N W G r3 d → Calls Tryz.prog 99 #[ptr G] W (PsOk N G d ps r4 W)) (g4 : Good Rl r4) (cb : ∀ W a2 c2, PAt N W G r4 d → W.heap[w.heap.size + 1]? = some (.cells (de17 true st ex ⟨nm.toArray⟩ a 0 nilV false (.slice a2 ps.length c2) 0 nilV nilV ⟨#[]⟩ 0 0 0 (Pa.hd r).place) TDe (0, 0)) → Calls Tryz.prog 100 #[ptr G, ptr (w.heap.size + 1)] W (BoOk N G d Rl (w.heap.size + 1) true st ex ⟨nm.toArray⟩ a 0 (Pa.hd r).place (.slice a2 ps.length c2) x r5 W)) :
    Calls Tryz.prog 65 #[ptr G] w (DeOk N G d ⟨true, st, ex, nm, a, 0, [], true, ps, x, (Pa.hd r).place⟩ r5 w) := by
  have hlt := h.base
  have hg := good_pre hgt hpre
  have HI0 := Lib.hid (OwnI.first (T := TDe) (z := z17) (c := z17) hlt hgt (h.below ((Below.refl _ _).alloc (Nat.le_refl _) _)) (Keep.refl G _))
  rw [World.size_alloc] at HI0
  have hb : Pa.sees ts [kStatic] = st := by rcases hpre with ⟨rfl, -, h, -⟩ | ⟨rfl, h, -⟩ <;> exact h
  have gb : Good Rl (behindIf ts st) := good_behind hgt (by decide) hb
  have k1 : ∀ W, PAt N W G ts d → Calls Tryz.prog 92 #[ptr G, sl1 W] (one W #[115, 116, 97, 116, 105, 99]) (OkPost N G d (.bool st) (behindIf ts st) W) := fun W hW => takesL [kStatic] 1 rfl (by decide) (by decide) hgt hb hW
  have k2 : st = false → ∀ W, PAt N W G ts d → Calls Tryz.prog 92 #[ptr G, sl1 W] (one W #[101, 120, 116, 101, 114, 110]) (OkPost N G d (.bool ex) (behindIf ts ex) W) := fun hst W hW => by
    have hx : Pa.sees ts [kExtern] = ex := by
      rcases hpre with ⟨h1, -⟩ | ⟨-, -, h, -⟩
      · rw [hst] at h1; cases h1
      · exact h
    exact takesL [kExtern] 1 rfl (by decide) (by decide) hgt hx hW
  have c0 : ∀ W, PAt N W G (r) d → Calls Tryz.prog 64 #[ptr G] W (OkPost N G d (tokV (Pa.hd r)) r W) := fun W hW => nextL hg hW
  have c1 : ∀ W, PAt N W G (r) d → Calls Tryz.prog 93 #[ptr G] W (OkPost N G d (.int .i64 (a : Int)) (r1) W) := fun W hW => by have := typedL hg hW; rw [h1] at this; exact this
  have c2 : ∀ W, PAt N W G (r1) d → Calls Tryz.prog 94 #[ptr G] W (OkPost N G d (.string ⟨nm.toArray⟩) (r2) W) := fun W hW => by have := nameL g1 hW; rw [h2] at this; exact this
  have c3 : ∀ W, PAt N W G (r2) d → Calls Tryz.prog 95 #[ptr G, sl4 W] (four W) (OkPost N G d (.string ⟨#[40]⟩) r3 W) := fun W hW => by have := wantL [[59], [61], [91], [40]] 4 rfl (by decide) (by decide) g2 hW; rw [h3] at this; exact this
  clear h
  go_enter Tryz.func65, Tryz.ntmps65
  go_upto_region 3 with (have k1' := k1 _ HI0.out.p; simp only [sl1, one, World.size_alloc] at k1'; (with_reducible refine k1'.mono ?_); rintro e w1 ⟨rfl, hp, hk⟩; have HI1 := Lib.hid (HI0.out.next hlt hp hk gb); have hf1 := HI1.out.frozen 1; have hc1 := HI1.out.cell (i := 1) rfl; have HJ1 := Lib.hid (HI1.out.set hlt 1 (.bool st) (c2 := (de17 false st false ⟨#[]⟩ 0 0 nilV false nilV 0 nilV nilV ⟨#[]⟩ 0 0 0 0)) rfl); clear hp hk k1 k1')
  go_cut [] from 8 to 16 (fun wx => DeC N G d Rl w wx st ex r)
  case first =>
    have hc2 := HJ1.out.cell (i := 1) (v := .bool st) rfl
    have hf2 := HJ1.out.frozen 2
    have hc3 := HJ1.out.cell (i := 2) rfl
    cases st with
    | true =>
      obtain ⟨rfl, rfl⟩ : ex = false ∧ r = ts.tail := by
        rcases hpre with ⟨-, h1, -, h2⟩ | ⟨h1, -⟩
        · exact ⟨h1, h2⟩
        · cases h1
      clear k2 hb
      go_wp2
      go_meet
      case rel => exact HJ1.out.set hlt 2 (.bool false) rfl
    | false =>
      have k3 := k2 rfl
      obtain rfl : r = behindIf ts ex := by
        rcases hpre with ⟨h1, -⟩ | ⟨-, -, -, h2⟩
        · cases h1
        · exact h2
      clear k2 hb
      go_wp2_with (first
        | (have k3' := k3 _ HJ1.out.p; simp only [sl1, one, World.size_setCell] at k3'; (with_reducible refine k3'.mono ?_); rintro e w2 ⟨rfl, hp, hk⟩; have HI2 := Lib.hid (HJ1.out.next hlt hp hk hg); have hf3 := HI2.out.frozen 2; have hc4 := HI2.out.cell (i := 2) rfl; have HJ2 := Lib.hid (HI2.out.set hlt 2 (.bool ex) (c2 := (de17 false false ex ⟨#[]⟩ 0 0 nilV false nilV 0 nilV nilV ⟨#[]⟩ 0 0 0 0)) rfl); clear hp hk k3 k3'))
      go_meet
      case rel => exact HJ2.out
  case rest =>
    have HC := Lib.hid (show OwnI N G d Rl TDe z17 w wc (w.heap.size + 1) r (de17 false st ex ⟨#[]⟩ 0 0 nilV false nilV 0 nilV nilV ⟨#[]⟩ 0 0 0 0) from hcut)
    clear hcut k2 HI0 HI1 HJ1 hf1 hc1 hb
    go_wp2_with (first
      | ((with_reducible refine (c0 _ HC.out.p).mono ?_); rintro e w1 ⟨rfl, hp, hk⟩; have HI1 := Lib.hid (HC.out.next hlt hp hk hg); have hf1 := HI1.out.frozen 16; have hc1 := HI1.out.cell (i := 16) rfl; have HJ1 := Lib.hid (HI1.out.set hlt 16 (.int .i64 ((Pa.hd r).place : Int)) (c2 := (de17 false st ex ⟨#[]⟩ 0 0 nilV false nilV 0 nilV nilV ⟨#[]⟩ 0 0 0 (Pa.hd r).place)) rfl); have HKs1 := Lib.hid hk; clear hp hk; clear c0)
      | (have c1' := c1 _ HJ1.out.p; (try simp only [sl1, one, sl4, four, slN, World.size_alloc, World.size_setCell, setRow_size] at c1'); (with_reducible refine c1'.mono ?_); rintro e w2 ⟨rfl, hp, hk⟩; have HI2 := Lib.hid (HJ1.out.next hlt hp hk g1); have hf2 := HI2.out.frozen 4; have hc2 := HI2.out.cell (i := 4) rfl; have HJ2 := Lib.hid (HI2.out.set hlt 4 (.int .i64 (a : Int)) (c2 := (de17 false st ex ⟨#[]⟩ a 0 nilV false nilV 0 nilV nilV ⟨#[]⟩ 0 0 0 (Pa.hd r).place)) rfl); have HKs2 := Lib.hid hk; clear hp hk; clear c1 c1')
      | (have c2' := c2 _ HJ2.out.p; (try simp only [sl1, one, sl4, four, slN, World.size_alloc, World.size_setCell, setRow_size] at c2'); (with_reducible refine c2'.mono ?_); rintro e w3 ⟨rfl, hp, hk⟩; have HI3 := Lib.hid (HJ2.out.next hlt hp hk g2); have hf3 := HI3.out.frozen 3; have hc3 := HI3.out.cell (i := 3) rfl; have HJ3 := Lib.hid (HI3.out.set hlt 3 (.string ⟨nm.toArray⟩) (c2 := (de17 false st ex ⟨nm.toArray⟩ a 0 nilV false nilV 0 nilV nilV ⟨#[]⟩ 0 0 0 (Pa.hd r).place)) rfl); have HKs3 := Lib.hid hk; clear hp hk; clear c2 c2')
      | (have c3' := c3 _ HJ3.out.p; (try simp only [sl1, one, sl4, four, slN, World.size_alloc, World.size_setCell, setRow_size] at c3'); (with_reducible refine c3'.mono ?_); rintro e w4 ⟨rfl, hp, hk⟩; have HI4 := Lib.hid (HJ3.out.next hlt hp hk g3); have hf4 := HI4.out.frozen 0; have hc4 := HI4.out.cell (i := 0) rfl; have HJ4 := Lib.hid (HI4.out.set hlt 0 (.bool true) (c2 := (de17 true st ex ⟨nm.toArray⟩ a 0 nilV false nilV 0 nilV nilV ⟨#[]⟩ 0 0 0 (Pa.hd r).place)) rfl); have HKs4 := Lib.hid hk; clear hp hk; clear c3 c3')
      | (have cp' := cp _ HJ4.out.p; (try simp only [sl1, one, sl4, four, slN, World.size_alloc, World.size_setCell, setRow_size] at cp'); (with_reducible refine cp'.mono ?_); rintro e w5 ⟨v, rfl, hps, hp, hk⟩; obtain ⟨a2, c2, rfl⟩ := hps.slice; have HI5 := Lib.hid (HJ4.out.next hlt hp hk g4); have hf5 := HI5.out.frozen 8; have hc5 := HI5.out.cell (i := 8) rfl; have HJ5 := Lib.hid (HI5.out.set hlt 8 (.slice a2 ps.length c2) (c2 := (de17 true st ex ⟨nm.toArray⟩ a 0 nilV false (.slice a2 ps.length c2) 0 nilV nilV ⟨#[]⟩ 0 0 0 (Pa.hd r).place)) rfl); have HXP := Lib.hid hps; have HSP := Lib.hid (And.intro HJ4.out.keep.size (Array.getElem?_eq_some_iff.1 HJ4.out.left).1); clear hp hk hps; clear cp cp')
      | ((with_reducible refine (cb _ a2 c2 HJ5.out.p HJ5.out.left).mono ?_); rintro e w6 ⟨k3, nm3, t3, l3, p3, b1, d1, e1, b2, d2, e2, c, rfl, hc, hst, ho⟩; have HI6 := Lib.hid (HJ5.out.out hlt ho); have HOK := Lib.hid ho.keep; have hl6 := HI6.out.left; have hz6 := HI6.out.res; have HX := Lib.hid hst; have HE := Lib.hid hc; have HSB := Lib.hid HJ5.out.keep.size; clear hst ho cb hc)
      | ((with_reducible refine load17 rfl (.tmp 3) rfl (w.heap.size + 1) (de17 true st ex ⟨nm.toArray⟩ a 0 nilV true (.slice a2 ps.length c2) k3 (.slice b1 d1 e1) (.slice b2 d2 e2) ⟨nm3.toArray⟩ t3 l3 p3 (Pa.hd r).place) (size17 _ _ _ _ _ _ _ _ _ _ _ _ _ _ _ _ _) ?xc hl6 ?_); (case xc => simp [go_sem]))
      | ((with_reducible refine store17 rfl (.tmp 2) (.tmp 55) rfl w.heap.size (de17 true st ex ⟨nm.toArray⟩ a 0 nilV true (.slice a2 ps.length c2) k3 (.slice b1 d1 e1) (.slice b2 d2 e2) ⟨nm3.toArray⟩ t3 l3 p3 (Pa.hd r).place) (size17 _ _ _ _ _ _ _ _ _ _ _ _ _ _ _ _ _) (one17 _ _ _ _ _ _ _ _ _ _ _ _ _ _ _ _ _ _ _ _ _ _ _ _ _) rfl ?xa ?xb z17 rfl hz6 ?_); (case xa => simp [go_sem]); (case xb => simp [go_sem])))
    refine fin_decl _ (size17 _ _ _ _ _ _ _ _ _ _ _ _ _ _ _ _ _) _ (by simp) hz6 ⟨_, rfl, DeAt.mk ⟨true, st, ex, nm, a, 0, [], true, ps, x, (Pa.hd r).place⟩ nilV _ [.int .i64 (k3 : Int), .slice b1 d1 e1, .slice b2 d2 e2, .string ⟨nm3.toArray⟩, .int .i64 (t3 : Int), .int .i64 (l3 : Int), .int .i64 (p3 : Int)] .nil ?_ ?_, HI6.out.p.row (by omega) _, HI6.out.keep.row (Nat.le_refl _) _⟩
    · obtain ⟨s1, s2⟩ := HSP.out
      have hsp : Same (New (w.heap.size + 2)) w5 (w6.setRow w.heap.size (de17 true st ex ⟨nm.toArray⟩ a 0 nilV true (.slice a2 ps.length c2) k3 (.slice b1 d1 e1) (.slice b2 d2 e2) ⟨nm3.toArray⟩ t3 l3 p3 (Pa.hd r).place)) := by
        refine ⟨by have := HOK.out.size; simp only [World.size_setCell] at this; rw [setRow_size]; exact this, fun b hb hl => ?_⟩
        have hb' : w.heap.size + 2 ≤ b := hb
        rw [setRow_other _ _ _ _ (by omega), HOK.out.block b (by simp only [World.size_setCell]; exact hl) (by omega) (by omega), Below.heap_setCell _ _ _ _ (by show b ≠ w.heap.size + 1; omega)]
      exact (HXP.out.mono ⟨Nat.le_refl _, fun _ _ _ => rfl⟩ (fun b hb => Nat.le_trans (by omega) hb) fun _ _ h => h).mono hsp (New.le (by omega)) fun _ _ h => h
    · obtain ⟨s1, s2⟩ := HSP.out
      have hss := HSB.out
      have h1 := HX.out.mono (w' := w6.setRow w.heap.size (de17 true st ex ⟨nm.toArray⟩ a 0 nilV true (.slice a2 ps.length c2) k3 (.slice b1 d1 e1) (.slice b2 d2 e2) ⟨nm3.toArray⟩ t3 l3 p3 (Pa.hd r).place)) ⟨by simp, fun b hb hl => setRow_other _ _ _ _ (by have hb' : _ ≤ b := hb; simp only [World.size_setCell] at hb' hss; have := (Array.getElem?_eq_some_iff.1 HJ5.out.left).1; simp only [World.size_setCell] at this; omega)⟩ fun b hb => Nat.le_trans hss hb
      have e4 := congrArg Array.toList HE.out
      have e5 : c = [.int .i64 (k3 : Int), .slice b1 d1 e1, .slice b2 d2 e2, .string ⟨nm3.toArray⟩, .int .i64 (t3 : Int), .int .i64 (l3 : Int), .int .i64 (p3 : Int)] := e4
      rw [e5] at h1
      exact h1
end PaC
end Go.Proofs.YtnlbhnmiekanfaaGreatDoor
/-
  The parser's declarations as the model says. Condition: what the parser holds lies in memory; what real.Parse answers of the texts of reals.
-/
namespace Go.Proofs.YtnlbhnmiekanfaaGreatDoor
open Go.RowKit Go.Deep
set_option linter.unusedVariables false
set_option linter.unusedSimpArgs false
namespace PaC
open Pa Lx
variable {N : Nat} {Rl : Bs → Prop} {rb : Bs → Nat}
theorem arr_step {G f B : Nat} {ts : List Tok} {fu st ex : Bool} {nm : ByteArray} {t l p : Int} {pv : Value} (hr : Reals N G Rl rb) (hg : Good Rl ts) (hB : N ≤ B) :
    (∀ hk r, pArrInits rb f ts = .ok hk r → Good Rl r ∧ ∀ w, PAt N w G ts 0 → w.heap[B]? = some (.cells (de17 fu st ex nm t l nilV false pv 0 nilV nilV ⟨#[]⟩ 0 0 0 p) TDe (0, 0)) → Calls Tryz.prog 98 #[ptr G, ptr B] w (ArOk N G 0 Rl B fu st ex nm t l p pv hk.2 hk.1 r w)) ∧
    (∀ p0 er, pArrInits rb f ts = .bad p0 er → ∀ w, PAt N w G ts 0 → w.heap[B]? = some (.cells (de17 fu st ex nm t l nilV false pv 0 nilV nilV ⟨#[]⟩ 0 0 0 p) TDe (0, 0)) → Calls Tryz.prog 98 #[ptr G, ptr B] w (Bad2 G B (p0 : Int) (er : Int) w)) := by
  cases hb : Pa.sees ts [[61]] with
  | false =>
    have e : pArrInits rb f ts = (Pa.want ts [[59]]).bind fun _ r => .ok (false, []) r := by rw [pArrInits, if_neg (by rw [hb]; decide)]
    cases hw : Pa.want ts [[59]] with
    | out => exact absurd hw want_no_out
    | bad p0 er => rw [e, hw]; exact ⟨fun _ _ h => (by cases h), fun p1 e1 h w hp hd => (by cases h; exact arr_no_bad hp hg hB hd hb hw)⟩
    | ok s r =>
      have gr := (good_want hg (by decide) hw).1
      rw [e, hw]
      refine ⟨fun hk r' h => ?_, fun _ _ h => (by cases h)⟩
      cases h
      exact ⟨gr, fun w hp hd => (arr_no hp hg hB hd hb hw gr).mono fun e w' hq => ⟨none, 0, 0, hq.1, .nil, hq.2⟩⟩
  | true =>
    have e : pArrInits rb f ts = (Pa.want ts.tail [[123]]).bind fun _ r => (pList rb f 2500 [125] 0 r).bind fun xs r2 => (Pa.want r2 [[59]]).bind fun _ r3 => .ok (true, xs) r3 := by rw [pArrInits, if_pos hb]
    have gt : Good Rl ts.tail := good_behind hg (by decide) hb
    cases h1 : Pa.want ts.tail [[123]] with
    | out => exact absurd h1 want_no_out
    | bad p0 er => rw [e, h1]; exact ⟨fun _ _ h => (by cases h), fun p1 e1 h w hp hd => (by cases h; exact arr_open hp hg hB hd hb h1)⟩
    | ok s1 r1 =>
      have g1 := (good_want gt (by decide) h1).1
      have e1 : pArrInits rb f ts = (pList rb f 2500 [125] 0 r1).bind fun xs r2 => (Pa.want r2 [[59]]).bind fun _ r3 => .ok (true, xs) r3 := by rw [e, h1]; rfl
      have cl := ((allX hr f f (Nat.le_refl _)).list 2500 [125] 0 r1 (by decide) (by decide +kernel) (by decide) g1).w
      cases hq : pList rb f 2500 [125] 0 r1 with
      | out => rw [e1, hq]; exact ⟨fun _ _ h => (by cases h), fun _ _ h => (by cases h)⟩
      | bad p0 er => rw [e1, hq]; exact ⟨fun _ _ h => (by cases h), fun p1 e1 h w hp hd => (by cases h; exact arr_bad hp hg hB hd hb h1 g1 (cl.at_bad hq))⟩
      | ok ks r2 =>
        obtain ⟨g2, c2⟩ := cl.at_ok hq
        have e2 : pArrInits rb f ts = (Pa.want r2 [[59]]).bind fun _ r3 => .ok (true, ks) r3 := by rw [e1, hq]; rfl
        cases hw : Pa.want r2 [[59]] with
        | out => exact absurd hw want_no_out
        | bad p0 er => rw [e2, hw]; exact ⟨fun _ _ h => (by cases h), fun p1 e1 h w hp hd => (by cases h; exact arr_end hp hg hB hd hb h1 g1 c2 g2 hw)⟩
        | ok s3 r3 =>
          have g3 := (good_want g2 (by decide) hw).1
          rw [e2, hw]
          refine ⟨fun hk r' h => ?_, fun _ _ h => (by cases h)⟩
          cases h
          exact ⟨g3, fun w hp hd => arr_ok hp hg hB hd hb h1 g1 c2 g2 hw g3⟩
theorem decl_step {G f : Nat} {ts : List Tok} (hf : f ≤ 1000000) (hr : Reals N G Rl rb) (hg : Good Rl ts) : ConW (DeOk N G 0) N G Rl 65 #[ptr G] 0 ts (pDecl rb f ts) := by
  obtain ⟨st, ex, r, hpre, e⟩ : ∃ st ex r, Pre ts r st ex ∧ pDecl rb f ts = (pType r).bind fun t r3 => (pName r3).bind fun n r4 => (Pa.want r4 [[59], [61], [91], [40]]).bind fun s r5 =>
      if s = [61] then (pExpr rb f 0 r5).bind fun x r6 => (Pa.want r6 [[59]]).bind fun _ r7 => .ok ⟨false, st, ex, n, t, 0, [x], true, [], noSt, (Pa.hd r).place⟩ r7
      else if s = [91] then (pLength r5).bind fun len r6 => (pArrInits rb f r6).bind fun hx r7 => .ok ⟨false, st, ex, n, t, len, hx.2, hx.1, [], noSt, (Pa.hd r).place⟩ r7
      else if s = [40] then (pParams f r5).bind fun ps r6 => (pBody rb f r6).bind fun hb r7 => .ok ⟨true, st, ex, n, t, 0, [], hb.1, ps, hb.2, (Pa.hd r).place⟩ r7
      else .ok ⟨false, st, ex, n, t, 0, [], false, [], noSt, (Pa.hd r).place⟩ r5 := by
    cases hs : Pa.sees ts [kStatic] with
    | true => exact ⟨true, false, ts.tail, .inl ⟨rfl, rfl, hs, rfl⟩, by rw [pDecl]; simp only [hs]; rfl⟩
    | false =>
      cases hx : Pa.sees ts [kExtern] with
      | true => exact ⟨false, true, ts.tail, .inr ⟨rfl, hs, hx, rfl⟩, by rw [pDecl]; simp only [hs, if_false, Bool.false_eq_true]; simp only [hx]; rfl⟩
      | false => exact ⟨false, false, ts, .inr ⟨rfl, hs, hx, rfl⟩, by rw [pDecl]; simp only [hs, if_false, Bool.false_eq_true]; simp only [hx]; rfl⟩
  have gr := good_pre hg hpre
  have hx := fun ts hg => (allX hr f f (Nat.le_refl _)).expr 0 ts hg
  cases h1 : pType r with
  | out => exact absurd h1 (typed_no_out gr)
  | bad p er => rw [e, h1]; exact conS_bad fun w hp => decl_typed hp hg hpre h1
  | ok a r1 =>
    have g1 := good_typed gr h1
    rw [h1] at e
    cases h2 : pName r1 with
    | out => exact absurd h2 name_no_out
    | bad p er =>
      have e2 : pDecl rb f ts = .bad p er := by rw [e]; show (pName r1).bind _ = _; rw [h2]; rfl
      rw [e2]; exact conS_bad fun w hp => decl_name hp hg hpre h1 g1 h2
    | ok nm r2 =>
      have g2 := good_name g1 h2
      have e2 : pDecl rb f ts = (Pa.want r2 [[59], [61], [91], [40]]).bind fun s r5 =>
          if s = [61] then (pExpr rb f 0 r5).bind fun x r6 => (Pa.want r6 [[59]]).bind fun _ r7 => .ok ⟨false, st, ex, nm, a, 0, [x], true, [], noSt, (Pa.hd r).place⟩ r7
          else if s = [91] then (pLength r5).bind fun len r6 => (pArrInits rb f r6).bind fun hx r7 => .ok ⟨false, st, ex, nm, a, len, hx.2, hx.1, [], noSt, (Pa.hd r).place⟩ r7
          else if s = [40] then (pParams f r5).bind fun ps r6 => (pBody rb f r6).bind fun hb r7 => .ok ⟨true, st, ex, nm, a, 0, [], hb.1, ps, hb.2, (Pa.hd r).place⟩ r7
          else .ok ⟨false, st, ex, nm, a, 0, [], false, [], noSt, (Pa.hd r).place⟩ r5 := by rw [e]; show (pName r1).bind _ = _; rw [h2]; rfl
      cases h3 : Pa.want r2 [[59], [61], [91], [40]] with
      | out => exact absurd h3 want_no_out
      | bad p er => rw [e2, h3]; exact conS_bad fun w hp => decl_sign hp hg hpre h1 g1 h2 g2 h3
      | ok s r3 =>
        obtain ⟨g3, hm⟩ := good_want g2 (by decide) h3
        rw [h3] at e2
        simp only [List.mem_cons, List.not_mem_nil, or_false] at hm
        rcases hm with rfl | rfl | rfl | rfl
        · have e3 : pDecl rb f ts = .ok ⟨false, st, ex, nm, a, 0, [], false, [], noSt, (Pa.hd r).place⟩ r3 := by rw [e2]; rfl
          rw [e3]; exact conS_ok g3 fun w hp => decl_plain hp hg hpre h1 g1 h2 g2 h3 g3
        · have e3 : pDecl rb f ts = (pExpr rb f 0 r3).bind fun x r6 => (Pa.want r6 [[59]]).bind fun _ r7 => .ok ⟨false, st, ex, nm, a, 0, [x], true, [], noSt, (Pa.hd r).place⟩ r7 := by rw [e2]; rfl
          have cx := (hx r3 g3).w
          cases hq : pExpr rb f 0 r3 with
          | out => rw [e3, hq]; exact conS_out
          | bad p er => rw [e3, hq]; exact conS_bad fun w hp => decl_eq_bad hp hg hpre h1 g1 h2 g2 h3 g3 (cx.at_bad hq)
          | ok x r4 =>
            obtain ⟨g4, c⟩ := cx.at_ok hq
            have e4 : pDecl rb f ts = (Pa.want r4 [[59]]).bind fun _ r7 => .ok ⟨false, st, ex, nm, a, 0, [x], true, [], noSt, (Pa.hd r).place⟩ r7 := by rw [e3, hq]; rfl
            cases hw : Pa.want r4 [[59]] with
            | out => exact absurd hw want_no_out
            | bad p er => rw [e4, hw]; exact conS_bad fun w hp => decl_eq_open hp hg hpre h1 g1 h2 g2 h3 g3 c g4 hw
            | ok s r5 => have g5 := (good_want g4 (by decide) hw).1; rw [e4, hw]; exact conS_ok g5 fun w hp => decl_eq hp hg hpre h1 g1 h2 g2 h3 g3 c g4 hw g5
        · have e3 : pDecl rb f ts = (pLength r3).bind fun len r6 => (pArrInits rb f r6).bind fun hx r7 => .ok ⟨false, st, ex, nm, a, len, hx.2, hx.1, [], noSt, (Pa.hd r).place⟩ r7 := by rw [e2]; rfl
          cases h4 : pLength r3 with
          | out => exact absurd h4 length_no_out
          | bad p er => rw [e3, h4]; exact conS_bad fun w hp => decl_len hp hg hpre h1 g1 h2 g2 h3 g3 h4
          | ok len r4 =>
            have g4 := good_length g3 h4
            have e4 : pDecl rb f ts = (pArrInits rb f r4).bind fun hx r7 => .ok ⟨false, st, ex, nm, a, len, hx.2, hx.1, [], noSt, (Pa.hd r).place⟩ r7 := by rw [e3, h4]; rfl
            cases hq : pArrInits rb f r4 with
            | out => rw [e4, hq]; exact conS_out
            | bad p er => rw [e4, hq]; exact conS_bad fun w hp => decl_arr_bad hp hg hpre h1 g1 h2 g2 h3 g3 h4 g4 fun W hW hd => (arr_step (f := f) hr g4 (by have := hp.base; omega)).2 _ _ hq W hW hd
            | ok hk r5 =>
              have g5 := ((arr_step (N := N) (f := f) (B := N) (fu := true) (st := true) (ex := true) (nm := ⟨#[]⟩) (t := 0) (l := 0) (p := 0) (pv := nilV) hr g4 (Nat.le_refl _)).1 _ _ hq).1
              rw [e4, hq]
              exact conS_ok g5 fun w hp => decl_arr hp hg hpre h1 g1 h2 g2 h3 g3 h4 g4 fun W hW hd => ((arr_step (f := f) hr g4 (by have := hp.base; omega)).1 _ _ hq).2 W hW hd
        · have e3 : pDecl rb f ts = (pParams f r3).bind fun ps r6 => (pBody rb f r6).bind fun hb r7 => .ok ⟨true, st, ex, nm, a, 0, [], hb.1, ps, hb.2, (Pa.hd r).place⟩ r7 := by rw [e2]; rfl
          have cp := params_step (N := N) (G := G) (d := 0) (f := f) g3
          cases hq : pParams f r3 with
          | out => rw [e3, hq]; exact conS_out
          | bad p er => rw [e3, hq]; exact conS_bad fun w hp => decl_params hp hg hpre h1 g1 h2 g2 h3 g3 (cp.at_bad hq)
          | ok ps r4 =>
            obtain ⟨g4, c4⟩ := cp.at_ok hq
            have e4 : pDecl rb f ts = (pBody rb f r4).bind fun hb r7 => .ok ⟨true, st, ex, nm, a, 0, [], hb.1, ps, hb.2, (Pa.hd r).place⟩ r7 := by rw [e3, hq]; rfl
            cases hb : Pa.sees r4 [[59]] with
            | true =>
              have e5 : pDecl rb f ts = .ok ⟨true, st, ex, nm, a, 0, [], false, ps, noSt, (Pa.hd r).place⟩ r4.tail := by rw [e4, pBody, if_pos hb]; rfl
              rw [e5]
              exact conS_ok (good_behind g4 (by decide) hb) fun w hp => decl_proto hp hg hpre h1 g1 h2 g2 h3 g3 c4 g4 fun W a2 c2 hW hd => body_none hW g4 (by have := hp.base; omega) hd hb
            | false =>
              have e5 : pDecl rb f ts = (pBlock rb f 0 r4).bind fun b r7 => .ok ⟨true, st, ex, nm, a, 0, [], true, ps, b, (Pa.hd r).place⟩ r7 := by
                rw [e4, pBody, if_neg (by rw [hb]; decide)]
                cases pBlock rb f 0 r4 <;> rfl
              have cb := (allS hr f hf f (Nat.le_refl _)).block 0 r4 g4
              cases hq2 : pBlock rb f 0 r4 with
              | out => rw [e5, hq2]; exact conS_out
              | bad p er => rw [e5, hq2]; exact conS_bad fun w hp => decl_body hp hg hpre h1 g1 h2 g2 h3 g3 c4 g4 fun W a2 c2 hW hd => body_bad hW g4 (by have := hp.base; omega) hd hb (cb.at_bad hq2)
              | ok x r5 =>
                obtain ⟨g5, c5⟩ := cb.at_ok hq2
                rw [e5, hq2]
                exact conS_ok g5 fun w hp => decl_func hp hg hpre h1 g1 h2 g2 h3 g3 c4 g4 fun W a2 c2 hW hd => body_ok hW g4 (by have := hp.base; omega) hd hb c5 g5
end PaC
end Go.Proofs.YtnlbhnmiekanfaaGreatDoor
