/-
  ParW ParLo ParAp, joined.
  Conditions: those that are written at each.
-/
import Derived.Test.YtnlbhnmiekanfaaGreatDoorPxE
import Derived.Deep.AppendLies
/-
  The parser's statements of one expression, or none: each way through. Condition: what the parser holds lies in memory.
-/
namespace Go.Proofs.YtnlbhnmiekanfaaGreatDoor
open Go.RowKit
set_option linter.unusedVariables false
set_option linter.unusedSimpArgs false
namespace PaC
open Pa Lx
attribute [local go_sem] fld0 fld1 fld2
variable {N : Nat} {Rl : Bs → Prop} {rb : Bs → Nat}
theorem fin_simple {Q : Ending → World → Prop} (k t l p : Int) (nm : ByteArray) (ev kv : Value) {tmps : Array Value} {B : Nat} {w : World} (old : Array Value)
    (hp : tmps.getD 6 undef = .pointer (some ⟨B, 0, none⟩)) (hg : w.heap[B]? = some (.cells old TSt (0, 0))) (hQ : Q (.returned (.agg (st7 k ev kv nm t l p))) (w.setRow B (st7 k ev kv nm t l p))) :
    bodyPost Tryz.prog Tryz.f197 Q .ret { tmps := tmps, defers := [] } (w.setRow B (st7 k ev kv nm t l p)) :=
  bodyPost_ret (v := .agg (st7 k ev kv nm t l p)) (results_cell_row Tryz.results197 tmps _ B TSt (st7 k ev kv nm t l p) (0, 0) _ hp (setRow_heap _ _ _ _ _ _ hg) Tryz.underlying35 rfl (size7 k ev kv nm t l p)) rfl hQ
set_option maxRecDepth 100000 in
set_option maxHeartbeats 4000000 in
theorem simple_none {w : World} {G d kind place : Nat} {ts r : List Tok} {s : Bs} (h : PAt N w G ts d) (hg : Good Rl ts) (hs : Pa.sees ts [[59]] = true) (hw : Pa.want ts [[59]] = .ok s r) (hr : Good Rl r) :
    Calls Tryz.prog 197 #[ptr G, .int .i64 (kind : Int), .int .i64 (place : Int)] w (StOk N G d (.mk kind [] [] [] 0 0 place) r w) := by
  have hlt := h.base
  have HI0 := Lib.hid (OwnI.first (T := TSt) (z := z7) (c := st7 kind (.slice none 0 0) (.slice none 0 0) ⟨#[]⟩ 0 0 place) hlt hg (h.below ((Below.refl _ _).alloc (Nat.le_refl _) _)) (Keep.refl G _))
  rw [World.size_alloc] at HI0
  have c1 : ∀ W, PAt N W G ts d → Calls Tryz.prog 134 #[ptr G, sl1 W] (one W #[59]) (OkPost N G d (.bool true) ts W) := fun W hW => by have := seesL [[59]] 1 rfl (by decide) hg hW; rw [hs] at this; exact this
  have c2 : ∀ W, PAt N W G ts d → Calls Tryz.prog 95 #[ptr G, sl1 W] (one W #[59]) (OkPost N G d (.string ⟨s.toArray⟩) r W) := fun W hW => by have := wantL [[59]] 1 rfl (by decide) (by decide) hg hW; rw [hw] at this; exact this
  have HR := Lib.hid hr
  clear h hw hr
  go_enter Tryz.func197, Tryz.ntmps197
  go_wp2_with (first
    | (have c1' := c1 _ HI0.out.p; simp only [sl1, one, World.size_alloc] at c1'; (with_reducible refine c1'.mono ?_); rintro e w1 ⟨rfl, hp, hk⟩; have HI1 := Lib.hid (HI0.out.next hlt hp hk hg); clear hp hk c1 c1')
    | ((with_reducible refine (c2 _ HI1.out.p).mono ?_); rintro e w2 ⟨rfl, hp, hk⟩; have HI2 := Lib.hid (HI1.out.next hlt hp hk HR.out); have hl2 := HI2.out.left; have hz2 := HI2.out.res; clear hp hk c2)
    | ((with_reducible refine load7 rfl (.tmp 7) rfl (w.heap.size + 1) kind 0 0 place ⟨#[]⟩ (.slice none 0 0) (.slice none 0 0) ?xc hl2 ?_); (case xc => simp [go_sem]))
    | ((with_reducible refine store7 rfl (.tmp 6) (.tmp 22) rfl w.heap.size kind 0 0 place ⟨#[]⟩ none none 0 0 0 0 ?xa ?xb z7 rfl hz2 ?_); (case xa => simp [go_sem]); (case xb => simp [go_sem])))
  refine fin_simple _ _ _ _ _ _ _ _ (by simp) hz2 ⟨_, rfl, .mk kind [] [] [] 0 0 place _ _ .nil .nil, HI2.out.p.row (by omega) _, HI2.out.keep.row (Nat.le_refl _) _⟩
set_option maxRecDepth 100000 in
set_option maxHeartbeats 4000000 in
theorem simple_bad {w : World} {G d kind place : Nat} {ts : List Tok} {p er : Nat} (h : PAt N w G ts d) (hg : Good Rl ts) (hs : Pa.sees ts [[59]] = false) (cx : ∀ W, PAt N W G ts d → Calls Tryz.prog 96 #[ptr G] W (BadPost G (p : Int) (er : Int) W)) :
    Calls Tryz.prog 197 #[ptr G, .int .i64 (kind : Int), .int .i64 (place : Int)] w (BadPost G (p : Int) (er : Int) w) := by
  have hlt := h.base
  have HI0 := Lib.hid (OwnI.first (T := TSt) (z := z7) (c := st7 kind (.slice none 0 0) (.slice none 0 0) ⟨#[]⟩ 0 0 place) hlt hg (h.below ((Below.refl _ _).alloc (Nat.le_refl _) _)) (Keep.refl G _))
  rw [World.size_alloc] at HI0
  have c1 : ∀ W, PAt N W G ts d → Calls Tryz.prog 134 #[ptr G, sl1 W] (one W #[59]) (OkPost N G d (.bool false) ts W) := fun W hW => by have := seesL [[59]] 1 rfl (by decide) hg hW; rw [hs] at this; exact this
  clear h
  go_enter Tryz.func197, Tryz.ntmps197
  go_wp2_with (first
    | (have c1' := c1 _ HI0.out.p; simp only [sl1, one, World.size_alloc] at c1'; (with_reducible refine c1'.mono ?_); rintro e w1 ⟨rfl, hp, hk⟩; have HI1 := Lib.hid (HI0.out.next hlt hp hk hg); clear hp hk c1 c1')
    | ((with_reducible refine (cx _ HI1.out.p).mono ?_); rintro e w2 ⟨rfl, hp, hk⟩; have HW := Lib.hid hp; have HK2 := Lib.hid (HI1.out.keep.trans hk); clear hp hk cx))
  exact ⟨rfl, rfl, HW.out, HK2.out⟩
set_option maxRecDepth 100000 in
set_option maxHeartbeats 4000000 in
theorem simple_open {w : World} {G d kind place : Nat} {ts r : List Tok} {p er : Nat} {x : Ex} (h : PAt N w G ts d) (hg : Good Rl ts) (hs : Pa.sees ts [[59]] = false) (cx : ∀ W, PAt N W G ts d → Calls Tryz.prog 96 #[ptr G] W (ExOk N G d x r W)) (hr : Good Rl r) (hw : Pa.want r [[59]] = .bad p er) :
    Calls Tryz.prog 197 #[ptr G, .int .i64 (kind : Int), .int .i64 (place : Int)] w (BadPost G (p : Int) (er : Int) w) := by
  have hlt := h.base
  have HI0 := Lib.hid (OwnI.first (T := TSt) (z := z7) (c := st7 kind (.slice none 0 0) (.slice none 0 0) ⟨#[]⟩ 0 0 place) hlt hg (h.below ((Below.refl _ _).alloc (Nat.le_refl _) _)) (Keep.refl G _))
  rw [World.size_alloc] at HI0
  have c1 : ∀ W, PAt N W G ts d → Calls Tryz.prog 134 #[ptr G, sl1 W] (one W #[59]) (OkPost N G d (.bool false) ts W) := fun W hW => by have := seesL [[59]] 1 rfl (by decide) hg hW; rw [hs] at this; exact this
  have c2 : ∀ W, PAt N W G r d → Calls Tryz.prog 95 #[ptr G, sl1 W] (one W #[59]) (BadPost G (p : Int) (er : Int) W) := fun W hW => by have := wantL [[59]] 1 rfl (by decide) (by decide) hr hW; rw [hw] at this; exact this
  have HR := Lib.hid hr
  clear h hw hr
  go_enter Tryz.func197, Tryz.ntmps197
  go_wp2_with (first
    | (have c1' := c1 _ HI0.out.p; simp only [sl1, one, World.size_alloc] at c1'; (with_reducible refine c1'.mono ?_); rintro e w1 ⟨rfl, hp, hk⟩; have HI1 := Lib.hid (HI0.out.next hlt hp hk hg); clear hp hk c1 c1')
    | ((with_reducible refine (cx _ HI1.out.p).mono ?_); rintro e w2 ⟨c, rfl, hex, hp, hk⟩; obtain ⟨k1, op1, nm1, n1, b1, t1, p1, a1, l1, q1, e1, z1, -⟩ := hex.eight; rw [e1]; have HI2 := Lib.hid ((HI1.out.next hlt hp hk HR.out).below ((Below.refl w2.heap.size w2).alloc (Nat.le_refl _) (.cells (ex8 k1 ⟨op1.toArray⟩ ⟨nm1.toArray⟩ n1 b1 (.slice a1 l1 q1) t1 p1) TE))); have HN2 := Lib.hid (heap_alloc_new w2 (.cells (ex8 k1 ⟨op1.toArray⟩ ⟨nm1.toArray⟩ n1 b1 (.slice a1 l1 q1) t1 p1) TE)); have HE := Lib.hid e1; have hf2 := HI2.out.frozen 1; have hc2 := HI2.out.cell (i := 1) rfl; have HI3 := Lib.hid (HI2.out.set hlt 1 (.slice (some ⟨w2.heap.size, 0, none⟩) 1 1) (c2 := st7 kind (.slice (some ⟨w2.heap.size, 0, none⟩) 1 1) (.slice none 0 0) ⟨#[]⟩ 0 0 place) rfl); have HX := Lib.hid hex; have HS2 := Lib.hid (And.intro HI1.out.keep.size (And.intro HI1.out.lt (And.intro (Array.getElem?_eq_some_iff.1 HI1.out.left).1 hk.size))); clear hp hk hex e1 cx)
    | (have c2' := c2 _ HI3.out.p; simp only [sl1, one, World.size_alloc, World.size_setCell] at c2'; (with_reducible refine c2'.mono ?_); rintro e w4 ⟨rfl, hp, hk⟩; have HW := Lib.hid hp; have HK4 := Lib.hid (HI3.out.keep.trans hk); clear hp hk c2))
  exact ⟨rfl, rfl, HW.out, HK4.out⟩
set_option maxRecDepth 100000 in
set_option maxHeartbeats 4000000 in
theorem simple_one {w : World} {G d kind place : Nat} {ts r r2 : List Tok} {s : Bs} {x : Ex} (h : PAt N w G ts d) (hg : Good Rl ts) (hs : Pa.sees ts [[59]] = false) (cx : ∀ W, PAt N W G ts d → Calls Tryz.prog 96 #[ptr G] W (ExOk N G d x r W)) (hr : Good Rl r) (hw : Pa.want r [[59]] = .ok s r2) (hr2 : Good Rl r2) :
    Calls Tryz.prog 197 #[ptr G, .int .i64 (kind : Int), .int .i64 (place : Int)] w (StOk N G d (.mk kind [x] [] [] 0 0 place) r2 w) := by
  have hlt := h.base
  have HI0 := Lib.hid (OwnI.first (T := TSt) (z := z7) (c := st7 kind (.slice none 0 0) (.slice none 0 0) ⟨#[]⟩ 0 0 place) hlt hg (h.below ((Below.refl _ _).alloc (Nat.le_refl _) _)) (Keep.refl G _))
  rw [World.size_alloc] at HI0
  have c1 : ∀ W, PAt N W G ts d → Calls Tryz.prog 134 #[ptr G, sl1 W] (one W #[59]) (OkPost N G d (.bool false) ts W) := fun W hW => by have := seesL [[59]] 1 rfl (by decide) hg hW; rw [hs] at this; exact this
  have c2 : ∀ W, PAt N W G r d → Calls Tryz.prog 95 #[ptr G, sl1 W] (one W #[59]) (OkPost N G d (.string ⟨s.toArray⟩) r2 W) := fun W hW => by have := wantL [[59]] 1 rfl (by decide) (by decide) hr hW; rw [hw] at this; exact this
  have HR := Lib.hid hr
  have HR2 := Lib.hid hr2
  clear h hw hr hr2
  go_enter Tryz.func197, Tryz.ntmps197
  go_wp2_with (first
    | (have c1' := c1 _ HI0.out.p; simp only [sl1, one, World.size_alloc] at c1'; (with_reducible refine c1'.mono ?_); rintro e w1 ⟨rfl, hp, hk⟩; have HI1 := Lib.hid (HI0.out.next hlt hp hk hg); clear hp hk c1 c1')
    | ((with_reducible refine (cx _ HI1.out.p).mono ?_); rintro e w2 ⟨c, rfl, hex, hp, hk⟩; obtain ⟨k1, op1, nm1, n1, b1, t1, p1, a1, l1, q1, e1, z1, -⟩ := hex.eight; rw [e1]; have HI2 := Lib.hid ((HI1.out.next hlt hp hk HR.out).below ((Below.refl w2.heap.size w2).alloc (Nat.le_refl _) (.cells (ex8 k1 ⟨op1.toArray⟩ ⟨nm1.toArray⟩ n1 b1 (.slice a1 l1 q1) t1 p1) TE))); have HN2 := Lib.hid (heap_alloc_new w2 (.cells (ex8 k1 ⟨op1.toArray⟩ ⟨nm1.toArray⟩ n1 b1 (.slice a1 l1 q1) t1 p1) TE)); have HE := Lib.hid e1; have hf2 := HI2.out.frozen 1; have hc2 := HI2.out.cell (i := 1) rfl; have HI3 := Lib.hid (HI2.out.set hlt 1 (.slice (some ⟨w2.heap.size, 0, none⟩) 1 1) (c2 := st7 kind (.slice (some ⟨w2.heap.size, 0, none⟩) 1 1) (.slice none 0 0) ⟨#[]⟩ 0 0 place) rfl); have HX := Lib.hid hex; have HS2 := Lib.hid (And.intro HI1.out.keep.size (And.intro HI1.out.lt (And.intro (Array.getElem?_eq_some_iff.1 HI1.out.left).1 hk.size))); clear hp hk hex e1 cx)
    | (have c2' := c2 _ HI3.out.p; simp only [sl1, one, World.size_alloc, World.size_setCell] at c2'; (with_reducible refine c2'.mono ?_); rintro e w4 ⟨rfl, hp, hk⟩; have HI4 := Lib.hid (HI3.out.next hlt hp hk HR2.out); have hl4 := HI4.out.left; have hz4 := HI4.out.res; have HK4 := Lib.hid hk; clear hp hk c2)
    | ((with_reducible refine load7 rfl (.tmp 7) rfl (w.heap.size + 1) kind 0 0 place ⟨#[]⟩ (.slice (some ⟨w2.heap.size, 0, none⟩) 1 1) (.slice none 0 0) ?xc hl4 ?_); (case xc => simp [go_sem]))
    | ((with_reducible refine store7 rfl (.tmp 6) (.tmp 22) rfl w.heap.size kind 0 0 place ⟨#[]⟩ (some ⟨w2.heap.size, 0, none⟩) none 1 1 0 0 ?xa ?xb z7 rfl hz4 ?_); (case xa => simp [go_sem]); (case xb => simp [go_sem])))
  refine fin_simple _ _ _ _ _ _ _ _ (by simp) hz4 ⟨_, rfl, .mk kind [x] [] [] 0 0 place _ _ ?_ .nil, HI4.out.p.row (by omega) _, HI4.out.keep.row (Nat.le_refl _) _⟩
  obtain ⟨s1, s2, s3, s4⟩ := HS2.out
  have hgb : w.heap.size + 1 ≠ w2.heap.size := by omega
  have hN4 : w4.heap[w2.heap.size]? = some (.cells c.toArray TE (0, 0)) := by
    rw [HE.out]
    refine HK4.out.at (by omega) ?_
    rw [Below.heap_setCell _ _ _ _ (by show w2.heap.size ≠ w.heap.size + 1; omega)]
    exact HN2.out
  have hs4 := HK4.out.size
  have hsm : Same (New (w.heap.size + 2)) w2 (w4.setRow w.heap.size (st7 kind (.slice (some ⟨w2.heap.size, 0, none⟩) 1 1) (.slice none 0 0) ⟨#[]⟩ 0 0 place)) := by
    refine ⟨by rw [setRow_size]; have := hs4; simp [World.setCell] at this; omega, fun b hb hl => ?_⟩
    have hb' : w.heap.size + 2 ≤ b := hb
    rw [setRow_other _ _ _ _ (by omega), HK4.out.block b (by simp [World.setCell]; omega) (by omega), Below.heap_setCell _ _ _ _ (by show b ≠ w.heap.size + 1; omega)]
    exact Lib.alloc_old _ _ _ hl
  refine ks_one (HX.out.mono ⟨Nat.le_refl _, fun _ _ _ => rfl⟩ fun b hb => ?_) hsm (New.le (by omega)) ?_ ?_
  · exact Nat.le_trans (by omega) hb
  · show w.heap.size ≤ w2.heap.size; omega
  · rw [setRow_other _ _ _ _ (by omega)]; exact hN4
end PaC
end Go.Proofs.YtnlbhnmiekanfaaGreatDoor
/-
  The parser's declarations within a function: each way through. Condition: what the parser holds lies in memory.
-/
namespace Go.Proofs.YtnlbhnmiekanfaaGreatDoor
open Go.RowKit
set_option linter.unusedVariables false
set_option linter.unusedSimpArgs false
namespace PaC
open Pa Lx
attribute [local go_sem] fld0 fld1 fld2
variable {N : Nat} {Rl : Bs → Prop} {rb : Bs → Nat}
theorem fin_local {Q : Ending → World → Prop} (k t l p : Int) (nm : ByteArray) (ev kv : Value) {tmps : Array Value} {B : Nat} {w : World} (old : Array Value)
    (hp : tmps.getD 2 undef = .pointer (some ⟨B, 0, none⟩)) (hg : w.heap[B]? = some (.cells old TSt (0, 0))) (hQ : Q (.returned (.agg (st7 k ev kv nm t l p))) (w.setRow B (st7 k ev kv nm t l p))) :
    bodyPost Tryz.prog Tryz.f195 Q .ret { tmps := tmps, defers := [] } (w.setRow B (st7 k ev kv nm t l p)) :=
  bodyPost_ret (v := .agg (st7 k ev kv nm t l p)) (results_cell_row Tryz.results195 tmps _ B TSt (st7 k ev kv nm t l p) (0, 0) _ hp (setRow_heap _ _ _ _ _ _ hg) Tryz.underlying35 rfl (size7 k ev kv nm t l p)) rfl hQ
set_option maxRecDepth 100000 in
set_option maxHeartbeats 8000000 in
theorem local_typed {w : World} {G d : Nat} {ts : List Tok} {p er : Nat} (h : PAt N w G ts d) (hg : Good Rl ts) (h1 : pType ts = .bad p er) :
    Calls Tryz.prog 195 #[ptr G] w (BadPost G (p : Int) (er : Int) w) := by
  have hlt := h.base
  have HP0 := Lib.hid (h.below ((Below.refl _ _).alloc (Nat.le_refl _) (.cells z7 TSt)))
  have HK0 := Lib.hid (Keep.refl G (w.alloc (.cells z7 TSt)))
  have c0 : ∀ W, PAt N W G (ts) d → Calls Tryz.prog 64 #[ptr G] W (OkPost N G d (tokV (Pa.hd (ts))) (ts) W) := fun W hW => nextL hg hW
  have c1 : ∀ W, PAt N W G (ts) d → Calls Tryz.prog 93 #[ptr G] W (BadPost G (p : Int) (er : Int) W) := fun W hW => by have := typedL hg hW; rw [h1] at this; exact this
  clear h
  go_enter Tryz.func195, Tryz.ntmps195
  go_wp2_with (first
    | ((with_reducible refine (c0 _ HP0.out).mono ?_); rintro e w1 ⟨rfl, hp, hk⟩; have HI1 := Lib.hid (OwnI.first (T := TSt) (z := z7) (c := (st7 8 (.slice none 0 0) (.slice none 0 0) ⟨#[]⟩ 0 0 (Pa.hd ts).place)) hlt hg hp (HK0.out.trans hk)); clear hp hk; clear c0)
    | (have c1' := c1 _ HI1.out.p; (try simp only [sl1, one, slN, World.size_alloc, World.size_setCell, setRow_size] at c1'); (with_reducible refine c1'.mono ?_); rintro e w2 ⟨rfl, hp, hk⟩; have HW := Lib.hid hp; have HK := Lib.hid (HI1.out.keep.trans hk); clear hp hk; clear c1 c1'))
  exact ⟨rfl, rfl, HW.out, HK.out⟩
set_option maxRecDepth 100000 in
set_option maxHeartbeats 8000000 in
theorem local_name {w : World} {G d : Nat} {ts r1 : List Tok} {a : Nat} {p er : Nat} (h : PAt N w G ts d) (hg : Good Rl ts) (h1 : pType ts = .ok a r1) (g1 : Good Rl r1) (h2 : pName r1 = .bad p er) :
    Calls Tryz.prog 195 #[ptr G] w (BadPost G (p : Int) (er : Int) w) := by
  have hlt := h.base
  have HP0 := Lib.hid (h.below ((Below.refl _ _).alloc (Nat.le_refl _) (.cells z7 TSt)))
  have HK0 := Lib.hid (Keep.refl G (w.alloc (.cells z7 TSt)))
  have c0 : ∀ W, PAt N W G (ts) d → Calls Tryz.prog 64 #[ptr G] W (OkPost N G d (tokV (Pa.hd (ts))) (ts) W) := fun W hW => nextL hg hW
  have c1 : ∀ W, PAt N W G (ts) d → Calls Tryz.prog 93 #[ptr G] W (OkPost N G d (.int .i64 (a : Int)) (r1) W) := fun W hW => by have := typedL hg hW; rw [h1] at this; exact this
  have c2 : ∀ W, PAt N W G (r1) d → Calls Tryz.prog 94 #[ptr G] W (BadPost G (p : Int) (er : Int) W) := fun W hW => by have := nameL g1 hW; rw [h2] at this; exact this
  clear h
  go_enter Tryz.func195, Tryz.ntmps195
  go_wp2_with (first
    | ((with_reducible refine (c0 _ HP0.out).mono ?_); rintro e w1 ⟨rfl, hp, hk⟩; have HI1 := Lib.hid (OwnI.first (T := TSt) (z := z7) (c := (st7 8 (.slice none 0 0) (.slice none 0 0) ⟨#[]⟩ 0 0 (Pa.hd ts).place)) hlt hg hp (HK0.out.trans hk)); clear hp hk; clear c0)
    | (have c1' := c1 _ HI1.out.p; (try simp only [sl1, one, slN, World.size_alloc, World.size_setCell, setRow_size] at c1'); (with_reducible refine c1'.mono ?_); rintro e w2 ⟨rfl, hp, hk⟩; have HI2 := Lib.hid (HI1.out.next hlt hp hk g1); have hf2 := HI2.out.frozen 4; have hc2 := HI2.out.cell (i := 4) rfl; have HJ2 := Lib.hid (HI2.out.set hlt 4 (.int .i64 (a : Int)) (c2 := (st7 8 (.slice none 0 0) (.slice none 0 0) ⟨#[]⟩ a 0 (Pa.hd ts).place)) rfl); have HKs2 := Lib.hid hk; clear hp hk; clear c1 c1')
    | (have c2' := c2 _ HJ2.out.p; (try simp only [sl1, one, slN, World.size_alloc, World.size_setCell, setRow_size] at c2'); (with_reducible refine c2'.mono ?_); rintro e w3 ⟨rfl, hp, hk⟩; have HW := Lib.hid hp; have HK := Lib.hid (HJ2.out.keep.trans hk); clear hp hk; clear c2 c2'))
  exact ⟨rfl, rfl, HW.out, HK.out⟩
set_option maxRecDepth 100000 in
set_option maxHeartbeats 8000000 in
theorem local_length {w : World} {G d : Nat} {ts r1 r2 : List Tok} {a : Nat} {nm : Bs} {p er : Nat} (h : PAt N w G ts d) (hg : Good Rl ts) (h1 : pType ts = .ok a r1) (g1 : Good Rl r1) (h2 : pName r1 = .ok nm r2) (g2 : Good Rl r2) (hb : Pa.sees r2 [[91]] = true) (h3 : pLength r2.tail = .bad p er) :
    Calls Tryz.prog 195 #[ptr G] w (BadPost G (p : Int) (er : Int) w) := by
  have hlt := h.base
  have HP0 := Lib.hid (h.below ((Below.refl _ _).alloc (Nat.le_refl _) (.cells z7 TSt)))
  have HK0 := Lib.hid (Keep.refl G (w.alloc (.cells z7 TSt)))
  have c0 : ∀ W, PAt N W G (ts) d → Calls Tryz.prog 64 #[ptr G] W (OkPost N G d (tokV (Pa.hd (ts))) (ts) W) := fun W hW => nextL hg hW
  have c1 : ∀ W, PAt N W G (ts) d → Calls Tryz.prog 93 #[ptr G] W (OkPost N G d (.int .i64 (a : Int)) (r1) W) := fun W hW => by have := typedL hg hW; rw [h1] at this; exact this
  have c2 : ∀ W, PAt N W G (r1) d → Calls Tryz.prog 94 #[ptr G] W (OkPost N G d (.string ⟨nm.toArray⟩) (r2) W) := fun W hW => by have := nameL g1 hW; rw [h2] at this; exact this
  have c3 : ∀ W, PAt N W G (r2) d → Calls Tryz.prog 92 #[ptr G, sl1 W] (one W #[91]) (OkPost N G d (.bool true) (r2.tail) W) := fun W hW => takesL [[91]] 1 rfl (by decide) (by decide) g2 hb hW
  have c4 : ∀ W, PAt N W G (r2.tail) d → Calls Tryz.prog 97 #[ptr G] W (BadPost G (p : Int) (er : Int) W) := fun W hW => by have := lengthL (show Good Rl r2.tail from good_behind g2 (by decide) hb) hW; rw [h3] at this; exact this
  clear h
  go_enter Tryz.func195, Tryz.ntmps195
  go_wp2_with (first
    | ((with_reducible refine (c0 _ HP0.out).mono ?_); rintro e w1 ⟨rfl, hp, hk⟩; have HI1 := Lib.hid (OwnI.first (T := TSt) (z := z7) (c := (st7 8 (.slice none 0 0) (.slice none 0 0) ⟨#[]⟩ 0 0 (Pa.hd ts).place)) hlt hg hp (HK0.out.trans hk)); clear hp hk; clear c0)
    | (have c1' := c1 _ HI1.out.p; (try simp only [sl1, one, slN, World.size_alloc, World.size_setCell, setRow_size] at c1'); (with_reducible refine c1'.mono ?_); rintro e w2 ⟨rfl, hp, hk⟩; have HI2 := Lib.hid (HI1.out.next hlt hp hk g1); have hf2 := HI2.out.frozen 4; have hc2 := HI2.out.cell (i := 4) rfl; have HJ2 := Lib.hid (HI2.out.set hlt 4 (.int .i64 (a : Int)) (c2 := (st7 8 (.slice none 0 0) (.slice none 0 0) ⟨#[]⟩ a 0 (Pa.hd ts).place)) rfl); have HKs2 := Lib.hid hk; clear hp hk; clear c1 c1')
    | (have c2' := c2 _ HJ2.out.p; (try simp only [sl1, one, slN, World.size_alloc, World.size_setCell, setRow_size] at c2'); (with_reducible refine c2'.mono ?_); rintro e w3 ⟨rfl, hp, hk⟩; have HI3 := Lib.hid (HJ2.out.next hlt hp hk g2); have hf3 := HI3.out.frozen 3; have hc3 := HI3.out.cell (i := 3) rfl; have HJ3 := Lib.hid (HI3.out.set hlt 3 (.string ⟨nm.toArray⟩) (c2 := (st7 8 (.slice none 0 0) (.slice none 0 0) ⟨nm.toArray⟩ a 0 (Pa.hd ts).place)) rfl); have HKs3 := Lib.hid hk; clear hp hk; clear c2 c2')
    | (have c3' := c3 _ HJ3.out.p; (try simp only [sl1, one, slN, World.size_alloc, World.size_setCell, setRow_size] at c3'); (with_reducible refine c3'.mono ?_); rintro e w4 ⟨rfl, hp, hk⟩; have HI4 := Lib.hid (HJ3.out.next hlt hp hk (good_behind g2 (by decide) hb)); have HKs4 := Lib.hid hk; clear hp hk; clear c3 c3')
    | ((with_reducible refine (c4 _ HI4.out.p).mono ?_); rintro e w5 ⟨rfl, hp, hk⟩; have HW := Lib.hid hp; have HK := Lib.hid (HI4.out.keep.trans hk); clear hp hk; clear c4))
  exact ⟨rfl, rfl, HW.out, HK.out⟩
set_option maxRecDepth 100000 in
set_option maxHeartbeats 8000000 in
theorem local_one_open {w : World} {G d : Nat} {ts r1 r2 : List Tok} {a : Nat} {nm : Bs} {p er : Nat} (h : PAt N w G ts d) (hg : Good Rl ts) (h1 : pType ts = .ok a r1) (g1 : Good Rl r1) (h2 : pName r1 = .ok nm r2) (g2 : Good Rl r2) (hb : Pa.sees r2 [[91]] = false) (he : Pa.sees r2 [[61]] = false) (hw : Pa.want r2 [[59]] = .bad p er) :
    Calls Tryz.prog 195 #[ptr G] w (BadPost G (p : Int) (er : Int) w) := by
  have hlt := h.base
  have HP0 := Lib.hid (h.below ((Below.refl _ _).alloc (Nat.le_refl _) (.cells z7 TSt)))
  have HK0 := Lib.hid (Keep.refl G (w.alloc (.cells z7 TSt)))
  have c0 : ∀ W, PAt N W G (ts) d → Calls Tryz.prog 64 #[ptr G] W (OkPost N G d (tokV (Pa.hd (ts))) (ts) W) := fun W hW => nextL hg hW
  have c1 : ∀ W, PAt N W G (ts) d → Calls Tryz.prog 93 #[ptr G] W (OkPost N G d (.int .i64 (a : Int)) (r1) W) := fun W hW => by have := typedL hg hW; rw [h1] at this; exact this
  have c2 : ∀ W, PAt N W G (r1) d → Calls Tryz.prog 94 #[ptr G] W (OkPost N G d (.string ⟨nm.toArray⟩) (r2) W) := fun W hW => by have := nameL g1 hW; rw [h2] at this; exact this
  have c3 : ∀ W, PAt N W G (r2) d → Calls Tryz.prog 92 #[ptr G, sl1 W] (one W #[91]) (OkPost N G d (.bool false) (r2) W) := fun W hW => takesL [[91]] 1 rfl (by decide) (by decide) g2 hb hW
  have c4 : ∀ W, PAt N W G (r2) d → Calls Tryz.prog 92 #[ptr G, sl1 W] (one W #[61]) (OkPost N G d (.bool false) (r2) W) := fun W hW => takesL [[61]] 1 rfl (by decide) (by decide) g2 he hW
  have c5 : ∀ W, PAt N W G (r2) d → Calls Tryz.prog 95 #[ptr G, sl1 W] (one W #[59]) (BadPost G (p : Int) (er : Int) W) := fun W hW => by have := wantL [[59]] 1 rfl (by decide) (by decide) g2 hW; rw [hw] at this; exact this
  clear h
  go_enter Tryz.func195, Tryz.ntmps195
  go_wp2_with (first
    | ((with_reducible refine (c0 _ HP0.out).mono ?_); rintro e w1 ⟨rfl, hp, hk⟩; have HI1 := Lib.hid (OwnI.first (T := TSt) (z := z7) (c := (st7 8 (.slice none 0 0) (.slice none 0 0) ⟨#[]⟩ 0 0 (Pa.hd ts).place)) hlt hg hp (HK0.out.trans hk)); clear hp hk; clear c0)
    | (have c1' := c1 _ HI1.out.p; (try simp only [sl1, one, slN, World.size_alloc, World.size_setCell, setRow_size] at c1'); (with_reducible refine c1'.mono ?_); rintro e w2 ⟨rfl, hp, hk⟩; have HI2 := Lib.hid (HI1.out.next hlt hp hk g1); have hf2 := HI2.out.frozen 4; have hc2 := HI2.out.cell (i := 4) rfl; have HJ2 := Lib.hid (HI2.out.set hlt 4 (.int .i64 (a : Int)) (c2 := (st7 8 (.slice none 0 0) (.slice none 0 0) ⟨#[]⟩ a 0 (Pa.hd ts).place)) rfl); have HKs2 := Lib.hid hk; clear hp hk; clear c1 c1')
    | (have c2' := c2 _ HJ2.out.p; (try simp only [sl1, one, slN, World.size_alloc, World.size_setCell, setRow_size] at c2'); (with_reducible refine c2'.mono ?_); rintro e w3 ⟨rfl, hp, hk⟩; have HI3 := Lib.hid (HJ2.out.next hlt hp hk g2); have hf3 := HI3.out.frozen 3; have hc3 := HI3.out.cell (i := 3) rfl; have HJ3 := Lib.hid (HI3.out.set hlt 3 (.string ⟨nm.toArray⟩) (c2 := (st7 8 (.slice none 0 0) (.slice none 0 0) ⟨nm.toArray⟩ a 0 (Pa.hd ts).place)) rfl); have HKs3 := Lib.hid hk; clear hp hk; clear c2 c2')
    | (have c3' := c3 _ HJ3.out.p; (try simp only [sl1, one, slN, World.size_alloc, World.size_setCell, setRow_size] at c3'); (with_reducible refine c3'.mono ?_); rintro e w4 ⟨rfl, hp, hk⟩; have HI4 := Lib.hid (HJ3.out.next hlt hp hk (good_behind g2 (by decide) hb)); have HKs4 := Lib.hid hk; clear hp hk; clear c3 c3')
    | ((with_reducible refine (c4 _ HI4.out.p).mono ?_); rintro e w5 ⟨rfl, hp, hk⟩; have HI5 := Lib.hid (HI4.out.next hlt hp hk (good_behind g2 (by decide) he)); have HKs5 := Lib.hid hk; clear hp hk; clear c4)
    | ((with_reducible refine (c5 _ HI5.out.p).mono ?_); rintro e w6 ⟨rfl, hp, hk⟩; have HW := Lib.hid hp; have HK := Lib.hid (HI5.out.keep.trans hk); clear hp hk; clear c5))
  exact ⟨rfl, rfl, HW.out, HK.out⟩
set_option maxRecDepth 100000 in
set_option maxHeartbeats 8000000 in
theorem local_one_plain {w : World} {G d : Nat} {ts r1 r2 : List Tok} {a : Nat} {nm : Bs} {r6 : List Tok} {s : Bs} (h : PAt N w G ts d) (hg : Good Rl ts) (h1 : pType ts = .ok a r1) (g1 : Good Rl r1) (h2 : pName r1 = .ok nm r2) (g2 : Good Rl r2) (hb : Pa.sees r2 [[91]] = false) (he : Pa.sees r2 [[61]] = false) (hw : Pa.want r2 [[59]] = .ok s r6) (g6 : Good Rl r6) :
    Calls Tryz.prog 195 #[ptr G] w (StOk N G d (.mk 8 [] [] nm a 0 (Pa.hd ts).place) r6 w) := by
  have hlt := h.base
  have HP0 := Lib.hid (h.below ((Below.refl _ _).alloc (Nat.le_refl _) (.cells z7 TSt)))
  have HK0 := Lib.hid (Keep.refl G (w.alloc (.cells z7 TSt)))
  have c0 : ∀ W, PAt N W G (ts) d → Calls Tryz.prog 64 #[ptr G] W (OkPost N G d (tokV (Pa.hd (ts))) (ts) W) := fun W hW => nextL hg hW
  have c1 : ∀ W, PAt N W G (ts) d → Calls Tryz.prog 93 #[ptr G] W (OkPost N G d (.int .i64 (a : Int)) (r1) W) := fun W hW => by have := typedL hg hW; rw [h1] at this; exact this
  have c2 : ∀ W, PAt N W G (r1) d → Calls Tryz.prog 94 #[ptr G] W (OkPost N G d (.string ⟨nm.toArray⟩) (r2) W) := fun W hW => by have := nameL g1 hW; rw [h2] at this; exact this
  have c3 : ∀ W, PAt N W G (r2) d → Calls Tryz.prog 92 #[ptr G, sl1 W] (one W #[91]) (OkPost N G d (.bool false) (r2) W) := fun W hW => takesL [[91]] 1 rfl (by decide) (by decide) g2 hb hW
  have c4 : ∀ W, PAt N W G (r2) d → Calls Tryz.prog 92 #[ptr G, sl1 W] (one W #[61]) (OkPost N G d (.bool false) (r2) W) := fun W hW => takesL [[61]] 1 rfl (by decide) (by decide) g2 he hW
  have c5 : ∀ W, PAt N W G (r2) d → Calls Tryz.prog 95 #[ptr G, sl1 W] (one W #[59]) (OkPost N G d (.string ⟨s.toArray⟩) (r6) W) := fun W hW => by have := wantL [[59]] 1 rfl (by decide) (by decide) g2 hW; rw [hw] at this; exact this
  clear h
  go_enter Tryz.func195, Tryz.ntmps195
  go_wp2_with (first
    | ((with_reducible refine (c0 _ HP0.out).mono ?_); rintro e w1 ⟨rfl, hp, hk⟩; have HI1 := Lib.hid (OwnI.first (T := TSt) (z := z7) (c := (st7 8 (.slice none 0 0) (.slice none 0 0) ⟨#[]⟩ 0 0 (Pa.hd ts).place)) hlt hg hp (HK0.out.trans hk)); clear hp hk; clear c0)
    | (have c1' := c1 _ HI1.out.p; (try simp only [sl1, one, slN, World.size_alloc, World.size_setCell, setRow_size] at c1'); (with_reducible refine c1'.mono ?_); rintro e w2 ⟨rfl, hp, hk⟩; have HI2 := Lib.hid (HI1.out.next hlt hp hk g1); have hf2 := HI2.out.frozen 4; have hc2 := HI2.out.cell (i := 4) rfl; have HJ2 := Lib.hid (HI2.out.set hlt 4 (.int .i64 (a : Int)) (c2 := (st7 8 (.slice none 0 0) (.slice none 0 0) ⟨#[]⟩ a 0 (Pa.hd ts).place)) rfl); have HKs2 := Lib.hid hk; clear hp hk; clear c1 c1')
    | (have c2' := c2 _ HJ2.out.p; (try simp only [sl1, one, slN, World.size_alloc, World.size_setCell, setRow_size] at c2'); (with_reducible refine c2'.mono ?_); rintro e w3 ⟨rfl, hp, hk⟩; have HI3 := Lib.hid (HJ2.out.next hlt hp hk g2); have hf3 := HI3.out.frozen 3; have hc3 := HI3.out.cell (i := 3) rfl; have HJ3 := Lib.hid (HI3.out.set hlt 3 (.string ⟨nm.toArray⟩) (c2 := (st7 8 (.slice none 0 0) (.slice none 0 0) ⟨nm.toArray⟩ a 0 (Pa.hd ts).place)) rfl); have HKs3 := Lib.hid hk; clear hp hk; clear c2 c2')
    | (have c3' := c3 _ HJ3.out.p; (try simp only [sl1, one, slN, World.size_alloc, World.size_setCell, setRow_size] at c3'); (with_reducible refine c3'.mono ?_); rintro e w4 ⟨rfl, hp, hk⟩; have HI4 := Lib.hid (HJ3.out.next hlt hp hk (good_behind g2 (by decide) hb)); have HKs4 := Lib.hid hk; clear hp hk; clear c3 c3')
    | ((with_reducible refine (c4 _ HI4.out.p).mono ?_); rintro e w5 ⟨rfl, hp, hk⟩; have HI5 := Lib.hid (HI4.out.next hlt hp hk (good_behind g2 (by decide) he)); have HKs5 := Lib.hid hk; clear hp hk; clear c4)
    | ((with_reducible refine (c5 _ HI5.out.p).mono ?_); rintro e w6 ⟨rfl, hp, hk⟩; have HI6 := Lib.hid (HI5.out.next hlt hp hk g6); have HKs6 := Lib.hid hk; clear hp hk; have hl6 := HI6.out.left; have hz6 := HI6.out.res; clear c5)
    | ((with_reducible refine load7 rfl (.tmp 3) rfl w1.heap.size 8 a 0 (Pa.hd ts).place ⟨nm.toArray⟩ (.slice none 0 0) (.slice none 0 0) ?xc hl6 ?_); (case xc => simp [go_sem]))
    | ((with_reducible refine store7 rfl (.tmp 2) (.tmp 30) rfl w.heap.size 8 a 0 (Pa.hd ts).place ⟨nm.toArray⟩ none none 0 0 0 0 ?xa ?xb z7 rfl hz6 ?_); (case xa => simp [go_sem]); (case xb => simp [go_sem])))
  refine fin_local _ _ _ _ _ _ _ _ (by simp) hz6 ⟨_, rfl, .mk 8 [] [] nm a 0 (Pa.hd ts).place _ _ .nil .nil, HI6.out.p.row (by omega) _, HI6.out.keep.row (Nat.le_refl _) _⟩
set_option maxRecDepth 100000 in
set_option maxHeartbeats 8000000 in
theorem local_one_bad {w : World} {G d : Nat} {ts r1 r2 : List Tok} {a : Nat} {nm : Bs} {p er : Nat} (h : PAt N w G ts d) (hg : Good Rl ts) (h1 : pType ts = .ok a r1) (g1 : Good Rl r1) (h2 : pName r1 = .ok nm r2) (g2 : Good Rl r2) (hb : Pa.sees r2 [[91]] = false) (he : Pa.sees r2 [[61]] = true) (cx : ∀ W, PAt N W G r2.tail d → Calls Tryz.prog 96 #[ptr G] W (BadPost G (p : Int) (er : Int) W)) :
    Calls Tryz.prog 195 #[ptr G] w (BadPost G (p : Int) (er : Int) w) := by
  have hlt := h.base
  have HP0 := Lib.hid (h.below ((Below.refl _ _).alloc (Nat.le_refl _) (.cells z7 TSt)))
  have HK0 := Lib.hid (Keep.refl G (w.alloc (.cells z7 TSt)))
  have c0 : ∀ W, PAt N W G (ts) d → Calls Tryz.prog 64 #[ptr G] W (OkPost N G d (tokV (Pa.hd (ts))) (ts) W) := fun W hW => nextL hg hW
  have c1 : ∀ W, PAt N W G (ts) d → Calls Tryz.prog 93 #[ptr G] W (OkPost N G d (.int .i64 (a : Int)) (r1) W) := fun W hW => by have := typedL hg hW; rw [h1] at this; exact this
  have c2 : ∀ W, PAt N W G (r1) d → Calls Tryz.prog 94 #[ptr G] W (OkPost N G d (.string ⟨nm.toArray⟩) (r2) W) := fun W hW => by have := nameL g1 hW; rw [h2] at this; exact this
  have c3 : ∀ W, PAt N W G (r2) d → Calls Tryz.prog 92 #[ptr G, sl1 W] (one W #[91]) (OkPost N G d (.bool false) (r2) W) := fun W hW => takesL [[91]] 1 rfl (by decide) (by decide) g2 hb hW
  have c4 : ∀ W, PAt N W G (r2) d → Calls Tryz.prog 92 #[ptr G, sl1 W] (one W #[61]) (OkPost N G d (.bool true) (r2.tail) W) := fun W hW => takesL [[61]] 1 rfl (by decide) (by decide) g2 he hW
  clear h
  go_enter Tryz.func195, Tryz.ntmps195
  go_wp2_with (first
    | ((with_reducible refine (c0 _ HP0.out).mono ?_); rintro e w1 ⟨rfl, hp, hk⟩; have HI1 := Lib.hid (OwnI.first (T := TSt) (z := z7) (c := (st7 8 (.slice none 0 0) (.slice none 0 0) ⟨#[]⟩ 0 0 (Pa.hd ts).place)) hlt hg hp (HK0.out.trans hk)); clear hp hk; clear c0)
    | (have c1' := c1 _ HI1.out.p; (try simp only [sl1, one, slN, World.size_alloc, World.size_setCell, setRow_size] at c1'); (with_reducible refine c1'.mono ?_); rintro e w2 ⟨rfl, hp, hk⟩; have HI2 := Lib.hid (HI1.out.next hlt hp hk g1); have hf2 := HI2.out.frozen 4; have hc2 := HI2.out.cell (i := 4) rfl; have HJ2 := Lib.hid (HI2.out.set hlt 4 (.int .i64 (a : Int)) (c2 := (st7 8 (.slice none 0 0) (.slice none 0 0) ⟨#[]⟩ a 0 (Pa.hd ts).place)) rfl); have HKs2 := Lib.hid hk; clear hp hk; clear c1 c1')
    | (have c2' := c2 _ HJ2.out.p; (try simp only [sl1, one, slN, World.size_alloc, World.size_setCell, setRow_size] at c2'); (with_reducible refine c2'.mono ?_); rintro e w3 ⟨rfl, hp, hk⟩; have HI3 := Lib.hid (HJ2.out.next hlt hp hk g2); have hf3 := HI3.out.frozen 3; have hc3 := HI3.out.cell (i := 3) rfl; have HJ3 := Lib.hid (HI3.out.set hlt 3 (.string ⟨nm.toArray⟩) (c2 := (st7 8 (.slice none 0 0) (.slice none 0 0) ⟨nm.toArray⟩ a 0 (Pa.hd ts).place)) rfl); have HKs3 := Lib.hid hk; clear hp hk; clear c2 c2')
    | (have c3' := c3 _ HJ3.out.p; (try simp only [sl1, one, slN, World.size_alloc, World.size_setCell, setRow_size] at c3'); (with_reducible refine c3'.mono ?_); rintro e w4 ⟨rfl, hp, hk⟩; have HI4 := Lib.hid (HJ3.out.next hlt hp hk (good_behind g2 (by decide) hb)); have HKs4 := Lib.hid hk; clear hp hk; clear c3 c3')
    | ((with_reducible refine (c4 _ HI4.out.p).mono ?_); rintro e w5 ⟨rfl, hp, hk⟩; have HI5 := Lib.hid (HI4.out.next hlt hp hk (good_behind g2 (by decide) he)); have HKs5 := Lib.hid hk; clear hp hk; clear c4)
    | ((with_reducible refine (cx _ HI5.out.p).mono ?_); rintro e w6 ⟨rfl, hp, hk⟩; have HW := Lib.hid hp; have HK := Lib.hid (HI5.out.keep.trans hk); clear hp hk; clear cx))
  exact ⟨rfl, rfl, HW.out, HK.out⟩
set_option maxRecDepth 100000 in
set_option maxHeartbeats 8000000 in
theorem local_one_set_open {w : World} {G d : Nat} {ts r1 r2 : List Tok} {a : Nat} {nm : Bs} {r5 : List Tok} {x : Ex} {p er : Nat} (h : PAt N w G ts d) (hg : Good Rl ts) (h1 : pType ts = .ok a r1) (g1 : Good Rl r1) (h2 : pName r1 = .ok nm r2) (g2 : Good Rl r2) (hb : Pa.sees r2 [[91]] = false) (he : Pa.sees r2 [[61]] = true) (cx : ∀ W, PAt N W G r2.tail d → Calls Tryz.prog 96 #[ptr G] W (ExOk N G d x r5 W)) (g5 : Good Rl r5) (hw : Pa.want r5 [[59]] = .bad p er) :
    Calls Tryz.prog 195 #[ptr G] w (BadPost G (p : Int) (er : Int) w) := by
  have hlt := h.base
  have HP0 := Lib.hid (h.below ((Below.refl _ _).alloc (Nat.le_refl _) (.cells z7 TSt)))
  have HK0 := Lib.hid (Keep.refl G (w.alloc (.cells z7 TSt)))
  have c0 : ∀ W, PAt N W G (ts) d → Calls Tryz.prog 64 #[ptr G] W (OkPost N G d (tokV (Pa.hd (ts))) (ts) W) := fun W hW => nextL hg hW
  have c1 : ∀ W, PAt N W G (ts) d → Calls Tryz.prog 93 #[ptr G] W (OkPost N G d (.int .i64 (a : Int)) (r1) W) := fun W hW => by have := typedL hg hW; rw [h1] at this; exact this
  have c2 : ∀ W, PAt N W G (r1) d → Calls Tryz.prog 94 #[ptr G] W (OkPost N G d (.string ⟨nm.toArray⟩) (r2) W) := fun W hW => by have := nameL g1 hW; rw [h2] at this; exact this
  have c3 : ∀ W, PAt N W G (r2) d → Calls Tryz.prog 92 #[ptr G, sl1 W] (one W #[91]) (OkPost N G d (.bool false) (r2) W) := fun W hW => takesL [[91]] 1 rfl (by decide) (by decide) g2 hb hW
  have c4 : ∀ W, PAt N W G (r2) d → Calls Tryz.prog 92 #[ptr G, sl1 W] (one W #[61]) (OkPost N G d (.bool true) (r2.tail) W) := fun W hW => takesL [[61]] 1 rfl (by decide) (by decide) g2 he hW
  have c5 : ∀ W, PAt N W G (r5) d → Calls Tryz.prog 95 #[ptr G, sl1 W] (one W #[59]) (BadPost G (p : Int) (er : Int) W) := fun W hW => by have := wantL [[59]] 1 rfl (by decide) (by decide) g5 hW; rw [hw] at this; exact this
  clear h
  go_enter Tryz.func195, Tryz.ntmps195
  go_wp2_with (first
    | ((with_reducible refine (c0 _ HP0.out).mono ?_); rintro e w1 ⟨rfl, hp, hk⟩; have HI1 := Lib.hid (OwnI.first (T := TSt) (z := z7) (c := (st7 8 (.slice none 0 0) (.slice none 0 0) ⟨#[]⟩ 0 0 (Pa.hd ts).place)) hlt hg hp (HK0.out.trans hk)); clear hp hk; clear c0)
    | (have c1' := c1 _ HI1.out.p; (try simp only [sl1, one, slN, World.size_alloc, World.size_setCell, setRow_size] at c1'); (with_reducible refine c1'.mono ?_); rintro e w2 ⟨rfl, hp, hk⟩; have HI2 := Lib.hid (HI1.out.next hlt hp hk g1); have hf2 := HI2.out.frozen 4; have hc2 := HI2.out.cell (i := 4) rfl; have HJ2 := Lib.hid (HI2.out.set hlt 4 (.int .i64 (a : Int)) (c2 := (st7 8 (.slice none 0 0) (.slice none 0 0) ⟨#[]⟩ a 0 (Pa.hd ts).place)) rfl); have HKs2 := Lib.hid hk; clear hp hk; clear c1 c1')
    | (have c2' := c2 _ HJ2.out.p; (try simp only [sl1, one, slN, World.size_alloc, World.size_setCell, setRow_size] at c2'); (with_reducible refine c2'.mono ?_); rintro e w3 ⟨rfl, hp, hk⟩; have HI3 := Lib.hid (HJ2.out.next hlt hp hk g2); have hf3 := HI3.out.frozen 3; have hc3 := HI3.out.cell (i := 3) rfl; have HJ3 := Lib.hid (HI3.out.set hlt 3 (.string ⟨nm.toArray⟩) (c2 := (st7 8 (.slice none 0 0) (.slice none 0 0) ⟨nm.toArray⟩ a 0 (Pa.hd ts).place)) rfl); have HKs3 := Lib.hid hk; clear hp hk; clear c2 c2')
    | (have c3' := c3 _ HJ3.out.p; (try simp only [sl1, one, slN, World.size_alloc, World.size_setCell, setRow_size] at c3'); (with_reducible refine c3'.mono ?_); rintro e w4 ⟨rfl, hp, hk⟩; have HI4 := Lib.hid (HJ3.out.next hlt hp hk (good_behind g2 (by decide) hb)); have HKs4 := Lib.hid hk; clear hp hk; clear c3 c3')
    | ((with_reducible refine (c4 _ HI4.out.p).mono ?_); rintro e w5 ⟨rfl, hp, hk⟩; have HI5 := Lib.hid (HI4.out.next hlt hp hk (good_behind g2 (by decide) he)); have HKs5 := Lib.hid hk; clear hp hk; clear c4)
    | ((with_reducible refine (cx _ HI5.out.p).mono ?_); rintro e w6 ⟨c, rfl, hex, hp, hk⟩; obtain ⟨k1, op1, nm1, n1, b1, t1, p1, a1, l1, q1, e1, z1, -⟩ := hex.eight; rw [e1]; have HI6 := Lib.hid ((HI5.out.next hlt hp hk g5).below ((Below.refl w6.heap.size w6).alloc (Nat.le_refl _) (.cells (ex8 k1 ⟨op1.toArray⟩ ⟨nm1.toArray⟩ n1 b1 (.slice a1 l1 q1) t1 p1) TE))); have HN := Lib.hid (heap_alloc_new w6 (.cells (ex8 k1 ⟨op1.toArray⟩ ⟨nm1.toArray⟩ n1 b1 (.slice a1 l1 q1) t1 p1) TE)); have HE := Lib.hid e1; have hf6 := HI6.out.frozen 1; have hc6 := HI6.out.cell (i := 1) rfl; have HJ6 := Lib.hid (HI6.out.set hlt 1 (.slice (some ⟨w6.heap.size, 0, none⟩) 1 1) (c2 := (st7 8 (.slice (some ⟨w6.heap.size, 0, none⟩) 1 1) (.slice none 0 0) ⟨nm.toArray⟩ a 0 (Pa.hd ts).place)) rfl); have HX := Lib.hid hex; have HS := Lib.hid (And.intro HI5.out.keep.size (And.intro HI5.out.lt (And.intro (Array.getElem?_eq_some_iff.1 HI5.out.left).1 hk.size))); clear hp hk hex e1; clear cx)
    | (have c5' := c5 _ HJ6.out.p; (try simp only [sl1, one, slN, World.size_alloc, World.size_setCell, setRow_size] at c5'); (with_reducible refine c5'.mono ?_); rintro e w7 ⟨rfl, hp, hk⟩; have HW := Lib.hid hp; have HK := Lib.hid (HJ6.out.keep.trans hk); clear hp hk; clear c5 c5'))
  exact ⟨rfl, rfl, HW.out, HK.out⟩
set_option maxRecDepth 100000 in
set_option maxHeartbeats 8000000 in
theorem local_one_set {w : World} {G d : Nat} {ts r1 r2 : List Tok} {a : Nat} {nm : Bs} {r5 : List Tok} {x : Ex} {r6 : List Tok} {s : Bs} (h : PAt N w G ts d) (hg : Good Rl ts) (h1 : pType ts = .ok a r1) (g1 : Good Rl r1) (h2 : pName r1 = .ok nm r2) (g2 : Good Rl r2) (hb : Pa.sees r2 [[91]] = false) (he : Pa.sees r2 [[61]] = true) (cx : ∀ W, PAt N W G r2.tail d → Calls Tryz.prog 96 #[ptr G] W (ExOk N G d x r5 W)) (g5 : Good Rl r5) (hw : Pa.want r5 [[59]] = .ok s r6) (g6 : Good Rl r6) :
    Calls Tryz.prog 195 #[ptr G] w (StOk N G d (.mk 8 [x] [] nm a 0 (Pa.hd ts).place) r6 w) := by
  have hlt := h.base
  have HP0 := Lib.hid (h.below ((Below.refl _ _).alloc (Nat.le_refl _) (.cells z7 TSt)))
  have HK0 := Lib.hid (Keep.refl G (w.alloc (.cells z7 TSt)))
  have c0 : ∀ W, PAt N W G (ts) d → Calls Tryz.prog 64 #[ptr G] W (OkPost N G d (tokV (Pa.hd (ts))) (ts) W) := fun W hW => nextL hg hW
  have c1 : ∀ W, PAt N W G (ts) d → Calls Tryz.prog 93 #[ptr G] W (OkPost N G d (.int .i64 (a : Int)) (r1) W) := fun W hW => by have := typedL hg hW; rw [h1] at this; exact this
  have c2 : ∀ W, PAt N W G (r1) d → Calls Tryz.prog 94 #[ptr G] W (OkPost N G d (.string ⟨nm.toArray⟩) (r2) W) := fun W hW => by have := nameL g1 hW; rw [h2] at this; exact this
  have c3 : ∀ W, PAt N W G (r2) d → Calls Tryz.prog 92 #[ptr G, sl1 W] (one W #[91]) (OkPost N G d (.bool false) (r2) W) := fun W hW => takesL [[91]] 1 rfl (by decide) (by decide) g2 hb hW
  have c4 : ∀ W, PAt N W G (r2) d → Calls Tryz.prog 92 #[ptr G, sl1 W] (one W #[61]) (OkPost N G d (.bool true) (r2.tail) W) := fun W hW => takesL [[61]] 1 rfl (by decide) (by decide) g2 he hW
  have c5 : ∀ W, PAt N W G (r5) d → Calls Tryz.prog 95 #[ptr G, sl1 W] (one W #[59]) (OkPost N G d (.string ⟨s.toArray⟩) (r6) W) := fun W hW => by have := wantL [[59]] 1 rfl (by decide) (by decide) g5 hW; rw [hw] at this; exact this
  clear h
  go_enter Tryz.func195, Tryz.ntmps195
  go_wp2_with (first
    | ((with_reducible refine (c0 _ HP0.out).mono ?_); rintro e w1 ⟨rfl, hp, hk⟩; have HI1 := Lib.hid (OwnI.first (T := TSt) (z := z7) (c := (st7 8 (.slice none 0 0) (.slice none 0 0) ⟨#[]⟩ 0 0 (Pa.hd ts).place)) hlt hg hp (HK0.out.trans hk)); clear hp hk; clear c0)
    | (have c1' := c1 _ HI1.out.p; (try simp only [sl1, one, slN, World.size_alloc, World.size_setCell, setRow_size] at c1'); (with_reducible refine c1'.mono ?_); rintro e w2 ⟨rfl, hp, hk⟩; have HI2 := Lib.hid (HI1.out.next hlt hp hk g1); have hf2 := HI2.out.frozen 4; have hc2 := HI2.out.cell (i := 4) rfl; have HJ2 := Lib.hid (HI2.out.set hlt 4 (.int .i64 (a : Int)) (c2 := (st7 8 (.slice none 0 0) (.slice none 0 0) ⟨#[]⟩ a 0 (Pa.hd ts).place)) rfl); have HKs2 := Lib.hid hk; clear hp hk; clear c1 c1')
    | (have c2' := c2 _ HJ2.out.p; (try simp only [sl1, one, slN, World.size_alloc, World.size_setCell, setRow_size] at c2'); (with_reducible refine c2'.mono ?_); rintro e w3 ⟨rfl, hp, hk⟩; have HI3 := Lib.hid (HJ2.out.next hlt hp hk g2); have hf3 := HI3.out.frozen 3; have hc3 := HI3.out.cell (i := 3) rfl; have HJ3 := Lib.hid (HI3.out.set hlt 3 (.string ⟨nm.toArray⟩) (c2 := (st7 8 (.slice none 0 0) (.slice none 0 0) ⟨nm.toArray⟩ a 0 (Pa.hd ts).place)) rfl); have HKs3 := Lib.hid hk; clear hp hk; clear c2 c2')
    | (have c3' := c3 _ HJ3.out.p; (try simp only [sl1, one, slN, World.size_alloc, World.size_setCell, setRow_size] at c3'); (with_reducible refine c3'.mono ?_); rintro e w4 ⟨rfl, hp, hk⟩; have HI4 := Lib.hid (HJ3.out.next hlt hp hk (good_behind g2 (by decide) hb)); have HKs4 := Lib.hid hk; clear hp hk; clear c3 c3')
    | ((with_reducible refine (c4 _ HI4.out.p).mono ?_); rintro e w5 ⟨rfl, hp, hk⟩; have HI5 := Lib.hid (HI4.out.next hlt hp hk (good_behind g2 (by decide) he)); have HKs5 := Lib.hid hk; clear hp hk; clear c4)
    | ((with_reducible refine (cx _ HI5.out.p).mono ?_); rintro e w6 ⟨c, rfl, hex, hp, hk⟩; obtain ⟨k1, op1, nm1, n1, b1, t1, p1, a1, l1, q1, e1, z1, -⟩ := hex.eight; rw [e1]; have HI6 := Lib.hid ((HI5.out.next hlt hp hk g5).below ((Below.refl w6.heap.size w6).alloc (Nat.le_refl _) (.cells (ex8 k1 ⟨op1.toArray⟩ ⟨nm1.toArray⟩ n1 b1 (.slice a1 l1 q1) t1 p1) TE))); have HN := Lib.hid (heap_alloc_new w6 (.cells (ex8 k1 ⟨op1.toArray⟩ ⟨nm1.toArray⟩ n1 b1 (.slice a1 l1 q1) t1 p1) TE)); have HE := Lib.hid e1; have hf6 := HI6.out.frozen 1; have hc6 := HI6.out.cell (i := 1) rfl; have HJ6 := Lib.hid (HI6.out.set hlt 1 (.slice (some ⟨w6.heap.size, 0, none⟩) 1 1) (c2 := (st7 8 (.slice (some ⟨w6.heap.size, 0, none⟩) 1 1) (.slice none 0 0) ⟨nm.toArray⟩ a 0 (Pa.hd ts).place)) rfl); have HX := Lib.hid hex; have HS := Lib.hid (And.intro HI5.out.keep.size (And.intro HI5.out.lt (And.intro (Array.getElem?_eq_some_iff.1 HI5.out.left).1 hk.size))); clear hp hk hex e1; clear cx)
    | (have c5' := c5 _ HJ6.out.p; (try simp only [sl1, one, slN, World.size_alloc, World.size_setCell, setRow_size] at c5'); (with_reducible refine c5'.mono ?_); rintro e w7 ⟨rfl, hp, hk⟩; have HI7 := Lib.hid (HJ6.out.next hlt hp hk g6); have HKs7 := Lib.hid hk; clear hp hk; have hl7 := HI7.out.left; have hz7 := HI7.out.res; clear c5 c5')
    | ((with_reducible refine load7 rfl (.tmp 3) rfl w1.heap.size 8 a 0 (Pa.hd ts).place ⟨nm.toArray⟩ (.slice (some ⟨w6.heap.size, 0, none⟩) 1 1) (.slice none 0 0) ?xc hl7 ?_); (case xc => simp [go_sem]))
    | ((with_reducible refine store7 rfl (.tmp 2) (.tmp 30) rfl w.heap.size 8 a 0 (Pa.hd ts).place ⟨nm.toArray⟩ (some ⟨w6.heap.size, 0, none⟩) none 1 1 0 0 ?xa ?xb z7 rfl hz7 ?_); (case xa => simp [go_sem]); (case xb => simp [go_sem])))
  refine fin_local _ _ _ _ _ _ _ _ (by simp) hz7 ⟨_, rfl, .mk 8 [x] [] nm a 0 (Pa.hd ts).place _ _ ?_ .nil, HI7.out.p.row (by omega) _, HI7.out.keep.row (Nat.le_refl _) _⟩
  obtain ⟨s1, s2, s3, s4⟩ := HS.out
  have hgb : w1.heap.size ≠ w6.heap.size := by omega
  have HKm : Hid (Keep G (w6.alloc (.cells (ex8 k1 ⟨op1.toArray⟩ ⟨nm1.toArray⟩ n1 b1 (.slice a1 l1 q1) t1 p1) TE) |>.setCell ⟨w1.heap.size, 1, none⟩ (.slice (some ⟨w6.heap.size, 0, none⟩) 1 1)) w7) := HKs7
  have hN : w7.heap[w6.heap.size]? = some (.cells c.toArray TE (0, 0)) := by
    rw [HE.out]
    refine HKm.out.at (by omega) ?_
    rw [Below.heap_setCell _ _ _ _ (by show w6.heap.size ≠ w1.heap.size; omega)]
    exact HN.out
  have hsm : Same (New (w1.heap.size + 1)) w6 (w7.setRow w.heap.size (st7 8 (.slice (some ⟨w6.heap.size, 0, none⟩) 1 1) (.slice none 0 0) ⟨nm.toArray⟩ a 0 (Pa.hd ts).place)) := by
    refine ⟨by rw [setRow_size]; have := HKm.out.size; simp [World.setCell] at this; omega, fun b hb hl => ?_⟩
    have hb' : w1.heap.size + 1 ≤ b := hb
    rw [setRow_other _ _ _ _ (by omega), HKm.out.block b (by simp [World.setCell]; omega) (by omega), Below.heap_setCell _ _ _ _ (by show b ≠ w1.heap.size; omega)]
    exact Lib.alloc_old _ _ _ hl
  refine ks_one (HX.out.mono ⟨Nat.le_refl _, fun _ _ _ => rfl⟩ fun b hb => ?_) hsm (New.le (by omega)) ?_ ?_
  · exact Nat.le_trans (by omega) hb
  · show w.heap.size ≤ w6.heap.size; omega
  · rw [setRow_other _ _ _ _ (by omega)]; exact hN
set_option maxRecDepth 100000 in
set_option maxHeartbeats 8000000 in
theorem local_arr_open {w : World} {G d : Nat} {ts r1 r2 : List Tok} {a : Nat} {nm : Bs} {len : Nat} {r3 : List Tok} {p er : Nat} (h : PAt N w G ts d) (hg : Good Rl ts) (h1 : pType ts = .ok a r1) (g1 : Good Rl r1) (h2 : pName r1 = .ok nm r2) (g2 : Good Rl r2) (hb : Pa.sees r2 [[91]] = true) (h3 : pLength r2.tail = .ok len r3) (g3 : Good Rl r3) (he : Pa.sees r3 [[61]] = false) (hw : Pa.want r3 [[59]] = .bad p er) :
    Calls Tryz.prog 195 #[ptr G] w (BadPost G (p : Int) (er : Int) w) := by
  have hlt := h.base
  have HP0 := Lib.hid (h.below ((Below.refl _ _).alloc (Nat.le_refl _) (.cells z7 TSt)))
  have HK0 := Lib.hid (Keep.refl G (w.alloc (.cells z7 TSt)))
  have c0 : ∀ W, PAt N W G (ts) d → Calls Tryz.prog 64 #[ptr G] W (OkPost N G d (tokV (Pa.hd (ts))) (ts) W) := fun W hW => nextL hg hW
  have c1 : ∀ W, PAt N W G (ts) d → Calls Tryz.prog 93 #[ptr G] W (OkPost N G d (.int .i64 (a : Int)) (r1) W) := fun W hW => by have := typedL hg hW; rw [h1] at this; exact this
  have c2 : ∀ W, PAt N W G (r1) d → Calls Tryz.prog 94 #[ptr G] W (OkPost N G d (.string ⟨nm.toArray⟩) (r2) W) := fun W hW => by have := nameL g1 hW; rw [h2] at this; exact this
  have c3 : ∀ W, PAt N W G (r2) d → Calls Tryz.prog 92 #[ptr G, sl1 W] (one W #[91]) (OkPost N G d (.bool true) (r2.tail) W) := fun W hW => takesL [[91]] 1 rfl (by decide) (by decide) g2 hb hW
  have c4 : ∀ W, PAt N W G (r2.tail) d → Calls Tryz.prog 97 #[ptr G] W (OkPost N G d (.int .i64 (len : Int)) (r3) W) := fun W hW => by have := lengthL (show Good Rl r2.tail from good_behind g2 (by decide) hb) hW; rw [h3] at this; exact this
  have c5 : ∀ W, PAt N W G (r3) d → Calls Tryz.prog 92 #[ptr G, sl1 W] (one W #[61]) (OkPost N G d (.bool false) (r3) W) := fun W hW => takesL [[61]] 1 rfl (by decide) (by decide) g3 he hW
  have c6 : ∀ W, PAt N W G (r3) d → Calls Tryz.prog 95 #[ptr G, sl1 W] (one W #[59]) (BadPost G (p : Int) (er : Int) W) := fun W hW => by have := wantL [[59]] 1 rfl (by decide) (by decide) g3 hW; rw [hw] at this; exact this
  clear h
  go_enter Tryz.func195, Tryz.ntmps195
  go_wp2_with (first
    | ((with_reducible refine (c0 _ HP0.out).mono ?_); rintro e w1 ⟨rfl, hp, hk⟩; have HI1 := Lib.hid (OwnI.first (T := TSt) (z := z7) (c := (st7 8 (.slice none 0 0) (.slice none 0 0) ⟨#[]⟩ 0 0 (Pa.hd ts).place)) hlt hg hp (HK0.out.trans hk)); clear hp hk; clear c0)
    | (have c1' := c1 _ HI1.out.p; (try simp only [sl1, one, slN, World.size_alloc, World.size_setCell, setRow_size] at c1'); (with_reducible refine c1'.mono ?_); rintro e w2 ⟨rfl, hp, hk⟩; have HI2 := Lib.hid (HI1.out.next hlt hp hk g1); have hf2 := HI2.out.frozen 4; have hc2 := HI2.out.cell (i := 4) rfl; have HJ2 := Lib.hid (HI2.out.set hlt 4 (.int .i64 (a : Int)) (c2 := (st7 8 (.slice none 0 0) (.slice none 0 0) ⟨#[]⟩ a 0 (Pa.hd ts).place)) rfl); have HKs2 := Lib.hid hk; clear hp hk; clear c1 c1')
    | (have c2' := c2 _ HJ2.out.p; (try simp only [sl1, one, slN, World.size_alloc, World.size_setCell, setRow_size] at c2'); (with_reducible refine c2'.mono ?_); rintro e w3 ⟨rfl, hp, hk⟩; have HI3 := Lib.hid (HJ2.out.next hlt hp hk g2); have hf3 := HI3.out.frozen 3; have hc3 := HI3.out.cell (i := 3) rfl; have HJ3 := Lib.hid (HI3.out.set hlt 3 (.string ⟨nm.toArray⟩) (c2 := (st7 8 (.slice none 0 0) (.slice none 0 0) ⟨nm.toArray⟩ a 0 (Pa.hd ts).place)) rfl); have HKs3 := Lib.hid hk; clear hp hk; clear c2 c2')
    | (have c3' := c3 _ HJ3.out.p; (try simp only [sl1, one, slN, World.size_alloc, World.size_setCell, setRow_size] at c3'); (with_reducible refine c3'.mono ?_); rintro e w4 ⟨rfl, hp, hk⟩; have HI4 := Lib.hid (HJ3.out.next hlt hp hk (good_behind g2 (by decide) hb)); have HKs4 := Lib.hid hk; clear hp hk; clear c3 c3')
    | ((with_reducible refine (c4 _ HI4.out.p).mono ?_); rintro e w5 ⟨rfl, hp, hk⟩; have HI5 := Lib.hid (HI4.out.next hlt hp hk g3); have hf5 := HI5.out.frozen 5; have hc5 := HI5.out.cell (i := 5) rfl; have HJ5 := Lib.hid (HI5.out.set hlt 5 (.int .i64 (len : Int)) (c2 := (st7 8 (.slice none 0 0) (.slice none 0 0) ⟨nm.toArray⟩ a len (Pa.hd ts).place)) rfl); have HKs5 := Lib.hid hk; clear hp hk; clear c4)
    | (have c5' := c5 _ HJ5.out.p; (try simp only [sl1, one, slN, World.size_alloc, World.size_setCell, setRow_size] at c5'); (with_reducible refine c5'.mono ?_); rintro e w6 ⟨rfl, hp, hk⟩; have HI6 := Lib.hid (HJ5.out.next hlt hp hk (good_behind g3 (by decide) he)); have HKs6 := Lib.hid hk; clear hp hk; clear c5 c5')
    | ((with_reducible refine (c6 _ HI6.out.p).mono ?_); rintro e w7 ⟨rfl, hp, hk⟩; have HW := Lib.hid hp; have HK := Lib.hid (HI6.out.keep.trans hk); clear hp hk; clear c6))
  exact ⟨rfl, rfl, HW.out, HK.out⟩
set_option maxRecDepth 100000 in
set_option maxHeartbeats 8000000 in
theorem local_arr_plain {w : World} {G d : Nat} {ts r1 r2 : List Tok} {a : Nat} {nm : Bs} {len : Nat} {r3 : List Tok} {r6 : List Tok} {s : Bs} (h : PAt N w G ts d) (hg : Good Rl ts) (h1 : pType ts = .ok a r1) (g1 : Good Rl r1) (h2 : pName r1 = .ok nm r2) (g2 : Good Rl r2) (hb : Pa.sees r2 [[91]] = true) (h3 : pLength r2.tail = .ok len r3) (g3 : Good Rl r3) (he : Pa.sees r3 [[61]] = false) (hw : Pa.want r3 [[59]] = .ok s r6) (g6 : Good Rl r6) :
    Calls Tryz.prog 195 #[ptr G] w (StOk N G d (.mk 8 [] [] nm a len (Pa.hd ts).place) r6 w) := by
  have hlt := h.base
  have HP0 := Lib.hid (h.below ((Below.refl _ _).alloc (Nat.le_refl _) (.cells z7 TSt)))
  have HK0 := Lib.hid (Keep.refl G (w.alloc (.cells z7 TSt)))
  have c0 : ∀ W, PAt N W G (ts) d → Calls Tryz.prog 64 #[ptr G] W (OkPost N G d (tokV (Pa.hd (ts))) (ts) W) := fun W hW => nextL hg hW
  have c1 : ∀ W, PAt N W G (ts) d → Calls Tryz.prog 93 #[ptr G] W (OkPost N G d (.int .i64 (a : Int)) (r1) W) := fun W hW => by have := typedL hg hW; rw [h1] at this; exact this
  have c2 : ∀ W, PAt N W G (r1) d → Calls Tryz.prog 94 #[ptr G] W (OkPost N G d (.string ⟨nm.toArray⟩) (r2) W) := fun W hW => by have := nameL g1 hW; rw [h2] at this; exact this
  have c3 : ∀ W, PAt N W G (r2) d → Calls Tryz.prog 92 #[ptr G, sl1 W] (one W #[91]) (OkPost N G d (.bool true) (r2.tail) W) := fun W hW => takesL [[91]] 1 rfl (by decide) (by decide) g2 hb hW
  have c4 : ∀ W, PAt N W G (r2.tail) d → Calls Tryz.prog 97 #[ptr G] W (OkPost N G d (.int .i64 (len : Int)) (r3) W) := fun W hW => by have := lengthL (show Good Rl r2.tail from good_behind g2 (by decide) hb) hW; rw [h3] at this; exact this
  have c5 : ∀ W, PAt N W G (r3) d → Calls Tryz.prog 92 #[ptr G, sl1 W] (one W #[61]) (OkPost N G d (.bool false) (r3) W) := fun W hW => takesL [[61]] 1 rfl (by decide) (by decide) g3 he hW
  have c6 : ∀ W, PAt N W G (r3) d → Calls Tryz.prog 95 #[ptr G, sl1 W] (one W #[59]) (OkPost N G d (.string ⟨s.toArray⟩) (r6) W) := fun W hW => by have := wantL [[59]] 1 rfl (by decide) (by decide) g3 hW; rw [hw] at this; exact this
  clear h
  go_enter Tryz.func195, Tryz.ntmps195
  go_wp2_with (first
    | ((with_reducible refine (c0 _ HP0.out).mono ?_); rintro e w1 ⟨rfl, hp, hk⟩; have HI1 := Lib.hid (OwnI.first (T := TSt) (z := z7) (c := (st7 8 (.slice none 0 0) (.slice none 0 0) ⟨#[]⟩ 0 0 (Pa.hd ts).place)) hlt hg hp (HK0.out.trans hk)); clear hp hk; clear c0)
    | (have c1' := c1 _ HI1.out.p; (try simp only [sl1, one, slN, World.size_alloc, World.size_setCell, setRow_size] at c1'); (with_reducible refine c1'.mono ?_); rintro e w2 ⟨rfl, hp, hk⟩; have HI2 := Lib.hid (HI1.out.next hlt hp hk g1); have hf2 := HI2.out.frozen 4; have hc2 := HI2.out.cell (i := 4) rfl; have HJ2 := Lib.hid (HI2.out.set hlt 4 (.int .i64 (a : Int)) (c2 := (st7 8 (.slice none 0 0) (.slice none 0 0) ⟨#[]⟩ a 0 (Pa.hd ts).place)) rfl); have HKs2 := Lib.hid hk; clear hp hk; clear c1 c1')
    | (have c2' := c2 _ HJ2.out.p; (try simp only [sl1, one, slN, World.size_alloc, World.size_setCell, setRow_size] at c2'); (with_reducible refine c2'.mono ?_); rintro e w3 ⟨rfl, hp, hk⟩; have HI3 := Lib.hid (HJ2.out.next hlt hp hk g2); have hf3 := HI3.out.frozen 3; have hc3 := HI3.out.cell (i := 3) rfl; have HJ3 := Lib.hid (HI3.out.set hlt 3 (.string ⟨nm.toArray⟩) (c2 := (st7 8 (.slice none 0 0) (.slice none 0 0) ⟨nm.toArray⟩ a 0 (Pa.hd ts).place)) rfl); have HKs3 := Lib.hid hk; clear hp hk; clear c2 c2')
    | (have c3' := c3 _ HJ3.out.p; (try simp only [sl1, one, slN, World.size_alloc, World.size_setCell, setRow_size] at c3'); (with_reducible refine c3'.mono ?_); rintro e w4 ⟨rfl, hp, hk⟩; have HI4 := Lib.hid (HJ3.out.next hlt hp hk (good_behind g2 (by decide) hb)); have HKs4 := Lib.hid hk; clear hp hk; clear c3 c3')
    | ((with_reducible refine (c4 _ HI4.out.p).mono ?_); rintro e w5 ⟨rfl, hp, hk⟩; have HI5 := Lib.hid (HI4.out.next hlt hp hk g3); have hf5 := HI5.out.frozen 5; have hc5 := HI5.out.cell (i := 5) rfl; have HJ5 := Lib.hid (HI5.out.set hlt 5 (.int .i64 (len : Int)) (c2 := (st7 8 (.slice none 0 0) (.slice none 0 0) ⟨nm.toArray⟩ a len (Pa.hd ts).place)) rfl); have HKs5 := Lib.hid hk; clear hp hk; clear c4)
    | (have c5' := c5 _ HJ5.out.p; (try simp only [sl1, one, slN, World.size_alloc, World.size_setCell, setRow_size] at c5'); (with_reducible refine c5'.mono ?_); rintro e w6 ⟨rfl, hp, hk⟩; have HI6 := Lib.hid (HJ5.out.next hlt hp hk (good_behind g3 (by decide) he)); have HKs6 := Lib.hid hk; clear hp hk; clear c5 c5')
    | ((with_reducible refine (c6 _ HI6.out.p).mono ?_); rintro e w7 ⟨rfl, hp, hk⟩; have HI7 := Lib.hid (HI6.out.next hlt hp hk g6); have HKs7 := Lib.hid hk; clear hp hk; have hl7 := HI7.out.left; have hz7 := HI7.out.res; clear c6)
    | ((with_reducible refine load7 rfl (.tmp 3) rfl w1.heap.size 8 a len (Pa.hd ts).place ⟨nm.toArray⟩ (.slice none 0 0) (.slice none 0 0) ?xc hl7 ?_); (case xc => simp [go_sem]))
    | ((with_reducible refine store7 rfl (.tmp 2) (.tmp 30) rfl w.heap.size 8 a len (Pa.hd ts).place ⟨nm.toArray⟩ none none 0 0 0 0 ?xa ?xb z7 rfl hz7 ?_); (case xa => simp [go_sem]); (case xb => simp [go_sem])))
  refine fin_local _ _ _ _ _ _ _ _ (by simp) hz7 ⟨_, rfl, .mk 8 [] [] nm a len (Pa.hd ts).place _ _ .nil .nil, HI7.out.p.row (by omega) _, HI7.out.keep.row (Nat.le_refl _) _⟩
set_option maxRecDepth 100000 in
set_option maxHeartbeats 8000000 in
theorem local_arr_bad {w : World} {G d : Nat} {ts r1 r2 : List Tok} {a : Nat} {nm : Bs} {len : Nat} {r3 : List Tok} {p er : Nat} (h : PAt N w G ts d) (hg : Good Rl ts) (h1 : pType ts = .ok a r1) (g1 : Good Rl r1) (h2 : pName r1 = .ok nm r2) (g2 : Good Rl r2) (hb : Pa.sees r2 [[91]] = true) (h3 : pLength r2.tail = .ok len r3) (g3 : Good Rl r3) (he : Pa.sees r3 [[61]] = true) (cx : ∀ W, PAt N W G r3.tail d → Calls Tryz.prog 96 #[ptr G] W (BadPost G (p : Int) (er : Int) W)) :
    Calls Tryz.prog 195 #[ptr G] w (BadPost G (p : Int) (er : Int) w) := by
  have hlt := h.base
  have HP0 := Lib.hid (h.below ((Below.refl _ _).alloc (Nat.le_refl _) (.cells z7 TSt)))
  have HK0 := Lib.hid (Keep.refl G (w.alloc (.cells z7 TSt)))
  have c0 : ∀ W, PAt N W G (ts) d → Calls Tryz.prog 64 #[ptr G] W (OkPost N G d (tokV (Pa.hd (ts))) (ts) W) := fun W hW => nextL hg hW
  have c1 : ∀ W, PAt N W G (ts) d → Calls Tryz.prog 93 #[ptr G] W (OkPost N G d (.int .i64 (a : Int)) (r1) W) := fun W hW => by have := typedL hg hW; rw [h1] at this; exact this
  have c2 : ∀ W, PAt N W G (r1) d → Calls Tryz.prog 94 #[ptr G] W (OkPost N G d (.string ⟨nm.toArray⟩) (r2) W) := fun W hW => by have := nameL g1 hW; rw [h2] at this; exact this
  have c3 : ∀ W, PAt N W G (r2) d → Calls Tryz.prog 92 #[ptr G, sl1 W] (one W #[91]) (OkPost N G d (.bool true) (r2.tail) W) := fun W hW => takesL [[91]] 1 rfl (by decide) (by decide) g2 hb hW
  have c4 : ∀ W, PAt N W G (r2.tail) d → Calls Tryz.prog 97 #[ptr G] W (OkPost N G d (.int .i64 (len : Int)) (r3) W) := fun W hW => by have := lengthL (show Good Rl r2.tail from good_behind g2 (by decide) hb) hW; rw [h3] at this; exact this
  have c5 : ∀ W, PAt N W G (r3) d → Calls Tryz.prog 92 #[ptr G, sl1 W] (one W #[61]) (OkPost N G d (.bool true) (r3.tail) W) := fun W hW => takesL [[61]] 1 rfl (by decide) (by decide) g3 he hW
  clear h
  go_enter Tryz.func195, Tryz.ntmps195
  go_wp2_with (first
    | ((with_reducible refine (c0 _ HP0.out).mono ?_); rintro e w1 ⟨rfl, hp, hk⟩; have HI1 := Lib.hid (OwnI.first (T := TSt) (z := z7) (c := (st7 8 (.slice none 0 0) (.slice none 0 0) ⟨#[]⟩ 0 0 (Pa.hd ts).place)) hlt hg hp (HK0.out.trans hk)); clear hp hk; clear c0)
    | (have c1' := c1 _ HI1.out.p; (try simp only [sl1, one, slN, World.size_alloc, World.size_setCell, setRow_size] at c1'); (with_reducible refine c1'.mono ?_); rintro e w2 ⟨rfl, hp, hk⟩; have HI2 := Lib.hid (HI1.out.next hlt hp hk g1); have hf2 := HI2.out.frozen 4; have hc2 := HI2.out.cell (i := 4) rfl; have HJ2 := Lib.hid (HI2.out.set hlt 4 (.int .i64 (a : Int)) (c2 := (st7 8 (.slice none 0 0) (.slice none 0 0) ⟨#[]⟩ a 0 (Pa.hd ts).place)) rfl); have HKs2 := Lib.hid hk; clear hp hk; clear c1 c1')
    | (have c2' := c2 _ HJ2.out.p; (try simp only [sl1, one, slN, World.size_alloc, World.size_setCell, setRow_size] at c2'); (with_reducible refine c2'.mono ?_); rintro e w3 ⟨rfl, hp, hk⟩; have HI3 := Lib.hid (HJ2.out.next hlt hp hk g2); have hf3 := HI3.out.frozen 3; have hc3 := HI3.out.cell (i := 3) rfl; have HJ3 := Lib.hid (HI3.out.set hlt 3 (.string ⟨nm.toArray⟩) (c2 := (st7 8 (.slice none 0 0) (.slice none 0 0) ⟨nm.toArray⟩ a 0 (Pa.hd ts).place)) rfl); have HKs3 := Lib.hid hk; clear hp hk; clear c2 c2')
    | (have c3' := c3 _ HJ3.out.p; (try simp only [sl1, one, slN, World.size_alloc, World.size_setCell, setRow_size] at c3'); (with_reducible refine c3'.mono ?_); rintro e w4 ⟨rfl, hp, hk⟩; have HI4 := Lib.hid (HJ3.out.next hlt hp hk (good_behind g2 (by decide) hb)); have HKs4 := Lib.hid hk; clear hp hk; clear c3 c3')
    | ((with_reducible refine (c4 _ HI4.out.p).mono ?_); rintro e w5 ⟨rfl, hp, hk⟩; have HI5 := Lib.hid (HI4.out.next hlt hp hk g3); have hf5 := HI5.out.frozen 5; have hc5 := HI5.out.cell (i := 5) rfl; have HJ5 := Lib.hid (HI5.out.set hlt 5 (.int .i64 (len : Int)) (c2 := (st7 8 (.slice none 0 0) (.slice none 0 0) ⟨nm.toArray⟩ a len (Pa.hd ts).place)) rfl); have HKs5 := Lib.hid hk; clear hp hk; clear c4)
    | (have c5' := c5 _ HJ5.out.p; (try simp only [sl1, one, slN, World.size_alloc, World.size_setCell, setRow_size] at c5'); (with_reducible refine c5'.mono ?_); rintro e w6 ⟨rfl, hp, hk⟩; have HI6 := Lib.hid (HJ5.out.next hlt hp hk (good_behind g3 (by decide) he)); have HKs6 := Lib.hid hk; clear hp hk; clear c5 c5')
    | ((with_reducible refine (cx _ HI6.out.p).mono ?_); rintro e w7 ⟨rfl, hp, hk⟩; have HW := Lib.hid hp; have HK := Lib.hid (HI6.out.keep.trans hk); clear hp hk; clear cx))
  exact ⟨rfl, rfl, HW.out, HK.out⟩
set_option maxRecDepth 100000 in
set_option maxHeartbeats 8000000 in
theorem local_arr_set_open {w : World} {G d : Nat} {ts r1 r2 : List Tok} {a : Nat} {nm : Bs} {len : Nat} {r3 : List Tok} {r5 : List Tok} {x : Ex} {p er : Nat} (h : PAt N w G ts d) (hg : Good Rl ts) (h1 : pType ts = .ok a r1) (g1 : Good Rl r1) (h2 : pName r1 = .ok nm r2) (g2 : Good Rl r2) (hb : Pa.sees r2 [[91]] = true) (h3 : pLength r2.tail = .ok len r3) (g3 : Good Rl r3) (he : Pa.sees r3 [[61]] = true) (cx : ∀ W, PAt N W G r3.tail d → Calls Tryz.prog 96 #[ptr G] W (ExOk N G d x r5 W)) (g5 : Good Rl r5) (hw : Pa.want r5 [[59]] = .bad p er) :
    Calls Tryz.prog 195 #[ptr G] w (BadPost G (p : Int) (er : Int) w) := by
  have hlt := h.base
  have HP0 := Lib.hid (h.below ((Below.refl _ _).alloc (Nat.le_refl _) (.cells z7 TSt)))
  have HK0 := Lib.hid (Keep.refl G (w.alloc (.cells z7 TSt)))
  have c0 : ∀ W, PAt N W G (ts) d → Calls Tryz.prog 64 #[ptr G] W (OkPost N G d (tokV (Pa.hd (ts))) (ts) W) := fun W hW => nextL hg hW
  have c1 : ∀ W, PAt N W G (ts) d → Calls Tryz.prog 93 #[ptr G] W (OkPost N G d (.int .i64 (a : Int)) (r1) W) := fun W hW => by have := typedL hg hW; rw [h1] at this; exact this
  have c2 : ∀ W, PAt N W G (r1) d → Calls Tryz.prog 94 #[ptr G] W (OkPost N G d (.string ⟨nm.toArray⟩) (r2) W) := fun W hW => by have := nameL g1 hW; rw [h2] at this; exact this
  have c3 : ∀ W, PAt N W G (r2) d → Calls Tryz.prog 92 #[ptr G, sl1 W] (one W #[91]) (OkPost N G d (.bool true) (r2.tail) W) := fun W hW => takesL [[91]] 1 rfl (by decide) (by decide) g2 hb hW
  have c4 : ∀ W, PAt N W G (r2.tail) d → Calls Tryz.prog 97 #[ptr G] W (OkPost N G d (.int .i64 (len : Int)) (r3) W) := fun W hW => by have := lengthL (show Good Rl r2.tail from good_behind g2 (by decide) hb) hW; rw [h3] at this; exact this
  have c5 : ∀ W, PAt N W G (r3) d → Calls Tryz.prog 92 #[ptr G, sl1 W] (one W #[61]) (OkPost N G d (.bool true) (r3.tail) W) := fun W hW => takesL [[61]] 1 rfl (by decide) (by decide) g3 he hW
  have c6 : ∀ W, PAt N W G (r5) d → Calls Tryz.prog 95 #[ptr G, sl1 W] (one W #[59]) (BadPost G (p : Int) (er : Int) W) := fun W hW => by have := wantL [[59]] 1 rfl (by decide) (by decide) g5 hW; rw [hw] at this; exact this
  clear h
  go_enter Tryz.func195, Tryz.ntmps195
  go_wp2_with (first
    | ((with_reducible refine (c0 _ HP0.out).mono ?_); rintro e w1 ⟨rfl, hp, hk⟩; have HI1 := Lib.hid (OwnI.first (T := TSt) (z := z7) (c := (st7 8 (.slice none 0 0) (.slice none 0 0) ⟨#[]⟩ 0 0 (Pa.hd ts).place)) hlt hg hp (HK0.out.trans hk)); clear hp hk; clear c0)
    | (have c1' := c1 _ HI1.out.p; (try simp only [sl1, one, slN, World.size_alloc, World.size_setCell, setRow_size] at c1'); (with_reducible refine c1'.mono ?_); rintro e w2 ⟨rfl, hp, hk⟩; have HI2 := Lib.hid (HI1.out.next hlt hp hk g1); have hf2 := HI2.out.frozen 4; have hc2 := HI2.out.cell (i := 4) rfl; have HJ2 := Lib.hid (HI2.out.set hlt 4 (.int .i64 (a : Int)) (c2 := (st7 8 (.slice none 0 0) (.slice none 0 0) ⟨#[]⟩ a 0 (Pa.hd ts).place)) rfl); have HKs2 := Lib.hid hk; clear hp hk; clear c1 c1')
    | (have c2' := c2 _ HJ2.out.p; (try simp only [sl1, one, slN, World.size_alloc, World.size_setCell, setRow_size] at c2'); (with_reducible refine c2'.mono ?_); rintro e w3 ⟨rfl, hp, hk⟩; have HI3 := Lib.hid (HJ2.out.next hlt hp hk g2); have hf3 := HI3.out.frozen 3; have hc3 := HI3.out.cell (i := 3) rfl; have HJ3 := Lib.hid (HI3.out.set hlt 3 (.string ⟨nm.toArray⟩) (c2 := (st7 8 (.slice none 0 0) (.slice none 0 0) ⟨nm.toArray⟩ a 0 (Pa.hd ts).place)) rfl); have HKs3 := Lib.hid hk; clear hp hk; clear c2 c2')
    | (have c3' := c3 _ HJ3.out.p; (try simp only [sl1, one, slN, World.size_alloc, World.size_setCell, setRow_size] at c3'); (with_reducible refine c3'.mono ?_); rintro e w4 ⟨rfl, hp, hk⟩; have HI4 := Lib.hid (HJ3.out.next hlt hp hk (good_behind g2 (by decide) hb)); have HKs4 := Lib.hid hk; clear hp hk; clear c3 c3')
    | ((with_reducible refine (c4 _ HI4.out.p).mono ?_); rintro e w5 ⟨rfl, hp, hk⟩; have HI5 := Lib.hid (HI4.out.next hlt hp hk g3); have hf5 := HI5.out.frozen 5; have hc5 := HI5.out.cell (i := 5) rfl; have HJ5 := Lib.hid (HI5.out.set hlt 5 (.int .i64 (len : Int)) (c2 := (st7 8 (.slice none 0 0) (.slice none 0 0) ⟨nm.toArray⟩ a len (Pa.hd ts).place)) rfl); have HKs5 := Lib.hid hk; clear hp hk; clear c4)
    | (have c5' := c5 _ HJ5.out.p; (try simp only [sl1, one, slN, World.size_alloc, World.size_setCell, setRow_size] at c5'); (with_reducible refine c5'.mono ?_); rintro e w6 ⟨rfl, hp, hk⟩; have HI6 := Lib.hid (HJ5.out.next hlt hp hk (good_behind g3 (by decide) he)); have HKs6 := Lib.hid hk; clear hp hk; clear c5 c5')
    | ((with_reducible refine (cx _ HI6.out.p).mono ?_); rintro e w7 ⟨c, rfl, hex, hp, hk⟩; obtain ⟨k1, op1, nm1, n1, b1, t1, p1, a1, l1, q1, e1, z1, -⟩ := hex.eight; rw [e1]; have HI7 := Lib.hid ((HI6.out.next hlt hp hk g5).below ((Below.refl w7.heap.size w7).alloc (Nat.le_refl _) (.cells (ex8 k1 ⟨op1.toArray⟩ ⟨nm1.toArray⟩ n1 b1 (.slice a1 l1 q1) t1 p1) TE))); have HN := Lib.hid (heap_alloc_new w7 (.cells (ex8 k1 ⟨op1.toArray⟩ ⟨nm1.toArray⟩ n1 b1 (.slice a1 l1 q1) t1 p1) TE)); have HE := Lib.hid e1; have hf7 := HI7.out.frozen 1; have hc7 := HI7.out.cell (i := 1) rfl; have HJ7 := Lib.hid (HI7.out.set hlt 1 (.slice (some ⟨w7.heap.size, 0, none⟩) 1 1) (c2 := (st7 8 (.slice (some ⟨w7.heap.size, 0, none⟩) 1 1) (.slice none 0 0) ⟨nm.toArray⟩ a len (Pa.hd ts).place)) rfl); have HX := Lib.hid hex; have HS := Lib.hid (And.intro HI6.out.keep.size (And.intro HI6.out.lt (And.intro (Array.getElem?_eq_some_iff.1 HI6.out.left).1 hk.size))); clear hp hk hex e1; clear cx)
    | (have c6' := c6 _ HJ7.out.p; (try simp only [sl1, one, slN, World.size_alloc, World.size_setCell, setRow_size] at c6'); (with_reducible refine c6'.mono ?_); rintro e w8 ⟨rfl, hp, hk⟩; have HW := Lib.hid hp; have HK := Lib.hid (HJ7.out.keep.trans hk); clear hp hk; clear c6 c6'))
  exact ⟨rfl, rfl, HW.out, HK.out⟩
set_option maxRecDepth 100000 in
set_option maxHeartbeats 8000000 in
theorem local_arr_set {w : World} {G d : Nat} {ts r1 r2 : List Tok} {a : Nat} {nm : Bs} {len : Nat} {r3 : List Tok} {r5 : List Tok} {x : Ex} {r6 : List Tok} {s : Bs} (h : PAt N w G ts d) (hg : Good Rl ts) (h1 : pType ts = .ok a r1) (g1 : Good Rl r1) (h2 : pName r1 = .ok nm r2) (g2 : Good Rl r2) (hb : Pa.sees r2 [[91]] = true) (h3 : pLength r2.tail = .ok len r3) (g3 : Good Rl r3) (he : Pa.sees r3 [[61]] = true) (cx : ∀ W, PAt N W G r3.tail d → Calls Tryz.prog 96 #[ptr G] W (ExOk N G d x r5 W)) (g5 : Good Rl r5) (hw : Pa.want r5 [[59]] = .ok s r6) (g6 : Good Rl r6) :
    Calls Tryz.prog 195 #[ptr G] w (StOk N G d (.mk 8 [x] [] nm a len (Pa.hd ts).place) r6 w) := by
  have hlt := h.base
  have HP0 := Lib.hid (h.below ((Below.refl _ _).alloc (Nat.le_refl _) (.cells z7 TSt)))
  have HK0 := Lib.hid (Keep.refl G (w.alloc (.cells z7 TSt)))
  have c0 : ∀ W, PAt N W G (ts) d → Calls Tryz.prog 64 #[ptr G] W (OkPost N G d (tokV (Pa.hd (ts))) (ts) W) := fun W hW => nextL hg hW
  have c1 : ∀ W, PAt N W G (ts) d → Calls Tryz.prog 93 #[ptr G] W (OkPost N G d (.int .i64 (a : Int)) (r1) W) := fun W hW => by have := typedL hg hW; rw [h1] at this; exact this
  have c2 : ∀ W, PAt N W G (r1) d → Calls Tryz.prog 94 #[ptr G] W (OkPost N G d (.string ⟨nm.toArray⟩) (r2) W) := fun W hW => by have := nameL g1 hW; rw [h2] at this; exact this
  have c3 : ∀ W, PAt N W G (r2) d → Calls Tryz.prog 92 #[ptr G, sl1 W] (one W #[91]) (OkPost N G d (.bool true) (r2.tail) W) := fun W hW => takesL [[91]] 1 rfl (by decide) (by decide) g2 hb hW
  have c4 : ∀ W, PAt N W G (r2.tail) d → Calls Tryz.prog 97 #[ptr G] W (OkPost N G d (.int .i64 (len : Int)) (r3) W) := fun W hW => by have := lengthL (show Good Rl r2.tail from good_behind g2 (by decide) hb) hW; rw [h3] at this; exact this
  have c5 : ∀ W, PAt N W G (r3) d → Calls Tryz.prog 92 #[ptr G, sl1 W] (one W #[61]) (OkPost N G d (.bool true) (r3.tail) W) := fun W hW => takesL [[61]] 1 rfl (by decide) (by decide) g3 he hW
  have c6 : ∀ W, PAt N W G (r5) d → Calls Tryz.prog 95 #[ptr G, sl1 W] (one W #[59]) (OkPost N G d (.string ⟨s.toArray⟩) (r6) W) := fun W hW => by have := wantL [[59]] 1 rfl (by decide) (by decide) g5 hW; rw [hw] at this; exact this
  clear h
  go_enter Tryz.func195, Tryz.ntmps195
  go_wp2_with (first
    | ((with_reducible refine (c0 _ HP0.out).mono ?_); rintro e w1 ⟨rfl, hp, hk⟩; have HI1 := Lib.hid (OwnI.first (T := TSt) (z := z7) (c := (st7 8 (.slice none 0 0) (.slice none 0 0) ⟨#[]⟩ 0 0 (Pa.hd ts).place)) hlt hg hp (HK0.out.trans hk)); clear hp hk; clear c0)
    | (have c1' := c1 _ HI1.out.p; (try simp only [sl1, one, slN, World.size_alloc, World.size_setCell, setRow_size] at c1'); (with_reducible refine c1'.mono ?_); rintro e w2 ⟨rfl, hp, hk⟩; have HI2 := Lib.hid (HI1.out.next hlt hp hk g1); have hf2 := HI2.out.frozen 4; have hc2 := HI2.out.cell (i := 4) rfl; have HJ2 := Lib.hid (HI2.out.set hlt 4 (.int .i64 (a : Int)) (c2 := (st7 8 (.slice none 0 0) (.slice none 0 0) ⟨#[]⟩ a 0 (Pa.hd ts).place)) rfl); have HKs2 := Lib.hid hk; clear hp hk; clear c1 c1')
    | (have c2' := c2 _ HJ2.out.p; (try simp only [sl1, one, slN, World.size_alloc, World.size_setCell, setRow_size] at c2'); (with_reducible refine c2'.mono ?_); rintro e w3 ⟨rfl, hp, hk⟩; have HI3 := Lib.hid (HJ2.out.next hlt hp hk g2); have hf3 := HI3.out.frozen 3; have hc3 := HI3.out.cell (i := 3) rfl; have HJ3 := Lib.hid (HI3.out.set hlt 3 (.string ⟨nm.toArray⟩) (c2 := (st7 8 (.slice none 0 0) (.slice none 0 0) ⟨nm.toArray⟩ a 0 (Pa.hd ts).place)) rfl); have HKs3 := Lib.hid hk; clear hp hk; clear c2 c2')
    | (have c3' := c3 _ HJ3.out.p; (try simp only [sl1, one, slN, World.size_alloc, World.size_setCell, setRow_size] at c3'); (with_reducible refine c3'.mono ?_); rintro e w4 ⟨rfl, hp, hk⟩; have HI4 := Lib.hid (HJ3.out.next hlt hp hk (good_behind g2 (by decide) hb)); have HKs4 := Lib.hid hk; clear hp hk; clear c3 c3')
    | ((with_reducible refine (c4 _ HI4.out.p).mono ?_); rintro e w5 ⟨rfl, hp, hk⟩; have HI5 := Lib.hid (HI4.out.next hlt hp hk g3); have hf5 := HI5.out.frozen 5; have hc5 := HI5.out.cell (i := 5) rfl; have HJ5 := Lib.hid (HI5.out.set hlt 5 (.int .i64 (len : Int)) (c2 := (st7 8 (.slice none 0 0) (.slice none 0 0) ⟨nm.toArray⟩ a len (Pa.hd ts).place)) rfl); have HKs5 := Lib.hid hk; clear hp hk; clear c4)
    | (have c5' := c5 _ HJ5.out.p; (try simp only [sl1, one, slN, World.size_alloc, World.size_setCell, setRow_size] at c5'); (with_reducible refine c5'.mono ?_); rintro e w6 ⟨rfl, hp, hk⟩; have HI6 := Lib.hid (HJ5.out.next hlt hp hk (good_behind g3 (by decide) he)); have HKs6 := Lib.hid hk; clear hp hk; clear c5 c5')
    | ((with_reducible refine (cx _ HI6.out.p).mono ?_); rintro e w7 ⟨c, rfl, hex, hp, hk⟩; obtain ⟨k1, op1, nm1, n1, b1, t1, p1, a1, l1, q1, e1, z1, -⟩ := hex.eight; rw [e1]; have HI7 := Lib.hid ((HI6.out.next hlt hp hk g5).below ((Below.refl w7.heap.size w7).alloc (Nat.le_refl _) (.cells (ex8 k1 ⟨op1.toArray⟩ ⟨nm1.toArray⟩ n1 b1 (.slice a1 l1 q1) t1 p1) TE))); have HN := Lib.hid (heap_alloc_new w7 (.cells (ex8 k1 ⟨op1.toArray⟩ ⟨nm1.toArray⟩ n1 b1 (.slice a1 l1 q1) t1 p1) TE)); have HE := Lib.hid e1; have hf7 := HI7.out.frozen 1; have hc7 := HI7.out.cell (i := 1) rfl; have HJ7 := Lib.hid (HI7.out.set hlt 1 (.slice (some ⟨w7.heap.size, 0, none⟩) 1 1) (c2 := (st7 8 (.slice (some ⟨w7.heap.size, 0, none⟩) 1 1) (.slice none 0 0) ⟨nm.toArray⟩ a len (Pa.hd ts).place)) rfl); have HX := Lib.hid hex; have HS := Lib.hid (And.intro HI6.out.keep.size (And.intro HI6.out.lt (And.intro (Array.getElem?_eq_some_iff.1 HI6.out.left).1 hk.size))); clear hp hk hex e1; clear cx)
    | (have c6' := c6 _ HJ7.out.p; (try simp only [sl1, one, slN, World.size_alloc, World.size_setCell, setRow_size] at c6'); (with_reducible refine c6'.mono ?_); rintro e w8 ⟨rfl, hp, hk⟩; have HI8 := Lib.hid (HJ7.out.next hlt hp hk g6); have HKs8 := Lib.hid hk; clear hp hk; have hl8 := HI8.out.left; have hz8 := HI8.out.res; clear c6 c6')
    | ((with_reducible refine load7 rfl (.tmp 3) rfl w1.heap.size 8 a len (Pa.hd ts).place ⟨nm.toArray⟩ (.slice (some ⟨w7.heap.size, 0, none⟩) 1 1) (.slice none 0 0) ?xc hl8 ?_); (case xc => simp [go_sem]))
    | ((with_reducible refine store7 rfl (.tmp 2) (.tmp 30) rfl w.heap.size 8 a len (Pa.hd ts).place ⟨nm.toArray⟩ (some ⟨w7.heap.size, 0, none⟩) none 1 1 0 0 ?xa ?xb z7 rfl hz8 ?_); (case xa => simp [go_sem]); (case xb => simp [go_sem])))
  refine fin_local _ _ _ _ _ _ _ _ (by simp) hz8 ⟨_, rfl, .mk 8 [x] [] nm a len (Pa.hd ts).place _ _ ?_ .nil, HI8.out.p.row (by omega) _, HI8.out.keep.row (Nat.le_refl _) _⟩
  obtain ⟨s1, s2, s3, s4⟩ := HS.out
  have hgb : w1.heap.size ≠ w7.heap.size := by omega
  have HKm : Hid (Keep G (w7.alloc (.cells (ex8 k1 ⟨op1.toArray⟩ ⟨nm1.toArray⟩ n1 b1 (.slice a1 l1 q1) t1 p1) TE) |>.setCell ⟨w1.heap.size, 1, none⟩ (.slice (some ⟨w7.heap.size, 0, none⟩) 1 1)) w8) := HKs8
  have hN : w8.heap[w7.heap.size]? = some (.cells c.toArray TE (0, 0)) := by
    rw [HE.out]
    refine HKm.out.at (by omega) ?_
    rw [Below.heap_setCell _ _ _ _ (by show w7.heap.size ≠ w1.heap.size; omega)]
    exact HN.out
  have hsm : Same (New (w1.heap.size + 1)) w7 (w8.setRow w.heap.size (st7 8 (.slice (some ⟨w7.heap.size, 0, none⟩) 1 1) (.slice none 0 0) ⟨nm.toArray⟩ a len (Pa.hd ts).place)) := by
    refine ⟨by rw [setRow_size]; have := HKm.out.size; simp [World.setCell] at this; omega, fun b hb hl => ?_⟩
    have hb' : w1.heap.size + 1 ≤ b := hb
    rw [setRow_other _ _ _ _ (by omega), HKm.out.block b (by simp [World.setCell]; omega) (by omega), Below.heap_setCell _ _ _ _ (by show b ≠ w1.heap.size; omega)]
    exact Lib.alloc_old _ _ _ hl
  refine ks_one (HX.out.mono ⟨Nat.le_refl _, fun _ _ _ => rfl⟩ fun b hb => ?_) hsm (New.le (by omega)) ?_ ?_
  · exact Nat.le_trans (by omega) hb
  · show w.heap.size ≤ w7.heap.size; omega
  · rw [setRow_other _ _ _ _ (by omega)]; exact hN
end PaC
end Go.Proofs.YtnlbhnmiekanfaaGreatDoor
/-
  A struct of the call's own in one block, a row that grows in one of its fields. Condition: what the parser holds lies in memory.
-/
namespace Go.Proofs.YtnlbhnmiekanfaaGreatDoor
open Go.RowKit Go.Deep
set_option linter.unusedVariables false
set_option linter.unusedSimpArgs false
namespace PaC
open Pa Lx
variable {N : Nat} {Rl : Bs → Prop} {rb : Bs → Nat}
/-- an append in a region whose operations come in any order -/
theorem wp_append_at {P : Program} {w : World} {o : Oper} {a : Act} {K : Act → World → Prop} {Q : Exit → Act → World → Prop} (s x : Operand) (t : TypeId) (ho : o.op = .call { callee := .builtin .append, args := #[s, x], argTypes := #[t, t] })
    (base : Nat) (e : TypeId) (i : TypeInfo) (z : Value) (size bytes : Nat) (ht : P.underlying t = some (.slice e)) (hi : P.info? e = some i) (hz : i.zero = some z) (hsize : i.size = size) (hby : i.bytes = bytes) (hzs : z.cells.size = size) (hsz : 0 < size)
    (v : Value) (n : Nat) (xs : List Value) (hs : a.eval s = v) (hown : w.ownsRow base e size v n xs) (ad : Addr) (news : List Value) (hx : a.eval x = .slice (some ad) 1 1) (hl : news.length = size) (hnews : ∀ j u, news[j]? = some u → w.cell? (ad.add j) = some u)
    (h1 : ∀ u ∈ news, u.oneCell' = true) (hn : n + 1 ≤ 1100000) (hb : bytes ≤ 1000) (hbase : base ≤ w.heap.size)
    (h : ∀ q c w', w'.ownsRow base e size (.slice q (n + 1) c) (n + 1) (xs ++ news) → w.grownBy w' v.ownBlock → ((Value.slice q (n + 1) c).ownBlock = v.ownBlock ∨ (Value.slice q (n + 1) c).ownBlock = some w.heap.size) → K (a.put o.dst (.slice q (n + 1) c)) w') : o.wp P a w K Q := by
  obtain ⟨v', w', hr, h2, h3, h4, h5⟩ := run_append_own_at (P := P) w base t o.type e i z size bytes ht hi hz hsize hby hzs hsz v n xs hown ad 1 1 news (by rw [hl, Nat.one_mul]) hnews h1 (by unfold maxLen; omega) (Nat.le_trans (Nat.mul_le_mul hn hb) (by decide)) hbase
  obtain ⟨q, c, rfl⟩ := row_shape h2 rfl
  unfold Oper.wp execOp
  simp only [ho, resolve, invoke, builtin, Sem.run_bind, Sem.run_pure, Result.andThen_ok, List.map_toArray, List.map_cons, List.map_nil, hs, hx, hr]
  exact h q c w' h2 h3 h5
/-- what is kept: the struct, and the row in one of its fields -/
structure BlkI {α : Type} (n : Nat) (R : (Nat → Prop) → World → α → List Value → Prop) (e : TypeId) (N G d : Nat) (Rl : Bs → Prop) (T : TypeId) (z : Array Value) (w wr : World) (B : Nat) (cs : Value → Array Value) (acc : List α) (v : Value) (rows : List (List Value)) (ts : List Tok) : Prop where
  own : OwnI N G d Rl T z w wr B ts (cs v)
  grow : Grow n R e (B + 1) wr acc v rows
section
variable {α : Type} {n : Nat} {R : (Nat → Prop) → World → α → List Value → Prop} {e : TypeId} {G d B : Nat} {T : TypeId} {z : Array Value} {w wr w2 w3 : World} {cs : Value → Array Value} {acc : List α} {v v' : Value} {rows : List (List Value)} {ts ts2 : List Tok}
theorem BlkI.next (hs : Stays R) (hlt : N ≤ w.heap.size ∧ G < N) (h : BlkI n R e N G d Rl T z w wr B cs acc v rows ts) (hp : PAt N w2 G ts2 d) (hk : Keep G wr w2) (hg : Good Rl ts2) : BlkI n R e N G d Rl T z w w2 B cs acc v rows ts2 :=
  ⟨h.own.next hlt hp hk hg, h.grow.keep hs hk (by have := h.own.lt; omega)⟩
theorem BlkI.below (hs : Stays R) (h : BlkI n R e N G d Rl T z w wr B cs acc v rows ts) (hb : Below wr.heap.size wr w2) : BlkI n R e N G d Rl T z w w2 B cs acc v rows ts :=
  ⟨h.own.below hb, h.grow.below hs hb⟩
theorem BlkI.drew (hs : Stays R) (h : BlkI n R e N G d Rl T z w wr B cs acc v rows ts) : BlkI n R e N G d Rl T z w wr.drew B cs acc v rows ts :=
  ⟨h.own.drew, h.grow.below hs ⟨rfl, rfl, rfl, Nat.le_refl _, fun _ _ => rfl⟩⟩
theorem BlkI.block (h : BlkI n R e N G d Rl T z w wr B cs acc v rows ts) : ∀ b, v.ownBlock = some b → b < wr.heap.size := fun b hb => (h.grow.block hb).2
/-- the struct's field holds the row that grew -/
theorem BlkI.push {k : α} {r : List Value} {M i : Nat} (hs : Stays R) (hlt : N ≤ w.heap.size ∧ G < N) (h : BlkI n R e N G d Rl T z w wr B cs acc v rows ts) (hM : ∀ b, v.ownBlock = some b → b < M) (hM2 : B < M) (hr : R (New M) wr k r) (hrl : r.length = n)
    (hown : w2.ownsRow (B + 1) e n v' (acc.length + 1) (rows.flatten ++ r)) (hg : wr.grownBy w2 v.ownBlock) (hat : v'.ownBlock = v.ownBlock ∨ v'.ownBlock = some wr.heap.size) (hc : ∀ v v', (cs v).setIfInBounds i v' = cs v') :
    w2.heap[B]? = some (.cells (cs v) T (0, 0)) ∧ BlkI n R e N G d Rl T z w (w2.setCell ⟨B, i, none⟩ v') B cs (acc ++ [k]) v' (rows ++ [r]) ts := by
  have hB := h.own.lt
  have hBl := (Array.getElem?_eq_some_iff.1 h.own.left).1
  have hk : ∀ b, b ≤ B → w2.heap[b]? = wr.heap[b]? := fun b hb => hg.block b (by omega) fun e2 => by have := (h.grow.block e2.symm).1; omega
  have ho : OwnI N G d Rl T z w w2 B ts (cs v) := by
    refine ⟨h.own.p.frame hg.size fun b hb => hk b (by omega), h.own.good, ?_, (hk _ (by omega)).trans h.own.res, (hk _ (Nat.le_refl _)).trans h.own.left, hB⟩
    exact ⟨hg.os.trans h.own.keep.os, hg.tape.trans h.own.keep.tape, hg.output.trans h.own.keep.output, Nat.le_trans h.own.keep.size hg.size, fun b hb hne => (hk b (by omega)).trans (h.own.keep.block b hb hne)⟩
  refine ⟨ho.left, ho.set hlt i v' (hc _ _), ?_⟩
  have hgr : Grow n R e (B + 1) w2 (acc ++ [k]) v' (rows ++ [r]) :=
    h.grow.push hs (hs.on _ _ _ _ _ _ ⟨Nat.le_refl _, fun _ _ _ => rfl⟩ (fun b hb => ⟨by have : M ≤ b := hb; omega, fun e2 => by have := hM b e2; have : M ≤ b := hb; omega⟩) hr) hrl hown hg hat
  exact hgr.grown hs (G := some B) ⟨rfl, rfl, rfl, by simp [World.setCell], fun b hb hne => Below.heap_setCell _ _ _ _ (by show b ≠ B; intro e2; exact hne (by rw [e2]))⟩ fun b hb => by cases hb; omega
end
theorem st_one (k t l p : Int) (nm : ByteArray) (a1 a2 : Option Addr) (l1 c1 l2 c2 : Nat) : ∀ u ∈ (st7 k (.slice a1 l1 c1) (.slice a2 l2 c2) nm t l p).toList, u.oneCell' = true := by
  have := one7 k t l p nm a1 a2 l1 c1 l2 c2
  rw [Array.all_eq_true_iff_forall_mem] at this
  exact fun u hu => this u (Array.mem_toList_iff.1 hu)
end PaC
end Go.Proofs.YtnlbhnmiekanfaaGreatDoor
