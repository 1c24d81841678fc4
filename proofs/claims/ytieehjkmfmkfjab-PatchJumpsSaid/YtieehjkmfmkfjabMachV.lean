/-
  A run of the machine, a contract. Conditions: fewer than 4,000 steps are made.
-/
import Derived.Test.YtieehjkmfmkfjabMachU
namespace Go.Proofs.Ytieehjkmfmkfjab
open Go.RowKit
set_option linter.unusedVariables false
set_option linter.unusedSimpArgs false
namespace MV
attribute [local go_sem ↓] Go.wp_at_zero Go.wp_at_succ
open MM MC MD MG MH MA MF MS MT MU
section
variable {b bm N : Nat} {w w' : World} {s : St} {vi ve : Value} {inp : List Int}
theorem Inp.form {B : Nat} (h : Inp w B b bm vi inp) : ∃ p l c, vi = .slice p l c := by
  rcases h.ok with ⟨_, p, c, rfl⟩ | ⟨g, o, c, rfl, _⟩
  · exact ⟨p, 0, c, rfl⟩
  · exact ⟨_, _, c, rfl⟩
theorem own_form {B : Nat} {e : TypeId} {z n : Nat} {v : Value} {xs : List Value} (h : w.ownsRow B e z v n xs) : ∃ p l c, v = .slice p l c := by
  rcases h.2 with ⟨rfl, _⟩ | ⟨g, cap, cur, rfl, _⟩
  · exact ⟨_, _, _, rfl⟩
  · exact ⟨_, _, _, rfl⟩
def codeOf (s : St) : Int := if s.state = 1 then s.x 10 else 0
/-- what a Run leaves -/
structure Ran (b bm N : Nat) (w : World) (T : Rn) (ve : Value) (w' : World) : Prop where
  at_ : At w' b bm N T.s
  ev : w'.ownsRow (w.heap.size + 3) 118 3 ve T.out.length (evs T.out)
  own : Own w.heap.size b bm w w'
  fine : Fine T.s
  inb : ∀ x ∈ T.inp, 0 ≤ x ∧ x ≤ 4294967295
def RunPost (b bm N : Nat) (w : World) (T : Rn) (e : Ending) (w' : World) : Prop := ∃ p l c, e = .returned (.agg #[.int .i64 T.s.state, .int .u32 (codeOf T.s), .slice p l c, .int .i64 (T.n : Nat)]) ∧ Ran b bm N w T (.slice p l c) w'
theorem res_fin {Q : Ending → World → Prop} {tmps : Array Value} {k : Nat} {w : World} {v0 v1 v2 v3 : Value}
    (hp : tmps.getD 6 undef = .pointer (some ⟨k, 0, none⟩)) (hg : w.heap[k]? = some (.cells #[v0, v1, v2, v3] 43 (0, 0))) (hQ : Q (.returned (.agg #[v0, v1, v2, v3])) w) :
    bodyPost Try.prog Try.f16 Q .ret { tmps := tmps, defers := [] } w := by
  refine bodyPost_ret (v := .agg #[v0, v1, v2, v3]) ?_ rfl hQ
  exact results_cell_row Try.results16 tmps _ k 43 _ (0, 0) _ hp hg Try.underlying43 rfl (by kernel_rfl)
theorem res4 {w : World} {k : Nat} {v0 v1 v2 v3 : Value} (hg : w.heap[k]? = some (.cells #[v0, v1, v2, v3] 43 (0, 0))) :
    (w.cell? ⟨k, 0, none⟩ = some v0 ∧ w.cell? ⟨k, 1, none⟩ = some v1 ∧ w.cell? ⟨k, 2, none⟩ = some v2 ∧ w.cell? ⟨k, 3, none⟩ = some v3) ∧ (w.frozen? ⟨k, 0, none⟩ = false ∧ w.frozen? ⟨k, 1, none⟩ = false ∧ w.frozen? ⟨k, 2, none⟩ = false ∧ w.frozen? ⟨k, 3, none⟩ = false) :=
  ⟨⟨cell_of_row w k 0 _ _ _ hg, cell_of_row w k 1 _ _ _ hg, cell_of_row w k 2 _ _ _ hg, cell_of_row w k 3 _ _ _ hg⟩, frozen_of_row w k 0 _ _ hg, frozen_of_row w k 1 _ _ hg, frozen_of_row w k 2 _ _ hg, frozen_of_row w k 3 _ _ hg⟩
def set4 (w : World) (k : Nat) (v0 v1 v2 v3 : Value) : World := (((w.setCell ⟨k, 0, none⟩ v0).setCell ⟨k, 1, none⟩ v1).setCell ⟨k, 2, none⟩ v2).setCell ⟨k, 3, none⟩ v3
theorem set4_at {w : World} {k : Nat} {a b c d : Value} (h : w.heap[k]? = some (.cells #[a, b, c, d] 43 (0, 0))) (v0 v1 v2 v3 : Value) :
    (set4 w k v0 v1 v2 v3).heap[k]? = some (.cells #[v0, v1, v2, v3] 43 (0, 0)) := by
  have h1 := heap_setCell_same w k 0 _ _ v0 h
  have h2 := heap_setCell_same _ k 1 _ _ v1 h1
  have h3 := heap_setCell_same _ k 2 _ _ v2 h2
  exact heap_setCell_same _ k 3 _ _ v3 h3
theorem set4_other (w : World) (k : Nat) (v0 v1 v2 v3 : Value) {j : Nat} (h : j ≠ k) : (set4 w k v0 v1 v2 v3).heap[j]? = w.heap[j]? := by
  unfold set4
  rw [heap_setCell_other _ ⟨k, 3, none⟩ j _ h, heap_setCell_other _ ⟨k, 2, none⟩ j _ h, heap_setCell_other _ ⟨k, 1, none⟩ j _ h, heap_setCell_other _ ⟨k, 0, none⟩ j _ h]
theorem set4_size (w : World) (k : Nat) (v0 v1 v2 v3 : Value) : (set4 w k v0 v1 v2 v3).heap.size = w.heap.size := by simp [set4, World.setCell]
theorem ran_of {T : Rn} {w1 : World} {vi' : Value} {c br bk : Nat} {sd : List (Nat × Obj)} (L : Lives w.heap.size br bk b bm N sd w1 T.s vi' ve T.inp T.out T.n c) (O : Own w.heap.size b bm w w1) (hf : Fine T.s) (hi : ∀ x ∈ T.inp, 0 ≤ x ∧ x ≤ 4294967295) (v0 v1 v2 v3 : Value) :
    Ran b bm N w T ve (set4 w1 w.heap.size v0 v1 v2 v3) := by
  have hp := L.pl
  have hs := set4_size w1 w.heap.size v0 v1 v2 v3
  have ho : ∀ j, j ≠ w.heap.size → (set4 w1 w.heap.size v0 v1 v2 v3).heap[j]? = w1.heap[j]? := fun j h => set4_other w1 w.heap.size v0 v1 v2 v3 h
  have h1 : (set4 w1 w.heap.size v0 v1 v2 v3).os = w1.os := rfl
  have h2 : (set4 w1 w.heap.size v0 v1 v2 v3).tape = w1.tape := rfl
  have h3 : (set4 w1 w.heap.size v0 v1 v2 v3).output = w1.output := rfl
  generalize set4 w1 w.heap.size v0 v1 v2 v3 = W at *
  refine ⟨L.at_.kept (ho b (by omega)) (ho bm (by omega)), ownsRow_same L.ev fun k hk => ho k (by omega), ⟨h1.trans O.os, h2.trans O.tape, h3.trans O.output, by have := O.size; omega, fun k q1 q2 q3 => (ho k (by omega)).trans (O.block k q1 q2 q3)⟩, hf, hi⟩
theorem Ran.drew {T : Rn} (h : Ran b bm N w T ve w') : Ran b bm N w T ve w'.drew :=
  ⟨h.at_.kept rfl rfl, ownsRow_same h.ev fun _ _ => rfl, ⟨h.own.os, h.own.tape, h.own.output, h.own.size, h.own.block⟩, h.fine, h.inb⟩
/-- a run begins -/
theorem begins (A : At w b bm N s) (I : Inp w w.heap.size b bm vi inp) :
    Lives w.heap.size (w.heap.size + 1 + 1) (w.heap.size + 1) b bm N [(w.heap.size, .cells #[.int .i64 0, .int .u32 0, .slice none 0 0, .int .i64 0] 43)]
      (((w.alloc (.cells #[.int .i64 0, .int .u32 0, .slice none 0 0, .int .i64 0] 43)).alloc (.map #[] 0)).alloc (.cells #[.pointer (some ⟨b, 0, none⟩), vi, .slice none 0 0, .int .i64 0, .map (some (w.heap.size + 1))] 84)) s vi (.slice none 0 0) inp [] 0 0 := by
  have hb := lt_of_get A.head
  have hm := lt_of_get A.mem
  have old : ∀ (o1 o2 o3 : Obj) (k : Nat), k < w.heap.size → (((w.alloc o1).alloc o2).alloc o3).heap[k]? = w.heap[k]? := fun o1 o2 o3 k hk => by
    rw [Below.heap_alloc _ _ _ (by simp; omega), Below.heap_alloc _ _ _ (by simp; omega), Below.heap_alloc _ _ _ hk]
  refine ⟨A.kept (old _ _ _ _ hb) (old _ _ _ _ hm), MW.new_at _ _ _ (by simp), I.kept fun k hk _ _ => old _ _ _ _ hk, World.ownsRow_nil _ _ _ _, ?_, by simp, ⟨hb, hm, by omega, by omega, by omega, by omega, by omega⟩, ?_⟩
  · refine ⟨.map [], ?_, fun x hx => by cases hx⟩
    have h := (World.ownsMap_made (w.alloc (.cells #[.int .i64 0, .int .u32 0, .slice none 0 0, .int .i64 0] 43)) Try.prog 22 insR).alloc (.cells #[.pointer (some ⟨b, 0, none⟩), vi, .slice none 0 0, .int .i64 0, .map (some (w.heap.size + 1))] 84)
    rw [World.size_alloc] at h
    exact h
  · intro p hp
    rw [List.mem_singleton] at hp
    subst hp
    refine ⟨?_, by show w.heap.size ≠ b; omega, by show w.heap.size ≠ bm; omega, by show w.heap.size ≠ w.heap.size + 1 + 1; omega, by show w.heap.size ≠ w.heap.size + 1; omega, fun e => by cases e⟩
    rw [Below.heap_alloc _ _ _ (by simp; omega), Below.heap_alloc _ _ _ (by simp)]
    exact heap_alloc_new w _
set_option maxRecDepth 100000 in
set_option maxHeartbeats 4000000 in
theorem run_ (A : At w b bm N s) (I : Inp w w.heap.size b bm vi inp) (hs : Fine s) (hi : ∀ x ∈ inp, 0 ≤ x ∧ x ≤ 4294967295) (hN : N ≤ 2097152) (F : Int) (hF : F ≤ 9000000000000000000) (T : Rn) (hT : MM.run N F.toNat s inp = T) (hn : T.n ≤ 4000) :
    Calls Try.prog 16 #[.pointer (some ⟨b, 0, none⟩), vi, .int .i64 F] w (RunPost b bm N w T) := by
  have hmm := @run_makeMap Try.prog
  have hb := lt_of_get A.head
  have L0 := begins A I
  obtain ⟨p, l, cc, rfl⟩ := Inp.form I
  have HW := Lib.hid (Own.of_below (b := b) (bm := bm) ((((Below.refl w.heap.size w).alloc (Nat.le_refl _) (.cells #[.int .i64 0, .int .u32 0, .slice none 0 0, .int .i64 0] 43)).alloc (by simp) (.map #[] 0)).alloc (by simp; omega) (.cells #[.pointer (some ⟨b, 0, none⟩), .slice p l cc, .slice none 0 0, .int .i64 0, .map (some (w.heap.size + 1))] 84)) (Nat.le_refl _))
  have cg := goOn_ L0 hs hi hN F hF T hT hn
  clear A I hs hi hT L0
  go_enter Try.func16, Try.ntmps16
  go_wp2_with (go_at_call 33; (with_reducible refine cg.mono ?_); rintro e w1 ⟨rfl, hD⟩)
  obtain ⟨vi', ve, c, L, O, hfin, hinb⟩ := hD
  obtain ⟨p', l', c', rfl⟩ := own_form L.ev
  have x1 := L.at_.cst
  have x2 := L.r2
  have x3 := L.r3
  have hres := (L.side _ (List.mem_singleton.2 rfl)).1
  obtain ⟨⟨y0, y1, y2, y3⟩, z0, z1, z2, z3⟩ := res4 hres
  have cc : ∀ q, Calls Try.prog 34 #[.pointer (some ⟨b, 0, none⟩)] (w1.drewN q) fun e w' => e = .returned (.int .u32 (codeOf T.s)) ∧ w' = w1.drewN q := fun q => (MW.code_ (L.at_.kept (w' := w1.drewN q) rfl rfl)).mono fun _ _ h => ⟨h.1, h.2.symm⟩
  have c1 : Calls Try.prog 34 #[.pointer (some ⟨b, 0, none⟩)] w1.drew fun e w' => e = .returned (.int .u32 (codeOf T.s)) ∧ w' = w1.drew := cc 1
  have HL := Lib.hid L
  have HO := Lib.hid O
  have HF := Lib.hid hfin
  have HI := Lib.hid hinb
  have HR := Lib.hid hres
  clear L O hfin hinb hres cc cg
  generalize hcd : codeOf T.s = cd at *
  have HCD := Lib.hid hcd
  clear hcd
  refine MW.tail_ 11 (by kernel_rfl) (by kernel_rfl) ?_
  simp only [List.take_succ_cons, List.take_zero, List.drop_succ_cons, List.drop_zero]
  repeat still_step
  still_call c1
  repeat still_step
  refine wpStill_nil ?_
  go_wp2
  refine res_fin (w := (set4 w1 w.heap.size (.int .i64 T.s.state) (.int .u32 cd) (.slice p' l' c') (.int .i64 (T.n : Nat))).drew) (k := w.heap.size) rfl (set4_at HR.out _ _ _ _) ⟨p', l', c', ?_, (ran_of HL.out (HW.out.trans HO.out) HF.out HI.out _ _ _ _).drew⟩
  rw [HCD.out]
end
end MV
end Go.Proofs.Ytieehjkmfmkfjab
