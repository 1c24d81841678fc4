/-
  Where texts and data begin and end, one behind the other, plainly: none overlaps another. And two rows that stay apart. No condition.
-/
import Derived.Test.YtaocclgnpphjfaaLayW
import Derived.StillTailTactics
namespace Go.Proofs.Ytaocclgnpphjfaa
open Go.RowKit
set_option linter.unusedVariables false
set_option linter.unusedSimpArgs false
namespace LX
open LM LW
def frm (l : Sz) (i : Nat) : Nat := if i % 2 = 0 then textAt l (i / 2) else dataAt l (i / 2)
def tom (l : Sz) (i : Nat) : Nat := if i % 2 = 0 then textAt l (i / 2 + 1) else dataAt l (i / 2 + 1)
/-- the ends so far -/
def qlc (l : Sz) (k : Nat) : List Value := (List.range k).flatMap fun j => [Value.int .i64 (textAt l (j + 1) : Nat), .int .i64 (dataAt l (j + 1) : Nat)]
theorem qlc_succ (l : Sz) (k : Nat) : qlc l (k + 1) = qlc l k ++ [.int .i64 (textAt l (k + 1) : Nat), .int .i64 (dataAt l (k + 1) : Nat)] := by
  unfold qlc
  rw [List.range_succ, List.flatMap_append]
  simp
theorem qlc_length (l : Sz) (k : Nat) : (qlc l k).length = k * 2 := by
  induction k with
  | zero => rfl
  | succ k ih => rw [qlc_succ, List.length_append, ih]; simp; omega
theorem qlc_get (l : Sz) (k j : Nat) (h : j < k) : (qlc l k)[j * 2]? = some (.int .i64 (textAt l (j + 1) : Nat)) ∧ (qlc l k)[j * 2 + 1]? = some (.int .i64 (dataAt l (j + 1) : Nat)) := by
  induction k with
  | zero => omega
  | succ k ih =>
    rw [qlc_succ]
    by_cases e : j = k
    · subst e
      rw [List.getElem?_append_right (by rw [qlc_length]; omega), List.getElem?_append_right (by rw [qlc_length]; omega), qlc_length]
      rw [show j * 2 - j * 2 = 0 by omega, show j * 2 + 1 - j * 2 = 1 by omega]
      exact ⟨rfl, rfl⟩
    · have := ih (by omega)
      rw [List.getElem?_append_left (by rw [qlc_length]; omega), List.getElem?_append_left (by rw [qlc_length]; omega)]
      exact this
theorem plc_at {l : Sz} {k i : Nat} (h : i < 2 * k) : (plc l k)[i]? = some (.int .i64 (frm l i : Nat)) := by
  have h2 := plc_get l k (i / 2) (by omega)
  unfold frm
  by_cases e : i % 2 = 0
  · rw [if_pos e, ← h2.1]
    congr 1; omega
  · rw [if_neg e, ← h2.2]
    congr 1; omega
theorem qlc_at {l : Sz} {k i : Nat} (h : i < 2 * k) : (qlc l k)[i]? = some (.int .i64 (tom l i : Nat)) := by
  have h2 := qlc_get l k (i / 2) (by omega)
  unfold tom
  by_cases e : i % 2 = 0
  · rw [if_pos e, ← h2.1]
    congr 1; omega
  · rw [if_neg e, ← h2.2]
    congr 1; omega
theorem frm_ge (l : Sz) (i : Nat) : 12 ≤ frm l i ∧ frm l i ≤ dend l := by
  have h1 := textAt_le l (i / 2)
  have h2 := dataAt_le l (i / 2)
  have h3 := tend_le l
  unfold frm
  split <;> omega
theorem tom_le (l : Sz) (i : Nat) : tom l i ≤ dend l := by
  have h1 := textAt_le l (i / 2 + 1)
  have h2 := dataAt_le l (i / 2 + 1)
  have h3 := tend_le l
  unfold tom
  split <;> omega
theorem frm_4 {l : Sz} {i : Nat} (h : i % 2 = 0) : frm l i % 4 = 0 := by
  unfold frm textAt
  rw [if_pos h]
  omega
def al8 (l : Sz) (k : Nat) : Bool := (l.take k).all fun x => decide (x.2 % 8 = 0)
theorem al8_succ {l : Sz} {k : Nat} (h : k < l.length) : al8 l (k + 1) = (al8 l k && decide (l[k].2 % 8 = 0)) := by
  unfold al8
  rw [take_one h, List.all_append]
  simp
theorem ds_8 : ∀ (l : Sz) (k : Nat), (∀ x ∈ l, x.2 % 8 = 0) → ds (l.take k) % 8 = 0
  | [], k, _ => by simp [ds]
  | x :: l, 0, _ => by simp [ds]
  | x :: l, k + 1, h => by
    have h1 := h x (List.mem_cons_self ..)
    have h2 := ds_8 l k fun y hy => h y (List.mem_cons_of_mem _ hy)
    have e : ds ((x :: l).take (k + 1)) = x.2 + ds (l.take k) := by simp [ds]
    rw [e]; omega
theorem frm_8 {l : Sz} {i : Nat} (h : ¬ i % 2 = 0) (ha : al8 l l.length = true) : frm l i % 8 = 0 := by
  unfold al8 at ha
  rw [List.take_length] at ha
  have h1 := ds_8 l (i / 2) fun x hx => by have := List.all_eq_true.1 ha x hx; simpa using this
  have h2 := line_ge (tend l)
  unfold frm dataAt
  rw [if_neg h]
  omega
theorem apart {l : Sz} {i k : Nat} (h : k < i) (h1 : frm l i < tom l k) (h2 : frm l k < tom l i) : False := by
  have t1 := textAt_le l (i / 2)
  have t2 := textAt_le l (i / 2 + 1)
  have t3 := textAt_le l (k / 2 + 1)
  have d1 := dataAt_le l (i / 2)
  have d2 := dataAt_le l (k / 2)
  have hl := tend_le l
  unfold frm tom at h1 h2
  by_cases e1 : i % 2 = 0
  · by_cases e2 : k % 2 = 0
    · rw [if_pos e1, if_pos e2] at h1
      have := textAt_mono l (show k / 2 + 1 ≤ i / 2 by omega)
      omega
    · rw [if_pos e1, if_neg e2] at h2
      omega
  · by_cases e2 : k % 2 = 0
    · rw [if_neg e1, if_pos e2] at h1
      omega
    · rw [if_neg e1, if_neg e2] at h1
      have := dataAt_mono l (show k / 2 + 1 ≤ i / 2 by omega)
      omega
/-- rows that stay apart -/
def Apart (u v : Value) : Prop := ∀ g, u.ownBlock = some g → v.ownBlock ≠ some g
theorem Apart.symm {u v : Value} (h : Apart u v) : Apart v u := fun g h1 h2 => h g h2 h1
theorem kept {w w' : World} {B : Nat} {e : TypeId} {z n : Nat} {u v : Value} {xs : List Value} (h : w.ownsRow B e z v n xs) (hg : w.grownBy w' u.ownBlock) (ha : Apart u v) : w'.ownsRow B e z v n xs :=
  h.kept hg (by
    cases hv : v.ownBlock with
    | none => exact .inl rfl
    | some g => exact .inr fun e => ha g e.symm hv)
theorem Apart.next {w : World} {B : Nat} {e : TypeId} {z n : Nat} {u v u' : Value} {xs : List Value} {g : Nat} (ha : Apart u v) (h : w.ownsRow B e z v n xs) (hu : u'.ownBlock = some g) (ht : u.ownBlock = some g ∨ g = w.heap.size) : Apart u' v := fun k h1 h2 => by
  rw [hu] at h1
  cases h1
  rcases ht with ht | ht
  · exact ha g ht h2
  · have := (h.lt g h2).2; omega
theorem tail_ {P : Program} {id : Nat} {Q : Exit → Act → World → Prop} {a : Act} {w : World} {l : List Oper} (n : Nat) (hm : P.follows .mixedOrders = true) (hB : Region.lexTailB .any l.toArray n = true)
    (h : wpStill P l.toArray w.drew (fun a' => wpList P l.toArray Q (l.drop n) a' w.drew) (l.take n) a) : (Code.region id l.toArray true).wp P Q a w := wp_region_still_tail n hm hB h
abbrev Four (w : World) (b g s : Nat) (t d : Int) (v0 v1 : Value) : Prop := w.cell? ⟨b, 0, none⟩ = some (.int .i64 t) ∧ w.cell? ⟨b, 1, none⟩ = some (.int .i64 d) ∧ w.cell? ⟨g, s, none⟩ = some v0 ∧ w.cell? ⟨g, s + 1, none⟩ = some v1
theorem Four.alloc {w : World} {b g s : Nat} {t d : Int} {v0 v1 : Value} (h : Four w b g s t d v0 v1) (hb : b < w.heap.size) (hg : g < w.heap.size) (o : Obj) : Four (w.alloc o) b g s t d v0 v1 :=
  ⟨(World.cell?_alloc_lt (w := w) (a := ⟨b, 0, none⟩) (o := o) hb).trans h.1, (World.cell?_alloc_lt (w := w) (a := ⟨b, 1, none⟩) (o := o) hb).trans h.2.1, (World.cell?_alloc_lt (w := w) (a := ⟨g, s, none⟩) (o := o) hg).trans h.2.2.1, (World.cell?_alloc_lt (w := w) (a := ⟨g, s + 1, none⟩) (o := o) hg).trans h.2.2.2⟩
theorem Four.drew {w : World} {b g s : Nat} {t d : Int} {v0 v1 : Value} (h : Four w b g s t d v0 v1) : Four w.drew b g s t d v0 v1 := h
theorem Four.grown {w w' : World} {b g s : Nat} {t d : Int} {v0 v1 : Value} {row : Option Nat} (h : Four w b g s t d v0 v1) (hb : b < w.heap.size) (hg : g < w.heap.size) (hgr : w.grownBy w' row) (n1 : some b ≠ row) (n2 : some g ≠ row) : Four w' b g s t d v0 v1 :=
  ⟨(LO.cell_same (hgr.block b hb n1) 0).trans h.1, (LO.cell_same (hgr.block b hb n1) 1).trans h.2.1, (LO.cell_same (hgr.block g hg n2) s).trans h.2.2.1, (LO.cell_same (hgr.block g hg n2) (s + 1)).trans h.2.2.2⟩
theorem row_at {w : World} {B n c : Nat} {T : TypeId} {q : Option Addr} {xs : List Value} (h : w.ownsRow B T 1 (.slice q n c) n xs) (h0 : 0 < n) : ∃ g, q = some ⟨g, 0, none⟩ ∧ g < w.heap.size ∧ n ≤ c ∧ c ≤ maxLen ∧ ∀ j u, xs[j]? = some u → w.cell? ⟨g, j, none⟩ = some u := by
  rcases h.2 with ⟨e, e2⟩ | ⟨g, cap, cur, e, _, hg, h1, h2, _, _⟩
  · cases e; omega
  · cases e
    refine ⟨g, rfl, OO.lt_heap hg, h1, h2, fun j u hj => ?_⟩
    have f0 := h.cells (g := g) rfl _ _ hj
    rw [OO.add_plain, Nat.zero_add] at f0
    exact f0
theorem b8 (n : Nat) : (((n : Int) % 8) == 0) = decide (n % 8 = 0) := by
  rw [Bool.eq_iff_iff]; simp; omega
theorem dn {B : Nat} {a w : World} {q : Nat} (h : Below B a w) : Below B a (w.drewN q) := ⟨h.os, h.tape, h.output, h.size, h.block⟩
end LX
end Go.Proofs.Ytaocclgnpphjfaa
