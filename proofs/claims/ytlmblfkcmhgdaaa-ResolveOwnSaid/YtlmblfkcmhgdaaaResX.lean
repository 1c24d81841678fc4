/-
  Resolve's loop: one target more; how the loop ends. Condition: none.
-/
import Derived.Test.YtlmblfkcmhgdaaaResU
namespace Go.Proofs.Ytlmblfkcmhgdaaa
open Go.RowKit Go.Maps Go.WideMaps
set_option linter.unusedVariables false
set_option linter.unusedSimpArgs false
namespace RsV
open OO OJ RsM RsI RsP RsR RsD RsS RsT RsN OCk
open OI hiding Mid Did
theorem pair_get : ∀ (l : List (Int × Int)) (j : Nat) (t : Int × Int), l[j]? = some t → (pairCells l)[j * 2]? = some (.int .i64 t.1) ∧ (pairCells l)[j * 2 + 1]? = some (.int .i64 t.2)
  | [], j, t, h => by simp at h
  | x :: l, 0, t, h => by
    simp at h
    subst h
    exact ⟨rfl, rfl⟩
  | x :: l, j + 1, t, h => by
    have := pair_get l j t (by simpa using h)
    rw [show (j + 1) * 2 = j * 2 + 1 + 1 by omega]
    rw [show pairCells (x :: l) = .int .i64 x.1 :: .int .i64 x.2 :: pairCells l from rfl]
    simp only [List.getElem?_cons_succ]
    exact this
/-- the rows, as they are answered -/
theorem tgts_at {O base n : Nat} {f : Nat → List (Int × Int)} {vs : List Value} {W : World} (h : TRows O base n f vs W) : TgtsAt W (.slice (some ⟨O, 0, none⟩) n n) ((List.range n).map f) := by
  have hlen : ((List.range n).map f).length = n := by simp
  unfold TgtsAt
  rw [hlen]
  refine ⟨some ⟨O, 0, none⟩, n, rfl, fun h0 => ?_⟩
  rcases h.out.2 with ⟨e, _⟩ | ⟨g, cap, cur, e, _, hg, h1, h2, _, _⟩
  · simp at e
  · simp only [Value.slice.injEq, Option.some.injEq, Addr.mk.injEq, and_true, true_and] at e
    obtain ⟨rfl, rfl⟩ := e
    refine ⟨O, 0, rfl, lt_heap hg, Nat.le_refl _, h2, fun i r hr => ?_⟩
    have hi : i < n := by
      have := (List.getElem?_eq_some_iff.1 hr).1
      rwa [hlen] at this
    have hr : f i = r := by
      rw [List.getElem?_map, List.getElem?_range hi] at hr
      exact Option.some.inj hr
    subst hr
    have hv := List.getElem?_eq_getElem (show i < vs.length by rw [h.len]; exact hi)
    refine ⟨_, by rw [Nat.zero_add]; exact (h.out.cellAt i (by omega)).trans hv, ?_⟩
    have hrow := h.row i _ hv
    generalize vs[i]'(by rw [h.len]; exact hi) = v at hrow
    rcases hrow.2 with ⟨rfl, e⟩ | ⟨g, cap, cur, rfl, hb, hg, h3, h4, _⟩
    · exact ⟨none, 0, by rw [e], fun h0 => by omega⟩
    · refine ⟨some ⟨g, 0, none⟩, cap, rfl, fun _ => ⟨g, 0, rfl, lt_heap hg, h3, h4, fun j t ht => ?_⟩⟩
      have e0 := hrow.cells (g := g) rfl (j * 2) _ (pair_get _ _ _ ht).1
      have e1 := hrow.cells (g := g) rfl (j * 2 + 1) _ (pair_get _ _ _ ht).2
      rw [OO.add_plain, Nat.zero_add] at e0 e1
      rw [Nat.zero_add]
      exact ⟨e0, e1⟩
/-- they lie in new memory -/
theorem tgts_lo {O base n lo : Nat} {f : Nat → List (Int × Int)} {vs : List Value} {W : World} (h : TRows O base n f vs W) (h1 : lo ≤ O) (h2 : lo ≤ base) : TgtsLo lo W (.slice (some ⟨O, 0, none⟩) n n) := by
  intro b o m c e
  simp only [Value.slice.injEq, Option.some.injEq, Addr.mk.injEq, and_true] at e
  obtain ⟨⟨rfl, rfl⟩, rfl, rfl⟩ := e
  refine ⟨h1, fun i hi b' o' m' c' hc => ?_⟩
  have hv := List.getElem?_eq_getElem (show i < vs.length by rw [h.len]; exact hi)
  rw [Nat.zero_add, (h.out.cellAt i (by omega)).trans hv] at hc
  have hc := Option.some.inj hc
  have hrow := h.row i _ hv
  rw [hc] at hrow
  rcases hrow.2 with ⟨e, _⟩ | ⟨g, cap, cur, e, hb, _⟩
  · simp at e
  · simp only [Value.slice.injEq, Option.some.injEq, Addr.mk.injEq, and_true] at e
    obtain ⟨⟨rfl, rfl⟩, -, -⟩ := e
    omega
section
variable {w : World} {F : List Ent} {A M B base n : Nat} {l : List Ent} {W9 w' : World} {x : Ent} {v v' : Value} {vs : List Value} {ta tb : Int} {o : Obj} {m : Nat} {xs : List Value} {f : Nat → List (Int × Int)}
/-- what the store of the row leaves as it was -/
theorem next_low (hrow : W9.ownsRow base TT 2 v m xs) (hz : base ≤ W9.heap.size) (hA : App base (W9.drew.alloc o) v m xs (ta, tb) v' w') (i k : Nat) (hk : k < base) (hne : k ≠ A + 1) : (w'.setCell ⟨A + 1, i, none⟩ v').heap[k]? = W9.heap[k]? :=
  (Below.heap_setCell _ _ _ _ (by exact hne)).trans ((hA.grown.block k (by simp only [World.size_alloc]; show k < W9.heap.size + 1; omega) (fun e => by have := (hrow.lt k e.symm).1; omega)).trans (Lib.alloc_old _ _ _ (by show k < W9.heap.size; omega)))
theorem next_keeps (hrow : W9.ownsRow base TT 2 v m xs) (hz : base ≤ W9.heap.size) (hO : A + 1 < base) (hA : App base (W9.drew.alloc o) v m xs (ta, tb) v' w') (i : Nat) : KeepsFrom base W9 (w'.setCell ⟨A + 1, i, none⟩ v') := by
  have h0 := hA.grown.size
  simp only [World.size_alloc] at h0
  have h0 : W9.heap.size + 1 ≤ w'.heap.size := h0
  refine ⟨by rw [World.size_setCell]; omega, fun k ob hk hob hc => ?_⟩
  refine (Below.heap_setCell _ _ _ _ (by show k ≠ A + 1; omega)).trans ((hA.grown.block k (by simp only [World.size_alloc]; show k < W9.heap.size + 1; have := lt_heap hob; omega) (fun e => ?_)).trans ((Lib.alloc_old _ _ _ (by show k < W9.heap.size; exact lt_heap hob)).trans hob))
  obtain ⟨c, hcc, -⟩ := row_block hrow k e.symm
  rw [hcc] at hob
  cases hob
  cases hc
theorem ri_next (hl : Lay w A M B base) (h : RI w F A M B base n l W9) (hv : TRows (A + 1) base n (fun i => RsT.rowAt F l i) vs W9) (hvi : vs[x.i]? = some v)
    (hA : App base (W9.drew.alloc o) v (RsT.rowAt F l x.i).length (pairCells (RsT.rowAt F l x.i)) (ta, tb) v' w') (ht : tgs F x = (ta, tb)) (hb : RsT.bad F x = false) : RI w F A M B base n (l ++ [x]) (w'.setCell ⟨A + 1, x.i, none⟩ v') := by
  have l1 := hl.m
  have l2 := hl.a
  have l3 := hl.b
  have l4 := hl.z
  have hz := h.zz
  have hrow := hv.row _ _ hvi
  have low : ∀ k, k < base → k ≠ A + 1 → (w'.setCell ⟨A + 1, x.i, none⟩ v').heap[k]? = W9.heap[k]? := fun k hk hne => next_low hrow hz hA x.i k hk hne
  have hbw : Below W9.heap.size W9 (W9.drew.alloc o) := ((Below.refl _ _).drew).alloc (Nat.le_refl _) _
  have hT := TRows.app (hv.below hbw) hvi (by simp only [World.size_alloc]; show base ≤ W9.heap.size + 1; omega) (by omega) hA
  have hlow : ∀ k, v.ownBlock = some k → base ≤ k := fun k hk => (hrow.lt k hk).1
  have h0 := hA.grown.size
  simp only [World.size_alloc] at h0
  have h0 : W9.heap.size + 1 ≤ w'.heap.size := h0
  have g2 : w'.grownBy (w'.setCell ⟨A + 1, x.i, none⟩ v') (some (A + 1)) := ⟨rfl, rfl, rfl, by rw [World.size_setCell]; exact Nat.le_refl _, fun k _ hk => Below.heap_setCell _ _ _ _ (fun e => hk (by rw [show k = A + 1 from e]))⟩
  have hf : (fun j => if j = x.i then RsT.rowAt F l x.i ++ [(ta, tb)] else RsT.rowAt F l j) = fun i => RsT.rowAt F (l ++ [x]) i := by
    funext j
    rw [rowAt_snoc, ht]
    by_cases e : j = x.i
    · subst e; rfl
    · rw [if_neg e, if_neg e]
  rw [hf] at hT
  refine ⟨(low _ (by omega) (by omega)).trans h.c0, (low _ (by omega) (by omega)).trans h.c1, (low _ (by omega) (by omega)).trans h.c2, (low _ (by omega) (by omega)).trans h.a, (low _ (by omega) (by omega)).trans h.b,
    ((h.map.drew.alloc o).kept hA.grown (fun e => by have := hlow _ e.symm; omega)).kept g2 (by simp; omega), ⟨_, hT⟩, fun y hy => ?_, ?_, by rw [World.size_setCell]; omega⟩
  · rcases List.mem_append.1 hy with hy | hy
    · exact h.ok y hy
    · rw [List.mem_singleton.1 hy]; exact hb
  · have hs := h.bel.size
    exact ((h.bel.drew.alloc (by show w.heap.size ≤ W9.heap.size; exact hs) o).grown hA.grown (by simp only [World.size_alloc]; show w.heap.size ≤ W9.heap.size + 1; omega) (fun k hk => by have := hlow k hk; omega)).setCell (by show w.heap.size ≤ A + 1; omega) _
end
theorem trows_set {O base n : Nat} {f : Nat → List (Int × Int)} {vs : List Value} {W : World} (h : TRows O base n f vs W) (k i : Nat) (u : Value) (hk : k < O) (hO : O < base) : TRows O base n f vs (W.setCell ⟨k, i, none⟩ u) := by
  refine h.kept (row := some k) ⟨rfl, rfl, rfl, by rw [World.size_setCell]; exact Nat.le_refl _, fun j _ hj => Below.heap_setCell _ _ _ _ (fun e => hj (by rw [show j = k from e]))⟩ (by simp; omega) (fun j v hv => ?_)
  cases e : v.ownBlock with
  | none => exact .inl rfl
  | some g => exact .inr (fun e2 => by have := ((h.row j v hv).lt g e).1; simp at e2; omega)
theorem trows_fin {O base n : Nat} {f : Nat → List (Int × Int)} {vs : List Value} {W : World} {r D : Nat} {a b c d : Value} (h : TRows O base n f vs W) (hr : r + 2 < O) (hO : O < base) (hD : (fin4 W r a b c d).heap[D]? = some (.deferred (some []))) : TRows O base n f vs ((fin4 W r a b c d).putObj D (.deferred none)) :=
  trows_own (trows_set (trows_set (trows_set (trows_set h r 0 a (by omega) hO) (r + 1) 0 b (by omega) hO) (r + 1) 1 c (by omega) hO) (r + 1 + 1) 0 d (by omega) hO) (grownBy_putObj' _ D _) (fun k e => by cases e; exact ⟨_, hD, rfl⟩)
theorem find_stop {objs : List ObjV} {p : Ent → Bool} {pre0 : List (Fin (flat objs).length)} {x : Fin (flat objs).length} {k : Nat} {h : k ≤ (flat objs).length} (e : pre0 ++ [x] = upto (flat objs).length k h) (hok : ∀ y ∈ pre0.map ent, p y = false) (hb : p (ent x) = true) : (flat objs).find? p = some (ent x) := by
  have h1 : (flat objs).take k = pre0.map ent ++ [ent x] := by
    rw [← map_upto objs k h, ← e, List.map_append]; rfl
  have h2 : (flat objs).find? p = ((flat objs).take k ++ (flat objs).drop k).find? p := by rw [List.take_append_drop]
  rw [h2, List.find?_append, h1, List.find?_append, List.find?_eq_none.2 (fun y hy => by rw [hok y hy]; simp)]
  simp [List.find?_cons, hb]
theorem find_all {l : List Ent} {p : Ent → Bool} (hok : ∀ y ∈ l, p y = false) : l.find? p = none := List.find?_eq_none.2 (fun y hy => by rw [hok y hy]; simp)
end RsV
end Go.Proofs.Ytlmblfkcmhgdaaa
