/-
  Names that nobody defines, plainly and in memory: the list that Needs gathers. Condition: none.
-/
import Derived.Test.YtlmblfkcmhgdaaaResV
import Derived.Test.YtlmblfkcmhgdaaaResX
import Derived.Sort.EveryDepth
import Derived.Sort.OwnSorted
import Derived.Sort.Grow
import Derived.Lib.OwnBridge
import Derived.Lib.SlicesCompact
import Derived.Lib.Fold
namespace Go.Proofs.Ytlmblfkcmhgdaaa
open Go.RowKit Go.Maps Go.WideMaps Go.Sort
set_option linter.unusedVariables false
set_option linter.unusedSimpArgs false
namespace RsJ
open OO OJ RsM RsI RsP RsR RsD RsS RsT RsV OCk
abbrev TSS : TypeId := 0
abbrev TST : TypeId := 9
def nmb (x : Ent) : List UInt8 := x.s.name.data.toList
def missL (F l : List Ent) : List (List UInt8) := (l.filter (RsT.bad F)).map nmb
theorem missL_yes {F l : List Ent} {x : Ent} (h : RsT.bad F x = true) : missL F (l ++ [x]) = missL F l ++ [nmb x] := by
  unfold missL
  rw [List.filter_append, List.map_append]
  simp [h]
theorem missL_no {F l : List Ent} {x : Ent} (h : RsT.bad F x = false) : missL F (l ++ [x]) = missL F l := by
  unfold missL
  rw [List.filter_append, List.map_append]
  simp [h]
theorem missL_le (F l : List Ent) : (missL F l).length ≤ l.length := by
  unfold missL
  rw [List.length_map]
  exact List.length_filter_le _ _
theorem enc_nmb (x : Ent) : encStr (nmb x) = .string x.s.name := by
  unfold encStr nmb
  simp
/-- what the loop has done -/
structure NI (w : World) (F : List Ent) (A M base : Nat) (l : List Ent) (W : World) : Prop where
  a : W.heap[A]? = some (.cells #[.map (some M)] TM (0, 0))
  b : ∃ v, W.heap[A + 1]? = some (.cells #[v] TSS (0, 0)) ∧ W.ownsRow base TST 1 v (missL F l).length ((missL F l).map encStr)
  map : W.ownsMap Try.prog 9 tgtR M F.length (namesD F)
  bel : Below w.heap.size w W
  zz : base ≤ W.heap.size
structure NLay (w : World) (A M base : Nat) : Prop where
  m : w.heap.size ≤ M
  a : M < A
  z : A + 1 < base
theorem NI.own {w : World} {F : List Ent} {A M base : Nat} (hl : NLay w A M base) : OwnFrom base (NI w F A M base) := by
  intro l W W' row h hg hr
  have h1 := hl.m
  have h2 := hl.a
  have h3 := hl.z
  have hz := h.zz
  have low : ∀ k, k < base → W'.heap[k]? = W.heap[k]? := fun k hk => hg.block k (by omega) (fun e => by have := (hr k e.symm).1; omega)
  obtain ⟨v, b1, b2⟩ := h.b
  exact ⟨(low _ (by omega)).trans h.a, ⟨v, (low _ (by omega)).trans b1, row_kept b2 hg fun r e => (hr r e).2⟩, h.map.kept hg (fun e => by have := (hr _ e.symm).1; omega),
    ⟨hg.os.trans h.bel.os, hg.tape.trans h.bel.tape, hg.output.trans h.bel.output, Nat.le_trans h.bel.size hg.size, fun k hk => (low k (by omega)).trans (h.bel.block k hk)⟩, Nat.le_trans hz hg.size⟩
theorem NI.below {w : World} {F : List Ent} {A M base : Nat} {l : List Ent} {W W' : World} (hl : NLay w A M base) (h : NI w F A M base l W) (hb : Below W.heap.size W W') : NI w F A M base l W' :=
  NI.own hl l W W' none h ⟨hb.os, hb.tape, hb.output, hb.size, fun i hi _ => hb.block i hi⟩ (fun r e => by cases e)
theorem ni_skip {w : World} {F : List Ent} {A M base : Nat} {l : List Ent} {x : Ent} {W W' : World} (hl : NLay w A M base) (h : NI w F A M base l W) (hx : RsT.bad F x = false) (hb : Below W.heap.size W W') : NI w F A M base (l ++ [x]) W' := by
  have h' := h.below hl hb
  refine ⟨h'.a, ?_, h'.map, h'.bel, h'.zz⟩
  rw [missL_no hx]
  exact h'.b
/-- a name more -/
theorem ni_next {w : World} {F : List Ent} {A M base : Nat} {l : List Ent} {x : Ent} {W W' : World} {v v' : Value} (hl : NLay w A M base) (h : NI w F A M base l W) (hx : RsT.bad F x = true)
    (b1 : W.heap[A + 1]? = some (.cells #[v] TSS (0, 0))) (b2 : W.ownsRow base TST 1 v (missL F l).length ((missL F l).map encStr))
    (hr : W'.ownsRow base TST 1 v' ((missL F l).length + 1) ((missL F l).map encStr ++ [.string x.s.name])) (hg : W.grownBy W' v.ownBlock) : NI w F A M base (l ++ [x]) (W'.setCell ⟨A + 1, 0, none⟩ v') := by
  have h1 := hl.m
  have h2 := hl.a
  have h3 := hl.z
  have hz := h.zz
  have hlow : ∀ k, v.ownBlock = some k → base ≤ k := fun k hk => (b2.lt k hk).1
  have hne : ∀ k, k < base → some k ≠ v.ownBlock := fun k hk e => by have := hlow k e.symm; omega
  have low : ∀ k, k < base → W'.heap[k]? = W.heap[k]? := fun k hk => hg.block k (by omega) (hne k hk)
  have g2 := grownBy_setCell' W' (A + 1) v'
  refine ⟨(g2.block _ (by have := hg.size; omega) (by simp)).trans ((low _ (by omega)).trans h.a), ⟨v', Boxed.set v' ((low _ (by omega)).trans b1), ?_⟩, (h.map.kept hg (hne _ (by omega))).kept g2 (by simp; omega), ?_, by rw [World.size_setCell]; exact Nat.le_trans hz hg.size⟩
  · rw [missL_yes hx, List.length_append, List.map_append, List.map_cons, List.map_nil, enc_nmb]
    refine hr.kept g2 ?_
    cases hv : v'.ownBlock with
    | none => exact .inl rfl
    | some k => exact .inr (fun e => by have := (hr.lt k hv).1; simp at e; omega)
  · exact (h.bel.grown hg h.bel.size (fun k hk => by have := hlow k hk; omega)).setCell (by simp; omega) _
def sorted (ss : List (List UInt8)) : List (List UInt8) := Lib.compact (ss.mergeSort fun x y => decide (x ≤ y))
/-- the names that nobody defines -/
def needsL (objs : List ObjV) : List (List UInt8) := if 0 ≤ noneFrom objs 0 then [] else sorted (missL (flat objs) (flat objs))
/-- where a list of strings lies -/
def StrsAt (W : World) (v : Value) (ks : List (List UInt8)) : Prop := Sl W.heap.size v ks.length fun b o => ∀ j s, ks[j]? = some s → W.cell? ⟨b, o + j, none⟩ = some (encStr s)
def NRes (objs : List ObjV) (w : World) (e : Ending) (w' : World) : Prop :=
  ∃ p c, e = .returned (.slice p (needsL objs).length c) ∧ StrsAt w' (.slice p (needsL objs).length c) (needsL objs) ∧ Below w.heap.size w w'
theorem strs_of {w : World} {base : Nat} {T : TypeId} {v : Value} {ks : List (List UInt8)} {n : Nat} (hn : n = ks.length) (h : w.ownsRow base T 1 v n (ks.map encStr)) : StrsAt w v ks := by
  subst hn
  rcases h.2 with ⟨rfl, e⟩ | ⟨g, cap, cur, rfl, _, hg, h1, h2, _, _⟩
  · exact ⟨none, 0, by rw [e], fun h0 => by omega⟩
  · refine ⟨some ⟨g, 0, none⟩, cap, rfl, fun h0 => ⟨g, 0, rfl, lt_heap hg, h1, h2, fun i x hx => ?_⟩⟩
    have f0 := h.cells (g := g) rfl i (encStr x) (by rw [List.getElem?_map, hx]; rfl)
    rw [OO.add_plain] at f0
    exact f0
/-- THE END: from what the two library calls leave -/
theorem left_ {w1 w2 w3 : World} {base g cap n nn q : Nat} {os : Array Obj} {ss : List (List UInt8)} (hown : w1.ownsRow base TST 1 (.slice (some ⟨g, 0, none⟩) n cap) n (ss.map encStr)) (hlen : ss.length = n)
    (h2 : w2 = grow (putRow encStr (Sort.ahead w1 nn) g 0 (ss.mergeSort fun x y => decide (x ≤ y)).toArray) os)
    (h3 : w3 = putRow encStr (Sort.ahead w2 q) g 0 (sorted ss ++ List.replicate (n - (sorted ss).length) []).toArray) :
    w3.ownsRow base TST 1 (.slice (some ⟨g, 0, none⟩) (sorted ss).length cap) (sorted ss).length ((sorted ss).map encStr) ∧ w1.grownBy w2 (some g) ∧ w2.grownBy w3 (some g) := by
  have hl2 : (ss.mergeSort fun x y => decide (x ≤ y)).length = ss.length := List.length_mergeSort ss
  have hle := Lib.compact_length_le (ss.mergeSort fun x y => decide (x ≤ y))
  subst hlen
  have g3 := grownBy_sorted (w := w2) (g := g) (n := q) (os := #[]) (sorted ss ++ List.replicate (ss.length - (sorted ss).length) []).toArray
  rw [grow_empty, ← h3] at g3
  have g2 := grownBy_sorted (w := w1) (g := g) (n := nn) (os := os) (ss.mergeSort fun x y => decide (x ≤ y)).toArray
  rw [← h2] at g2
  refine ⟨?_, g2, g3⟩
  rcases hown.2 with ⟨h0, _⟩ | ⟨g', cap', cur, hv, hbase, hb, h1, h2', h3', h4⟩
  · cases h0
  cases hv
  have hs := ownsRow_sorted (n := nn) (os := os) (ts := ss.mergeSort fun x y => decide (x ≤ y)) hl2 hbase hb h1 h2' h3'
  rw [← h2] at hs
  have hc := Lib.ownsRow_putRow (q := q) (k := (sorted ss).length) (ys := sorted ss ++ List.replicate (ss.length - (sorted ss).length) []) hs (by unfold sorted at *; simp; omega) (by unfold sorted; omega)
  rw [List.take_left, ← h3] at hc
  exact hc
theorem holds_sorted {w1 w2 : World} {g nn : Nat} {os : Array Obj} {ss : List (List UInt8)} (hg : g < w1.heap.size) (hH : Holds encStr w1 g 0 ss.toArray) (h2 : w2 = grow (putRow encStr (Sort.ahead w1 nn) g 0 (ss.mergeSort fun x y => decide (x ≤ y)).toArray) os) :
    Holds encStr w2 g 0 (ss.mergeSort fun x y => decide (x ≤ y)).toArray := by
  subst h2
  exact holds_grow encStr _ os g 0 _ (by simpa [putRow, mapBlock, Sort.ahead] using hg) (holds_putRow encStr _ g 0 _ _ (holds_ahead encStr w1 nn g 0 _ hH) (by simp))
theorem own_form {w : World} {B : Nat} {e : TypeId} {z n : Nat} {v : Value} {xs : List Value} (h : w.ownsRow B e z v n xs) : ∃ p c, v = .slice p n c := by
  rcases h.2 with ⟨rfl, rfl⟩ | ⟨g, cap, cur, rfl, _⟩
  · exact ⟨_, _, rfl⟩
  · exact ⟨_, _, rfl⟩
theorem sorted_nil : sorted [] = [] := by unfold sorted; rw [List.mergeSort_nil]; rfl
end RsJ
end Go.Proofs.Ytlmblfkcmhgdaaa
