/-
  Resolve's targets while they are gathered: rows of pairs, apart from each other: how an append and a store keep them. Condition: none.
-/
import Derived.Test.YtlmblfkcmhgdaaaResS
import Derived.Test.YtlmblfkcmhgdaaaResN
import Derived.Maps.AppendAt
namespace Go.Proofs.Ytlmblfkcmhgdaaa
open Go.RowKit Go.Maps Go.WideMaps
set_option linter.unusedVariables false
set_option linter.unusedSimpArgs false
namespace RsT
open OO OJ RsM RsI RsP RsD RsS OCk
abbrev TR : TypeId := 35
abbrev TE : TypeId := 38
def pairCells (l : List (Int × Int)) : List Value := l.flatMap fun t => [Value.int .i64 t.1, .int .i64 t.2]
theorem pairCells_snoc (l : List (Int × Int)) (t : Int × Int) : pairCells (l ++ [t]) = pairCells l ++ [.int .i64 t.1, .int .i64 t.2] := by
  unfold pairCells; rw [List.flatMap_append]; rfl
/-- the target, where there is one -/
def tgs (F : List Ent) (x : Ent) : Int × Int := ((tgI F x).1, (tgI F x).2.1)
def bad (F : List Ent) (x : Ent) : Bool := !(tgI F x).2.2
/-- an object's targets so far -/
def rowAt (F l : List Ent) (i : Nat) : List (Int × Int) := (l.filter fun x => decide (x.i = i)).map (tgs F)
theorem rowAt_snoc (F l : List Ent) (x : Ent) (i : Nat) : rowAt F (l ++ [x]) i = if i = x.i then rowAt F l i ++ [tgs F x] else rowAt F l i := by
  unfold rowAt
  rw [List.filter_append, List.map_append]
  by_cases h : i = x.i
  · subst h; simp
  · rw [if_neg h, List.filter_cons, if_neg (by simpa using fun e => h e.symm)]; simp
theorem rowAt_le (F l : List Ent) (i : Nat) : (rowAt F l i).length ≤ l.length := by
  unfold rowAt
  rw [List.length_map]
  exact List.length_filter_le _ _
/-- the rows -/
structure TRows (O base n : Nat) (f : Nat → List (Int × Int)) (vs : List Value) (W : World) : Prop where
  len : vs.length = n
  out : W.ownsRow O 41 1 (.slice (some ⟨O, 0, none⟩) n n) n vs
  row : ∀ (i : Nat) (v : Value), vs[i]? = some v → W.ownsRow (base) TT 2 v (f i).length (pairCells (f i))
  apart : ∀ (i j : Nat) (u v : Value), i ≠ j → vs[i]? = some u → vs[j]? = some v → u.ownBlock = none ∨ u.ownBlock ≠ v.ownBlock
theorem TRows.kept {O base n : Nat} {f : Nat → List (Int × Int)} {vs : List Value} {W W' : World} {row : Option Nat} (h : TRows O base n f vs W) (hg : W.grownBy W' row) (h1 : some O ≠ row) (h2 : ∀ (i : Nat) (v : Value), vs[i]? = some v → v.ownBlock = none ∨ v.ownBlock ≠ row) : TRows O base n f vs W' :=
  ⟨h.len, h.out.kept hg (.inr (by simpa [Value.ownBlock] using h1)), fun i v hv => (h.row i v hv).kept hg (h2 i v hv), h.apart⟩
theorem TRows.below {O base n : Nat} {f : Nat → List (Int × Int)} {vs : List Value} {W W' : World} (h : TRows O base n f vs W) (hb : Below W.heap.size W W') : TRows O base n f vs W' :=
  h.kept (row := none) ⟨hb.os, hb.tape, hb.output, hb.size, fun i hi _ => hb.block i hi⟩ (by simp) (fun i v hv => by cases e : v.ownBlock <;> simp)
theorem TRows.drew {O base n : Nat} {f : Nat → List (Int × Int)} {vs : List Value} {W : World} (h : TRows O base n f vs W) : TRows O base n f vs W.drew := ⟨h.len, h.out, h.row, h.apart⟩
/-- what an append to the row i, and a store of it, leave -/
structure App (base : Nat) (W1 : World) (v : Value) (m : Nat) (xs : List Value) (t : Int × Int) (v' : Value) (w' : World) : Prop where
  own : w'.ownsRow (base) TT 2 v' (m + 1) (xs ++ [.int .i64 t.1, .int .i64 t.2])
  grown : W1.grownBy w' v.ownBlock
  at_ : v'.ownBlock = v.ownBlock ∨ v'.ownBlock = some W1.heap.size
theorem TRows.app {O base n : Nat} {f : Nat → List (Int × Int)} {vs : List Value} {W1 w' : World} {i : Nat} {v v' : Value} {t : Int × Int} (h : TRows O base n f vs W1) (hv : vs[i]? = some v) (hz : base ≤ W1.heap.size) (hO : O < base)
    (hA : App base W1 v (f i).length (pairCells (f i)) t v' w') : TRows O base n (fun j => if j = i then f i ++ [t] else f j) (vs.set i v') (w'.setCell ⟨O, i, none⟩ v') := by
  have hi : i < vs.length := (List.getElem?_eq_some_iff.1 hv).1
  have hlow : ∀ k, v.ownBlock = some k → base ≤ k := fun k hk => ((h.row i v hv).lt k hk).1
  have o1 := h.out.kept hA.grown (.inr (fun e => by have h4 : base ≤ O := hlow _ e.symm; omega))
  obtain ⟨o2, g2⟩ := o1.stored i v'
  have keep : ∀ {u : Value} {m : Nat} {xs : List Value}, w'.ownsRow (base) TT 2 u m xs → (w'.setCell ⟨O, i, none⟩ v').ownsRow (base) TT 2 u m xs := fun {u m xs} hu => hu.kept g2 (by
    cases e : u.ownBlock with
    | none => exact .inl rfl
    | some k => exact .inr (fun e2 => by have := (hu.lt k e).1; simp at e2; omega))
  refine ⟨by rw [List.length_set]; exact h.len, o2, fun j u hu => ?_, fun j k u u' hjk hu hu' => ?_⟩
  · by_cases e : j = i
    · subst e
      rw [List.getElem?_set_self hi] at hu
      cases hu
      simp only [if_true]
      rw [pairCells_snoc, List.length_append]
      exact keep hA.own
    · rw [List.getElem?_set_ne (fun h => e h.symm)] at hu
      simp only [if_neg e]
      exact keep ((h.row j u hu).kept hA.grown (h.apart j i u v e hu hv))
  · have new : ∀ (j : Nat) (u : Value), j ≠ i → vs[j]? = some u → (u.ownBlock = none ∨ u.ownBlock ≠ v'.ownBlock) ∧ (v'.ownBlock = none ∨ v'.ownBlock ≠ u.ownBlock) := fun j u hji hu => by
      have a1 := h.apart j i u v hji hu hv
      have a2 := h.apart i j v u (fun e => hji e.symm) hv hu
      have lt := (h.row j u hu).lt
      rcases hA.at_ with e | e
      · rw [e]; exact ⟨a1, a2⟩
      · rw [e]
        cases hub : u.ownBlock with
        | none => exact ⟨.inl rfl, .inr (by simp)⟩
        | some g =>
          have := (lt g hub).2
          exact ⟨.inr (fun e2 => by simp at e2; omega), .inr (fun e2 => by simp at e2; omega)⟩
    by_cases ej : j = i
    · subst ej
      rw [List.getElem?_set_self hi] at hu
      cases hu
      rw [List.getElem?_set_ne hjk] at hu'
      exact (new k u' (fun e => hjk e.symm) hu').2
    · rw [List.getElem?_set_ne (fun h => ej h.symm)] at hu
      by_cases ek : k = i
      · subst ek
        rw [List.getElem?_set_self hi] at hu'
        cases hu'
        exact (new j u ej hu).1
      · rw [List.getElem?_set_ne (fun h => ek h.symm)] at hu'
        exact h.apart j k u u' hjk hu hu'
end RsT
end Go.Proofs.Ytlmblfkcmhgdaaa
