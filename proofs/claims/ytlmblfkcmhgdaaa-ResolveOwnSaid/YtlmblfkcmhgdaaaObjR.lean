/-
  An object, plainly: its words, bytes, symbols and relocations, and where they lie in memory. No condition.
-/
import Derived.Test.YtlmblfkcmhgdaaaProg
import Derived.WalkKit
import Derived.Below
import Derived.IntWalk
import Derived.Lib.Hide
import Derived.Lib.Builder
import Derived.Laws.Rows
namespace Go.Proofs.Ytlmblfkcmhgdaaa
open Go.RowKit
set_option linter.unusedVariables false
set_option linter.unusedSimpArgs false
namespace OJ
/-- these numbers lie in the block b from o on -/
def Row (k : IntKind) (w : World) (b o : Nat) (xs : List Int) : Prop := ∀ j x, xs[j]? = some x → w.cell? ⟨b, o + j, none⟩ = some (.int k x)
def Bytes (xs : List Int) : Prop := ∀ x ∈ xs, 0 ≤ x ∧ x ≤ 255
end OJ
namespace OO
open OJ
theorem lt_heap {w : World} {b : Nat} {o : Obj} (h : w.heap[b]? = some o) : b < w.heap.size := (Array.getElem?_eq_some_iff.1 h).1
theorem add_plain (b o i : Nat) : (⟨b, o, none⟩ : Addr).add i = ⟨b, o + i, none⟩ := by
  unfold Addr.add
  split
  · rename_i h; subst h; rfl
  · rfl
structure SymV where
  name : ByteArray
  sect : Int
  val : Int
  frame : Int
  glob : Bool
structure RelV where
  sect : Int
  place : Int
  kind : Int
  sym : Int
  add : Int
structure ObjV where
  ws : List Int
  ds : List Int
  ss : List SymV
  rs : List RelV
def I64 (n : Int) : Prop := -9223372036854775808 ≤ n ∧ n ≤ 9223372036854775807
structure SymV.Wf (s : SymV) : Prop where
  name : s.name.size ≤ maxLen
  sect : I64 s.sect
  val : I64 s.val
  frame : I64 s.frame
structure RelV.Wf (r : RelV) : Prop where
  sect : I64 r.sect
  place : I64 r.place
  kind : I64 r.kind
  sym : I64 r.sym
  add : I64 r.add
structure ObjV.Wf (o : ObjV) : Prop where
  ws : ∀ x ∈ o.ws, 0 ≤ x ∧ x ≤ 4294967295
  ds : Bytes o.ds
  ss : ∀ s ∈ o.ss, s.Wf
  rs : ∀ r ∈ o.rs, r.Wf
/-- not too much to be gone through -/
structure ObjV.Lim (o : ObjV) : Prop where
  ws : o.ws.length ≤ 65536
  ds : o.ds.length ≤ 65536
  ss : o.ss.length ≤ 65536
  rs : o.rs.length ≤ 65536
  names : ∀ s ∈ o.ss, s.name.size ≤ 65536
/-- a slice below n₀ whose place has F, if there is something in it -/
def Sl (n₀ : Nat) (v : Value) (n : Nat) (F : Nat → Nat → Prop) : Prop :=
  ∃ p c, v = .slice p n c ∧ (0 < n → ∃ b o, p = some ⟨b, o, none⟩ ∧ b < n₀ ∧ n ≤ c ∧ c ≤ maxLen ∧ F b o)
theorem Sl.mono {n₀ n₁ : Nat} {v : Value} {n : Nat} {F G : Nat → Nat → Prop} (h : Sl n₀ v n F) (hn : n₀ ≤ n₁) (hF : ∀ b o, b < n₀ → F b o → G b o) : Sl n₁ v n G := by
  obtain ⟨p, c, rfl, hh⟩ := h
  refine ⟨p, c, rfl, fun h0 => ?_⟩
  obtain ⟨b, o, e, hb, h1, h2, h3⟩ := hh h0
  exact ⟨b, o, e, Nat.lt_of_lt_of_le hb hn, h1, h2, hF b o hb h3⟩
structure SymAt (w : World) (b o : Nat) (s : SymV) : Prop where
  c0 : w.cell? ⟨b, o, none⟩ = some (.string s.name)
  c1 : w.cell? ⟨b, o + 1, none⟩ = some (.int .i64 s.sect)
  c2 : w.cell? ⟨b, o + 2, none⟩ = some (.int .i64 s.val)
  c3 : w.cell? ⟨b, o + 3, none⟩ = some (.int .i64 s.frame)
  c4 : w.cell? ⟨b, o + 4, none⟩ = some (.bool s.glob)
structure RelAt (w : World) (b o : Nat) (r : RelV) : Prop where
  c0 : w.cell? ⟨b, o, none⟩ = some (.int .i64 r.sect)
  c1 : w.cell? ⟨b, o + 1, none⟩ = some (.int .i64 r.place)
  c2 : w.cell? ⟨b, o + 2, none⟩ = some (.int .i64 r.kind)
  c3 : w.cell? ⟨b, o + 3, none⟩ = some (.int .i64 r.sym)
  c4 : w.cell? ⟨b, o + 4, none⟩ = some (.int .i64 r.add)
def Nums8 (k : IntKind) (n₀ : Nat) (w : World) (v : Value) (xs : List Int) : Prop := Sl n₀ v xs.length fun b o => Row k w b o xs
def Syms (n₀ : Nat) (w : World) (v : Value) (ss : List SymV) : Prop := Sl n₀ v ss.length fun b o => ∀ j s, ss[j]? = some s → SymAt w b (o + j * 5) s
def Rels (n₀ : Nat) (w : World) (v : Value) (rs : List RelV) : Prop := Sl n₀ v rs.length fun b o => ∀ j r, rs[j]? = some r → RelAt w b (o + j * 5) r
structure ObjAt (n₀ : Nat) (w : World) (v0 v1 v2 v3 : Value) (o : ObjV) : Prop where
  ws : Nums8 .u32 n₀ w v0 o.ws
  ds : Nums8 .u8 n₀ w v1 o.ds
  ss : Syms n₀ w v2 o.ss
  rs : Rels n₀ w v3 o.rs
section
variable {n₀ : Nat} {w w' : World}
theorem row_below {k : IntKind} {b o : Nat} {xs : List Int} (h : Row k w b o xs) (hb : Below n₀ w w') (hlt : b < n₀) : Row k w' b o xs := fun j x hj => (hb.cell (p := ⟨b, o + j, none⟩) hlt).trans (h j x hj)
theorem SymAt.below {b o : Nat} {s : SymV} (h : SymAt w b o s) (hb : Below n₀ w w') (hlt : b < n₀) : SymAt w' b o s :=
  ⟨(hb.cell (p := ⟨b, o, none⟩) hlt).trans h.c0, (hb.cell (p := ⟨b, o + 1, none⟩) hlt).trans h.c1, (hb.cell (p := ⟨b, o + 2, none⟩) hlt).trans h.c2, (hb.cell (p := ⟨b, o + 3, none⟩) hlt).trans h.c3, (hb.cell (p := ⟨b, o + 4, none⟩) hlt).trans h.c4⟩
theorem RelAt.below {b o : Nat} {s : RelV} (h : RelAt w b o s) (hb : Below n₀ w w') (hlt : b < n₀) : RelAt w' b o s :=
  ⟨(hb.cell (p := ⟨b, o, none⟩) hlt).trans h.c0, (hb.cell (p := ⟨b, o + 1, none⟩) hlt).trans h.c1, (hb.cell (p := ⟨b, o + 2, none⟩) hlt).trans h.c2, (hb.cell (p := ⟨b, o + 3, none⟩) hlt).trans h.c3, (hb.cell (p := ⟨b, o + 4, none⟩) hlt).trans h.c4⟩
theorem ObjAt.below {v0 v1 v2 v3 : Value} {o : ObjV} (h : ObjAt n₀ w v0 v1 v2 v3 o) (hb : Below n₀ w w') : ObjAt n₀ w' v0 v1 v2 v3 o :=
  ⟨h.ws.mono (Nat.le_refl _) fun b o hlt hr => row_below hr hb hlt, h.ds.mono (Nat.le_refl _) fun b o hlt hr => row_below hr hb hlt,
   h.ss.mono (Nat.le_refl _) fun b o hlt hr j s hj => (hr j s hj).below hb hlt, h.rs.mono (Nat.le_refl _) fun b o hlt hr j s hj => (hr j s hj).below hb hlt⟩
theorem ObjAt.up {n₁ : Nat} {v0 v1 v2 v3 : Value} {o : ObjV} (h : ObjAt n₀ w v0 v1 v2 v3 o) (hn : n₀ ≤ n₁) : ObjAt n₁ w v0 v1 v2 v3 o :=
  ⟨h.ws.mono hn fun b o hlt hr => hr, h.ds.mono hn fun b o hlt hr => hr, h.ss.mono hn fun b o hlt hr => hr, h.rs.mono hn fun b o hlt hr => hr⟩
end
end OO
end Go.Proofs.Ytlmblfkcmhgdaaa
