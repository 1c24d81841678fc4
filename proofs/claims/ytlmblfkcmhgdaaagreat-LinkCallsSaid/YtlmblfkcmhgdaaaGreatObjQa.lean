/-
  An object, plainly: its words, bytes, symbols and relocations, and where they lie in memory. No condition.
  The bytes of a symbol's name, plainly: what may stand in one, and what is one. No condition. It speaks of no program.
  An object as a parameter: opened; and any parameter shut again behind a call that made blocks of its own alone. No condition but that the type can be read.
  A symbol's name: the program's Name and the document's answer the same of every string: what OM.nameB says. No condition but that the string is one that memory holds.
-/
import Derived.Test.YtlmblfkcmhgdaaaGreatProg
import Derived.WalkKit
import Derived.Below
import Derived.IntWalk
import Derived.Lib.Hide
import Derived.Lib.Builder
import Derived.Laws.Rows
import Derived.Deep.Slices
import Derived.Deep.Fields
import Derived.Lib.SmallJoins
import Derived.ChangeSame
import Derived.OpenShut
import Derived.WideKeyArgs
import Derived.ChangeOld
namespace Go.Proofs.YtlmblfkcmhgdaaaGreat
open Go.RowKit
set_option linter.unusedVariables false
set_option linter.unusedSimpArgs false
namespace OJ
/-- these numbers lie in the block b from o on -/
def Row (k : IntKind) (w : World) (b o : Nat) (xs : List Int) : Prop := ∀ j x, xs[j]? = some x → w.cell? ⟨b, o + j, none⟩ = some (.int k x)
def Bytes (xs : List Int) : Prop := ∀ x ∈ xs, 0 ≤ x ∧ x ≤ 255
end OJ
namespace OO
open OJ
theorem lt_heap {w : World} {b : Nat} {o : Obj} (h : w.heap[b]? = some o) : b < w.heap.size := (Array.getElem?_eq_some_iff.1 h).1
theorem add_plain (b o i : Nat) : (⟨b, o, none⟩ : Addr).add i = ⟨b, o + i, none⟩ := by
  unfold Addr.add
  split
  · rename_i h; subst h; rfl
  · rfl
structure SymV where
  name : ByteArray
  sect : Int
  val : Int
  frame : Int
  glob : Bool
structure RelV where
  sect : Int
  place : Int
  kind : Int
  sym : Int
  add : Int
structure ObjV where
  ws : List Int
  ds : List Int
  ss : List SymV
  rs : List RelV
def I64 (n : Int) : Prop := -9223372036854775808 ≤ n ∧ n ≤ 9223372036854775807
structure SymV.Wf (s : SymV) : Prop where
  name : s.name.size ≤ maxLen
  sect : I64 s.sect
  val : I64 s.val
  frame : I64 s.frame
structure RelV.Wf (r : RelV) : Prop where
  sect : I64 r.sect
  place : I64 r.place
  kind : I64 r.kind
  sym : I64 r.sym
  add : I64 r.add
structure ObjV.Wf (o : ObjV) : Prop where
  ws : ∀ x ∈ o.ws, 0 ≤ x ∧ x ≤ 4294967295
  ds : Bytes o.ds
  ss : ∀ s ∈ o.ss, s.Wf
  rs : ∀ r ∈ o.rs, r.Wf
/-- not too much to be gone through -/
structure ObjV.Lim (o : ObjV) : Prop where
  ws : o.ws.length ≤ 65536
  ds : o.ds.length ≤ 65536
  ss : o.ss.length ≤ 65536
  rs : o.rs.length ≤ 65536
  names : ∀ s ∈ o.ss, s.name.size ≤ 65536
/-- a slice below n₀ whose place has F, if there is something in it -/
def Sl (n₀ : Nat) (v : Value) (n : Nat) (F : Nat → Nat → Prop) : Prop :=
  ∃ p c, v = .slice p n c ∧ (0 < n → ∃ b o, p = some ⟨b, o, none⟩ ∧ b < n₀ ∧ n ≤ c ∧ c ≤ maxLen ∧ F b o)
theorem Sl.mono {n₀ n₁ : Nat} {v : Value} {n : Nat} {F G : Nat → Nat → Prop} (h : Sl n₀ v n F) (hn : n₀ ≤ n₁) (hF : ∀ b o, b < n₀ → F b o → G b o) : Sl n₁ v n G := by
  obtain ⟨p, c, rfl, hh⟩ := h
  refine ⟨p, c, rfl, fun h0 => ?_⟩
  obtain ⟨b, o, e, hb, h1, h2, h3⟩ := hh h0
  exact ⟨b, o, e, Nat.lt_of_lt_of_le hb hn, h1, h2, hF b o hb h3⟩
structure SymAt (w : World) (b o : Nat) (s : SymV) : Prop where
  c0 : w.cell? ⟨b, o, none⟩ = some (.string s.name)
  c1 : w.cell? ⟨b, o + 1, none⟩ = some (.int .i64 s.sect)
  c2 : w.cell? ⟨b, o + 2, none⟩ = some (.int .i64 s.val)
  c3 : w.cell? ⟨b, o + 3, none⟩ = some (.int .i64 s.frame)
  c4 : w.cell? ⟨b, o + 4, none⟩ = some (.bool s.glob)
structure RelAt (w : World) (b o : Nat) (r : RelV) : Prop where
  c0 : w.cell? ⟨b, o, none⟩ = some (.int .i64 r.sect)
  c1 : w.cell? ⟨b, o + 1, none⟩ = some (.int .i64 r.place)
  c2 : w.cell? ⟨b, o + 2, none⟩ = some (.int .i64 r.kind)
  c3 : w.cell? ⟨b, o + 3, none⟩ = some (.int .i64 r.sym)
  c4 : w.cell? ⟨b, o + 4, none⟩ = some (.int .i64 r.add)
def Nums8 (k : IntKind) (n₀ : Nat) (w : World) (v : Value) (xs : List Int) : Prop := Sl n₀ v xs.length fun b o => Row k w b o xs
def Syms (n₀ : Nat) (w : World) (v : Value) (ss : List SymV) : Prop := Sl n₀ v ss.length fun b o => ∀ j s, ss[j]? = some s → SymAt w b (o + j * 5) s
def Rels (n₀ : Nat) (w : World) (v : Value) (rs : List RelV) : Prop := Sl n₀ v rs.length fun b o => ∀ j r, rs[j]? = some r → RelAt w b (o + j * 5) r
structure ObjAt (n₀ : Nat) (w : World) (v0 v1 v2 v3 : Value) (o : ObjV) : Prop where
  ws : Nums8 .u32 n₀ w v0 o.ws
  ds : Nums8 .u8 n₀ w v1 o.ds
  ss : Syms n₀ w v2 o.ss
  rs : Rels n₀ w v3 o.rs
section
variable {n₀ : Nat} {w w' : World}
theorem row_below {k : IntKind} {b o : Nat} {xs : List Int} (h : Row k w b o xs) (hb : Below n₀ w w') (hlt : b < n₀) : Row k w' b o xs := fun j x hj => (hb.cell (p := ⟨b, o + j, none⟩) hlt).trans (h j x hj)
theorem SymAt.below {b o : Nat} {s : SymV} (h : SymAt w b o s) (hb : Below n₀ w w') (hlt : b < n₀) : SymAt w' b o s :=
  ⟨(hb.cell (p := ⟨b, o, none⟩) hlt).trans h.c0, (hb.cell (p := ⟨b, o + 1, none⟩) hlt).trans h.c1, (hb.cell (p := ⟨b, o + 2, none⟩) hlt).trans h.c2, (hb.cell (p := ⟨b, o + 3, none⟩) hlt).trans h.c3, (hb.cell (p := ⟨b, o + 4, none⟩) hlt).trans h.c4⟩
theorem RelAt.below {b o : Nat} {s : RelV} (h : RelAt w b o s) (hb : Below n₀ w w') (hlt : b < n₀) : RelAt w' b o s :=
  ⟨(hb.cell (p := ⟨b, o, none⟩) hlt).trans h.c0, (hb.cell (p := ⟨b, o + 1, none⟩) hlt).trans h.c1, (hb.cell (p := ⟨b, o + 2, none⟩) hlt).trans h.c2, (hb.cell (p := ⟨b, o + 3, none⟩) hlt).trans h.c3, (hb.cell (p := ⟨b, o + 4, none⟩) hlt).trans h.c4⟩
theorem ObjAt.below {v0 v1 v2 v3 : Value} {o : ObjV} (h : ObjAt n₀ w v0 v1 v2 v3 o) (hb : Below n₀ w w') : ObjAt n₀ w' v0 v1 v2 v3 o :=
  ⟨h.ws.mono (Nat.le_refl _) fun b o hlt hr => row_below hr hb hlt, h.ds.mono (Nat.le_refl _) fun b o hlt hr => row_below hr hb hlt,
   h.ss.mono (Nat.le_refl _) fun b o hlt hr j s hj => (hr j s hj).below hb hlt, h.rs.mono (Nat.le_refl _) fun b o hlt hr j s hj => (hr j s hj).below hb hlt⟩
theorem ObjAt.up {n₁ : Nat} {v0 v1 v2 v3 : Value} {o : ObjV} (h : ObjAt n₀ w v0 v1 v2 v3 o) (hn : n₀ ≤ n₁) : ObjAt n₁ w v0 v1 v2 v3 o :=
  ⟨h.ws.mono hn fun b o hlt hr => hr, h.ds.mono hn fun b o hlt hr => hr, h.ss.mono hn fun b o hlt hr => hr, h.rs.mono hn fun b o hlt hr => hr⟩
end
end OO
end Go.Proofs.YtlmblfkcmhgdaaaGreat
namespace Go.Proofs.YtlmblfkcmhgdaaaGreat
open Go.RowKit
set_option linter.unusedVariables false
set_option linter.unusedSimpArgs false
namespace OM
def digI (x : Int) : Bool := decide (48 ≤ x ∧ x ≤ 57)
def okI (x : Int) : Bool := decide ((97 ≤ x ∧ x ≤ 122) ∨ (65 ≤ x ∧ x ≤ 90) ∨ (48 ≤ x ∧ x ≤ 57) ∨ x = 95 ∨ x = 46)
theorem okI_iff (x : Int) : okI x = true ↔ (97 ≤ x ∧ x ≤ 122) ∨ (65 ≤ x ∧ x ≤ 90) ∨ (48 ≤ x ∧ x ≤ 57) ∨ x = 95 ∨ x = 46 := by unfold okI; simp
/-- all bytes from place k on may stand in a name -/
def okFrom (s : ByteArray) (k : Nat) : Bool := (s.data.toList.drop k).all fun c => okI (c.toNat : Int)
/-- is it a name? -/
def nameB (s : ByteArray) : Bool := decide (1 ≤ s.size) && decide (s.size ≤ 40) && !(digI (s.data.toList.headD 0).toNat) && okFrom s 0
theorem okFrom_end (s : ByteArray) : okFrom s s.size = true := by
  unfold okFrom
  rw [List.drop_eq_nil_of_le (by simp)]
  rfl
theorem okFrom_step (s : ByteArray) (k : Nat) (h : k < s.size) : okFrom s k = (okI (s[k].toNat : Int) && okFrom s (k + 1)) := by
  unfold okFrom
  rw [List.drop_eq_getElem_cons (by simpa using h)]
  rfl
theorem nameB_no_size {s : ByteArray} (h : s.size < 1 ∨ 40 < s.size) : nameB s = false := by
  unfold nameB
  rcases h with h | h
  · rw [show decide (1 ≤ s.size) = false by simpa using h]; rfl
  · rw [show decide (s.size ≤ 40) = false by simpa using h]; simp
theorem head_of (s : ByteArray) (h : 0 < s.size) : s.data.toList.headD 0 = s[0] := by
  have : s.data.toList = s[0] :: s.data.toList.drop 1 := by
    have := List.drop_eq_getElem_cons (l := s.data.toList) (i := 0) (by simpa using h)
    rw [List.drop_zero] at this
    exact this
  rw [this]; rfl
theorem nameB_mid {s : ByteArray} (h1 : 1 ≤ s.size) (h2 : s.size ≤ 40) : nameB s = (!(digI (s[0].toNat)) && okFrom s 0) := by
  unfold nameB
  rw [show decide (1 ≤ s.size) = true by simpa using h1, show decide (s.size ≤ 40) = true by simpa using h2, head_of s h1]
  simp
/-- what the document's loop asks of byte x at place k -/
def fine (x : Int) (k : Nat) : Prop := (97 ≤ x ∧ x ≤ 122) ∨ (65 ≤ x ∧ x ≤ 90) ∨ x = 95 ∨ x = 46 ∨ ((48 ≤ x ∧ x ≤ 57) ∧ 0 < k)
def left (s : ByteArray) (k : Nat) : Bool := if k = 0 then nameB s else okFrom s k
end OM
end Go.Proofs.YtlmblfkcmhgdaaaGreat
namespace Go.Proofs.YtlmblfkcmhgdaaaGreat
open Go.RowKit Go.ChangeShapes Go.WideShapes Go.ChangeAt Go.Deep Go.Joins
set_option linter.unusedVariables false
set_option linter.unusedSimpArgs false
namespace OB
open OO OJ
theorem cell_lt {w : World} {p : Addr} {v : Value} (h : w.cell? p = some v) : p.block < w.heap.size := by
  rcases Nat.lt_or_ge p.block w.heap.size with h' | h'
  · exact h'
  · unfold World.cell? at h
    simp [Array.getElem?_eq_none h'] at h
theorem add_at (b o i j : Nat) : ((⟨b, o, none⟩ : Addr).add i).add j = ⟨b, o + i + j, none⟩ := by rw [OO.add_plain, OO.add_plain]
section
variable {H : Type} {enc : TypeId × Value → H}
theorem shut_any {t : TypeId} {W W' : World} {v : Value} {d : DataW H} {ps : List MemPlace} (hl : laidOutB Tryz.prog = true) (hr : Tryz.prog.readableRec t = true) (hrow : t < Tryz.prog.types.size)
    (h : DataW.Trod enc Tryz.prog W 0 (fun _ => true) true t v d ps) (hb : Below W.heap.size W W') : DataW.Trod enc Tryz.prog W' 0 (fun b => decide (b < W.heap.size)) true t v d ps := by
  have hlt : ∀ p ∈ ps, p.block < W.heap.size := by
    obtain ⟨n, hn⟩ := h
    exact DataW.trod_lt n _ _ _ hn
  refine Go.WideElems.Trod_stays hl hr hrow h (fun p hp => hb.same (hlt p hp)) (fun p hp => decide_eq_true (hlt p hp))
def symV (s : SymV) : List Value := [.string s.name, .int .i64 s.sect, .int .i64 s.val, .int .i64 s.frame, .bool s.glob]
def relV (s : RelV) : List Value := [.int .i64 s.sect, .int .i64 s.place, .int .i64 s.kind, .int .i64 s.sym, .int .i64 s.add]
theorem list5 {α : Type} (l : List α) (h : l.length = 5) : ∃ a b c d e, l = [a, b, c, d, e] := by
  match l, h with
  | [a, b, c, d, e], _ => exact ⟨a, b, c, d, e, rfl⟩
set_option maxRecDepth 100000 in
theorem sym_open {W : World} {sp : Nat → Bool} {n : Nat} {cs : List Value} {x : DataW H × List MemPlace} (h : DataW.trod enc Tryz.prog W 0 sp true n 57 cs = some x) :
    ∃ s : SymV, cs = [.string s.name, .int .i64 s.sect, .int .i64 s.val, .int .i64 s.frame, .bool s.glob] ∧ s.Wf := by
  obtain ⟨ys, n', hn', hx, hl, hyl, hf⟩ := DataW.trod_struct Tryz.underlying57 h
  rw [show Tryz.prog.cellsOf 57 = 5 by kernel_rfl] at hl
  obtain ⟨c0, c1, c2, c3, c4, rfl⟩ := list5 cs hl
  obtain ⟨y0, y1, y2, y3, y4, rfl⟩ := list5 ys hyl
  have g0 : DataW.trod enc Tryz.prog W 0 sp true n' 9 [c0] = some y0 := by simpa [show Tryz.prog.cellsOf 9 = 1 by kernel_rfl] using hf 0 _ rfl
  have g1 : DataW.trod enc Tryz.prog W 0 sp true n' 3 [c1] = some y1 := by simpa [show Tryz.prog.cellsOf 3 = 1 by kernel_rfl] using hf 1 _ rfl
  have g2 : DataW.trod enc Tryz.prog W 0 sp true n' 3 [c2] = some y2 := by simpa [show Tryz.prog.cellsOf 3 = 1 by kernel_rfl] using hf 2 _ rfl
  have g3 : DataW.trod enc Tryz.prog W 0 sp true n' 3 [c3] = some y3 := by simpa [show Tryz.prog.cellsOf 3 = 1 by kernel_rfl] using hf 3 _ rfl
  have g4 : DataW.trod enc Tryz.prog W 0 sp true n' 4 [c4] = some y4 := by simpa [show Tryz.prog.cellsOf 4 = 1 by kernel_rfl] using hf 4 _ rfl
  obtain ⟨x0, e0, -, w0⟩ := DataW.trod_string Tryz.underlying9 g0
  simp only [List.cons.injEq, and_true] at e0
  subst e0
  obtain ⟨x1, e1, -, w1⟩ := DataW.trod_int Tryz.underlying3 g1
  simp only [List.cons.injEq, and_true] at e1
  subst e1
  obtain ⟨x2, e2, -, w2⟩ := DataW.trod_int Tryz.underlying3 g2
  simp only [List.cons.injEq, and_true] at e2
  subst e2
  obtain ⟨x3, e3, -, w3⟩ := DataW.trod_int Tryz.underlying3 g3
  simp only [List.cons.injEq, and_true] at e3
  subst e3
  obtain ⟨x4, e4, -⟩ := DataW.trod_bool Tryz.underlying4 g4
  simp only [List.cons.injEq, and_true] at e4
  subst e4
  exact ⟨⟨x0, x1, x2, x3, x4⟩, rfl, ⟨w0, bounds_i64 w1, bounds_i64 w2, bounds_i64 w3⟩⟩
set_option maxRecDepth 100000 in
theorem rel_open {W : World} {sp : Nat → Bool} {n : Nat} {cs : List Value} {x : DataW H × List MemPlace} (h : DataW.trod enc Tryz.prog W 0 sp true n 59 cs = some x) :
    ∃ s : RelV, cs = [.int .i64 s.sect, .int .i64 s.place, .int .i64 s.kind, .int .i64 s.sym, .int .i64 s.add] ∧ s.Wf := by
  obtain ⟨ys, n', hn', hx, hl, hyl, hf⟩ := DataW.trod_struct Tryz.underlying59 h
  rw [show Tryz.prog.cellsOf 59 = 5 by kernel_rfl] at hl
  obtain ⟨c0, c1, c2, c3, c4, rfl⟩ := list5 cs hl
  obtain ⟨y0, y1, y2, y3, y4, rfl⟩ := list5 ys hyl
  have g0 : DataW.trod enc Tryz.prog W 0 sp true n' 3 [c0] = some y0 := by simpa [show Tryz.prog.cellsOf 3 = 1 by kernel_rfl] using hf 0 _ rfl
  have g1 : DataW.trod enc Tryz.prog W 0 sp true n' 3 [c1] = some y1 := by simpa [show Tryz.prog.cellsOf 3 = 1 by kernel_rfl] using hf 1 _ rfl
  have g2 : DataW.trod enc Tryz.prog W 0 sp true n' 3 [c2] = some y2 := by simpa [show Tryz.prog.cellsOf 3 = 1 by kernel_rfl] using hf 2 _ rfl
  have g3 : DataW.trod enc Tryz.prog W 0 sp true n' 3 [c3] = some y3 := by simpa [show Tryz.prog.cellsOf 3 = 1 by kernel_rfl] using hf 3 _ rfl
  have g4 : DataW.trod enc Tryz.prog W 0 sp true n' 3 [c4] = some y4 := by simpa [show Tryz.prog.cellsOf 3 = 1 by kernel_rfl] using hf 4 _ rfl
  obtain ⟨x0, e0, -, w0⟩ := DataW.trod_int Tryz.underlying3 g0
  simp only [List.cons.injEq, and_true] at e0
  subst e0
  obtain ⟨x1, e1, -, w1⟩ := DataW.trod_int Tryz.underlying3 g1
  simp only [List.cons.injEq, and_true] at e1
  subst e1
  obtain ⟨x2, e2, -, w2⟩ := DataW.trod_int Tryz.underlying3 g2
  simp only [List.cons.injEq, and_true] at e2
  subst e2
  obtain ⟨x3, e3, -, w3⟩ := DataW.trod_int Tryz.underlying3 g3
  simp only [List.cons.injEq, and_true] at e3
  subst e3
  obtain ⟨x4, e4, -, w4⟩ := DataW.trod_int Tryz.underlying3 g4
  simp only [List.cons.injEq, and_true] at e4
  subst e4
  exact ⟨⟨x0, x1, x2, x3, x4⟩, rfl, ⟨bounds_i64 w0, bounds_i64 w1, bounds_i64 w2, bounds_i64 w3, bounds_i64 w4⟩⟩
theorem syms_open {W : World} {c : Value} {x : DataW H × List MemPlace} {fuel : Nat} (hf : DataW.trod enc Tryz.prog W 0 (fun _ => true) true fuel 27 [c] = some x) :
    ∃ ss : List SymV, Syms W.heap.size W c ss ∧ ∀ s ∈ ss, s.Wf := by
  rcases open_slice Tryz.underlying27 hf with ⟨hc, -⟩ | ⟨a, len, cap, m, n, D, Pl, hc, -, hl, hm, hmm, -, hi⟩
  · simp only [List.cons.injEq, and_true] at hc
    subst hc
    exact ⟨[], ⟨none, 0, rfl, fun h => absurd h (by simp)⟩, by simp⟩
  · simp only [List.cons.injEq, and_true] at hc
    subst hc
    simp only [if_true] at hmm
    subst hmm
    have key : ∀ i, ∃ s : SymV, i < m → (∀ j v, (symV s)[j]? = some v → W.cell? ((a.add (i * 5)).add j) = some v) ∧ s.Wf := fun i => by
      by_cases h : i < m
      · obtain ⟨cs', h1, h2⟩ := hi i h
        rw [show Tryz.prog.cellsOf 57 = 5 by kernel_rfl] at h1
        obtain ⟨s, rfl, hw⟩ := sym_open h2
        obtain ⟨-, -, h3⟩ := World.cells?_some h1
        refine ⟨s, fun _ => ⟨fun j v hj => ?_, hw⟩⟩
        have hj5 : j < 5 := (List.getElem?_eq_some_iff.1 hj).1
        exact (h3 j hj5).trans hj
      · exact ⟨⟨⟨#[]⟩, 0, 0, 0, false⟩, fun h' => absurd h' h⟩
    obtain ⟨f, hF⟩ := Classical.axiomOfChoice key
    refine ⟨(List.range len).map f, ⟨some a, m, by simp, fun h0 => ?_⟩, fun s hs => ?_⟩
    · rw [List.length_map, List.length_range] at h0
      have hc0 := (hF 0 (by omega)).1 0 _ rfl
      obtain ⟨b, o, spot⟩ := a
      have hspot : spot = none := by simpa [Addr.add] using World.cell?_spot hc0
      subst hspot
      have hlt : b < W.heap.size := cell_lt (p := (⟨b, o, none⟩ : Addr).add (0 * 5) |>.add 0) hc0
      refine ⟨b, o, rfl, hlt, by simpa using hl, hm, fun j s hj => ?_⟩
      rw [List.getElem?_map] at hj
      have hj' : j < len := by
        by_cases h : j < len
        · exact h
        · rw [List.getElem?_eq_none (by simpa using h)] at hj; cases hj
      rw [List.getElem?_range hj'] at hj
      simp only [Option.map_some, Option.some.injEq] at hj
      subst hj
      have hall := (hF j (by omega)).1
      exact ⟨(congrArg _ (add_at b o (j * 5) 0)).symm.trans (hall 0 _ rfl), (congrArg _ (add_at b o (j * 5) 1)).symm.trans (hall 1 _ rfl), (congrArg _ (add_at b o (j * 5) 2)).symm.trans (hall 2 _ rfl), (congrArg _ (add_at b o (j * 5) 3)).symm.trans (hall 3 _ rfl), (congrArg _ (add_at b o (j * 5) 4)).symm.trans (hall 4 _ rfl)⟩
    · obtain ⟨i, hi', rfl⟩ := List.mem_map.1 hs
      exact (hF i (by have := List.mem_range.1 hi'; omega)).2
theorem rels_open {W : World} {c : Value} {x : DataW H × List MemPlace} {fuel : Nat} (hf : DataW.trod enc Tryz.prog W 0 (fun _ => true) true fuel 28 [c] = some x) :
    ∃ ss : List RelV, Rels W.heap.size W c ss ∧ ∀ s ∈ ss, s.Wf := by
  rcases open_slice Tryz.underlying28 hf with ⟨hc, -⟩ | ⟨a, len, cap, m, n, D, Pl, hc, -, hl, hm, hmm, -, hi⟩
  · simp only [List.cons.injEq, and_true] at hc
    subst hc
    exact ⟨[], ⟨none, 0, rfl, fun h => absurd h (by simp)⟩, by simp⟩
  · simp only [List.cons.injEq, and_true] at hc
    subst hc
    simp only [if_true] at hmm
    subst hmm
    have key : ∀ i, ∃ s : RelV, i < m → (∀ j v, (relV s)[j]? = some v → W.cell? ((a.add (i * 5)).add j) = some v) ∧ s.Wf := fun i => by
      by_cases h : i < m
      · obtain ⟨cs', h1, h2⟩ := hi i h
        rw [show Tryz.prog.cellsOf 59 = 5 by kernel_rfl] at h1
        obtain ⟨s, rfl, hw⟩ := rel_open h2
        obtain ⟨-, -, h3⟩ := World.cells?_some h1
        refine ⟨s, fun _ => ⟨fun j v hj => ?_, hw⟩⟩
        have hj5 : j < 5 := (List.getElem?_eq_some_iff.1 hj).1
        exact (h3 j hj5).trans hj
      · exact ⟨⟨0, 0, 0, 0, 0⟩, fun h' => absurd h' h⟩
    obtain ⟨f, hF⟩ := Classical.axiomOfChoice key
    refine ⟨(List.range len).map f, ⟨some a, m, by simp, fun h0 => ?_⟩, fun s hs => ?_⟩
    · rw [List.length_map, List.length_range] at h0
      have hc0 := (hF 0 (by omega)).1 0 _ rfl
      obtain ⟨b, o, spot⟩ := a
      have hspot : spot = none := by simpa [Addr.add] using World.cell?_spot hc0
      subst hspot
      have hlt : b < W.heap.size := cell_lt (p := (⟨b, o, none⟩ : Addr).add (0 * 5) |>.add 0) hc0
      refine ⟨b, o, rfl, hlt, by simpa using hl, hm, fun j s hj => ?_⟩
      rw [List.getElem?_map] at hj
      have hj' : j < len := by
        by_cases h : j < len
        · exact h
        · rw [List.getElem?_eq_none (by simpa using h)] at hj; cases hj
      rw [List.getElem?_range hj'] at hj
      simp only [Option.map_some, Option.some.injEq] at hj
      subst hj
      have hall := (hF j (by omega)).1
      exact ⟨(congrArg _ (add_at b o (j * 5) 0)).symm.trans (hall 0 _ rfl), (congrArg _ (add_at b o (j * 5) 1)).symm.trans (hall 1 _ rfl), (congrArg _ (add_at b o (j * 5) 2)).symm.trans (hall 2 _ rfl), (congrArg _ (add_at b o (j * 5) 3)).symm.trans (hall 3 _ rfl), (congrArg _ (add_at b o (j * 5) 4)).symm.trans (hall 4 _ rfl)⟩
    · obtain ⟨i, hi', rfl⟩ := List.mem_map.1 hs
      exact (hF i (by have := List.mem_range.1 hi'; omega)).2
theorem words_open {W : World} {c : Value} {x : DataW H × List MemPlace} {fuel : Nat} (hf : DataW.trod enc Tryz.prog W 0 (fun _ => true) true fuel 25 [c] = some x) :
    ∃ xs : List Int, Nums8 .u32 W.heap.size W c xs ∧ ∀ x ∈ xs, (Lit.int .u32 x).wf = true := by
  rcases open_ints Tryz.underlying25 Tryz.underlying46 (by kernel_rfl) hf with ⟨hc, -⟩ | ⟨a, len, cap, zs, hc, _, hl, hm, hz, -, hcell, hwz⟩
  · simp only [List.cons.injEq, and_true] at hc
    subst hc
    exact ⟨[], ⟨none, 0, rfl, fun h => absurd h (by simp)⟩, by simp⟩
  · simp only [List.cons.injEq, and_true] at hc
    subst hc
    simp only [if_true] at hz
    have hlen : (zs.take len).length = len := by simp; omega
    refine ⟨zs.take len, ⟨some a, cap, by rw [hlen], fun h0 => ?_⟩, fun x hx => hwz x (List.mem_of_mem_take hx)⟩
    rw [hlen] at h0
    obtain ⟨b, off, rfl, hc2⟩ := ints_at hcell (by omega)
    refine ⟨b, off, rfl, cell_lt (hc2 0 (by omega)), by omega, hm, fun j x hj => ?_⟩
    have hjl : j < len := by
      have := (List.getElem?_eq_some_iff.1 hj).1
      omega
    rw [List.getElem?_take, if_pos hjl] at hj
    rw [hc2 j (by omega), List.getD_eq_getElem?_getD, hj]; rfl
theorem bytes_open {W : World} {c : Value} {x : DataW H × List MemPlace} {fuel : Nat} (hf : DataW.trod enc Tryz.prog W 0 (fun _ => true) true fuel 26 [c] = some x) :
    ∃ xs : List Int, Nums8 .u8 W.heap.size W c xs ∧ ∀ x ∈ xs, (Lit.int .u8 x).wf = true := by
  rcases open_ints Tryz.underlying26 Tryz.underlying5 (by kernel_rfl) hf with ⟨hc, -⟩ | ⟨a, len, cap, zs, hc, _, hl, hm, hz, -, hcell, hwz⟩
  · simp only [List.cons.injEq, and_true] at hc
    subst hc
    exact ⟨[], ⟨none, 0, rfl, fun h => absurd h (by simp)⟩, by simp⟩
  · simp only [List.cons.injEq, and_true] at hc
    subst hc
    simp only [if_true] at hz
    have hlen : (zs.take len).length = len := by simp; omega
    refine ⟨zs.take len, ⟨some a, cap, by rw [hlen], fun h0 => ?_⟩, fun x hx => hwz x (List.mem_of_mem_take hx)⟩
    rw [hlen] at h0
    obtain ⟨b, off, rfl, hc2⟩ := ints_at hcell (by omega)
    refine ⟨b, off, rfl, cell_lt (hc2 0 (by omega)), by omega, hm, fun j x hj => ?_⟩
    have hjl : j < len := by
      have := (List.getElem?_eq_some_iff.1 hj).1
      omega
    rw [List.getElem?_take, if_pos hjl] at hj
    rw [hc2 j (by omega), List.getD_eq_getElem?_getD, hj]; rfl
theorem Sl_len {n₀ : Nat} {v : Value} {n : Nat} {F : Nat → Nat → Prop} (h : Sl n₀ v n F) : n ≤ maxLen := by
  obtain ⟨p, c, -, hh⟩ := h
  by_cases h0 : 0 < n
  · obtain ⟨b, o, -, -, h1, h2, -⟩ := hh h0
    exact Nat.le_trans h1 h2
  · omega
theorem lens {n₀ : Nat} {w : World} {v0 v1 v2 v3 : Value} {o : ObjV} (h : ObjAt n₀ w v0 v1 v2 v3 o) : o.ws.length ≤ maxLen ∧ o.ds.length ≤ maxLen ∧ o.ss.length ≤ maxLen ∧ o.rs.length ≤ maxLen :=
  ⟨Sl_len h.ws, Sl_len h.ds, Sl_len h.ss, Sl_len h.rs⟩
end
end OB
end Go.Proofs.YtlmblfkcmhgdaaaGreat
namespace Go.Proofs.YtlmblfkcmhgdaaaGreat
open Go.RowKit
set_option linter.unusedVariables false
set_option linter.unusedSimpArgs false
namespace ON
open OM
theorem ret_bool {a b : Bool} (h : a = b) : Ending.returned (.bool a) = .returned (.bool b) := by rw [h]
set_option maxRecDepth 100000 in
set_option maxHeartbeats 1000000 in
theorem digit_ (x : Int) (h0 : 0 ≤ x) (h1 : x ≤ 255) (w : World) :
    Calls Tryz.prog 174 #[.int .u8 x] w fun e w' => e = .returned (.bool (digI x)) ∧ w = w' := by
  go_enter Tryz.func174, Tryz.ntmps174
  go_wp2
  all_goals
    go_ret
    exact ⟨ret_bool (by rw [Bool.eq_iff_iff]; unfold digI; simp; try omega), rfl⟩
set_option maxRecDepth 100000 in
set_option maxHeartbeats 4000000 in
theorem okc_ (x : Int) (h0 : 0 ≤ x) (h1 : x ≤ 255) (w : World) :
    Calls Tryz.prog 175 #[.int .u8 x] w fun e w' => e = .returned (.bool (okI x)) ∧ w = w' := by
  go_enter Tryz.func175, Tryz.ntmps175
  go_wp2
  all_goals
    go_ret
    exact ⟨ret_bool (by rw [Bool.eq_iff_iff, okI_iff]; simp; try omega), rfl⟩
theorem byte_bd (s : ByteArray) (k : Nat) (h : k < s.size) : 0 ≤ (s[k].toNat : Int) ∧ (s[k].toNat : Int) ≤ 255 := by
  have := s[k].toNat_lt
  omega
theorem not_nil (s : ByteArray) (h : 0 < s.size) : s.toList.isEmpty = false ∧ ¬ s.toList = [] := by
  have h2 : ¬ s.toList = [] := by
    rw [ByteArray.toList_eq]
    intro e
    have : s.data.toList.length = 0 := by rw [e]; rfl
    have hz : s.size = s.data.toList.length := by simp
    omega
  exact ⟨by rw [List.isEmpty_eq_false_iff]; exact h2, h2⟩
def DigAt (s : ByteArray) : Prop := ∃ h : 0 < s.size, digI (s[0].toNat) = true
set_option maxRecDepth 100000 in
set_option maxHeartbeats 4000000 in
theorem name_short (s : ByteArray) (w : World) (h : s.size < 1) : Calls Tryz.prog 171 #[.string s] w fun e w' => e = .returned (.bool false) ∧ w = w' := by
  obtain rfl : s = ⟨#[]⟩ := by
    obtain ⟨⟨l⟩⟩ := s
    cases l with
    | nil => rfl
    | cons a l => exact absurd h (by show ¬ (a :: l).length < 1; simp)
  go_enter Tryz.func171, Tryz.ntmps171
  go_wp2
  go_ret
  exact ⟨rfl, rfl⟩
set_option maxRecDepth 100000 in
set_option maxHeartbeats 4000000 in
theorem name_long (s : ByteArray) (w : World) (hs : s.size ≤ maxLen) (h : 40 < s.size) : Calls Tryz.prog 171 #[.string s] w fun e w' => e = .returned (.bool false) ∧ w = w' := by
  unfold maxLen at hs
  have h1 : 0 < s.size := by omega
  have b := byte_bd s 0 h1
  go_enter Tryz.func171, Tryz.ntmps171
  go_wp2
  all_goals
    go_ret
    exact ⟨rfl, rfl⟩
set_option maxRecDepth 100000 in
set_option maxHeartbeats 4000000 in
theorem name_dig (s : ByteArray) (w : World) (h1 : 0 < s.size) (h2 : s.size ≤ 40) (hd : digI (s[0].toNat) = true) : Calls Tryz.prog 171 #[.string s] w fun e w' => e = .returned (.bool false) ∧ w = w' := by
  have b := byte_bd s 0 h1
  have c := digit_ (s[0].toNat) b.1 b.2
  obtain ⟨n1, n2⟩ := not_nil s h1
  rw [hd] at c
  clear hd
  go_enter Tryz.func171, Tryz.ntmps171
  go_wp2_with (go_at_call 174; (with_reducible refine (c _).mono ?_); rintro e w1 ⟨rfl, rfl⟩)
  all_goals
    go_ret
    exact ⟨rfl, rfl⟩
set_option maxRecDepth 100000 in
set_option maxHeartbeats 4000000 in
theorem name_loop (s : ByteArray) (w : World) (h1 : 0 < s.size) (h2 : s.size ≤ 40) (hd : digI (s[0].toNat) = false) : Calls Tryz.prog 171 #[.string s] w fun e w' => e = .returned (.bool (okFrom s 0)) ∧ w = w' := by
  have b := byte_bd s 0 h1
  have c := digit_ (s[0].toNat) b.1 b.2
  obtain ⟨n1, n2⟩ := not_nil s h1
  rw [hd] at c
  clear hd
  go_enter Tryz.func171, Tryz.ntmps171
  go_wp2_with (go_at_call 174; (with_reducible refine (c _).mono ?_); rintro e w1 ⟨rfl, rfl⟩)
  go_loop [18] (fun i => ∃ k : Nat, k ≤ s.size ∧ i = .int .i64 k ∧ okFrom s 0 = okFrom s k) (fun i => s.size - (intOf i).toNat)
  case atStart => exact ⟨0, Nat.zero_le _, rfl, rfl⟩
  case round =>
    obtain ⟨k, hk, rfl, hq⟩ := hrel
    have HQ := Lib.hid hq
    clear hq
    by_cases hlt : k < s.size
    · have hb := byte_bd s k hlt
      have hc := okc_ (s[k].toNat) hb.1 hb.2
      have HS := Lib.hid (okFrom_step s k hlt)
      cases ho : okI (s[k].toNat : Int) with
      | false =>
        rw [ho] at hc
        have HO := Lib.hid ho
        clear ho
        go_wp2_with (go_at_call 175; (with_reducible refine (hc _).mono ?_); rintro e w1 ⟨rfl, rfl⟩)
        go_ret
        exact ⟨ret_bool (by rw [HQ.out, HS.out, HO.out]; rfl), rfl⟩
      | true =>
        rw [ho] at hc
        have HO := Lib.hid ho
        clear ho
        go_wp2_with (go_at_call 175; (with_reducible refine (hc _).mono ?_); rintro e w1 ⟨rfl, rfl⟩)
        go_round
        case rel => exact ⟨k + 1, by omega, by go_num, by rw [HQ.out, HS.out, HO.out]; rfl⟩
        case measure => simp [intOf]; omega
    · obtain rfl : k = s.size := by omega
      go_wp2
      go_ret
      exact ⟨ret_bool (by rw [HQ.out]; exact (okFrom_end s).symm), rfl⟩
theorem name_ (s : ByteArray) (w : World) (hs : s.size ≤ maxLen) : Calls Tryz.prog 171 #[.string s] w fun e w' => e = .returned (.bool (nameB s)) ∧ w = w' := by
  by_cases h1 : s.size < 1
  · rw [nameB_no_size (.inl h1)]; exact name_short s w h1
  · by_cases h2 : 40 < s.size
    · rw [nameB_no_size (.inr h2)]; exact name_long s w hs h2
    · rw [nameB_mid (by omega) (by omega)]
      cases hd : digI (s[0].toNat) with
      | true => exact name_dig s w (by omega) (by omega) hd
      | false => exact name_loop s w (by omega) (by omega) hd
end ON
end Go.Proofs.YtlmblfkcmhgdaaaGreat
