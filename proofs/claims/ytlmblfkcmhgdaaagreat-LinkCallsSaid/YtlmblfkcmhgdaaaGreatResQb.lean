/-
  Resolve: a contract. Condition: the objects lie in memory, and have not too many symbols.
  The statement that gathers a target, whatever its order: what holds while it is carried out. Condition: none.
  Resolve's loop: one target more; how the loop ends. Condition: none.
  Resolve: the walk. Condition: the objects lie in memory, and have not too many symbols.
  resolve.Main: a contract. Condition: the objects lie in memory, and have not too many symbols.
  Objects the other way round: what Resolve means of them. It speaks of no program.
  Two runs of Resolve side by side: the targets as lists; the objects the other way round, in memory. Condition: none.
-/
import Derived.Test.YtlmblfkcmhgdaaaGreatResQa
import Derived.RegionTactic
import Derived.BigRegion
import Derived.Laws.OwnMore
import Derived.BigQuiet
namespace Go.Proofs.YtlmblfkcmhgdaaaGreat
open Go.RowKit Go.Maps Go.WideMaps
set_option linter.unusedVariables false
set_option linter.unusedSimpArgs false
namespace RsV
open OO OJ RsM RsI RsP RsR RsD RsS RsT RsN OCk
open OI hiding Mid Did
attribute [local go_sem] Oper.semAt_some
theorem infoR : (Tryz.prog.info? TS).map (fun i => (i.zero, i.size, i.bytes)) = some (some (.slice none 0 0), 1, 24) := by kernel_rfl
/-- where a list of targets lies -/
def TgtsAt (W : World) (tv : Value) (rows : List (List (Int × Int))) : Prop :=
  Sl W.heap.size tv rows.length fun b o => ∀ i r, rows[i]? = some r → ∃ v, W.cell? ⟨b, o + i, none⟩ = some v ∧ Sl W.heap.size v r.length fun b' o' => ∀ j t, r[j]? = some t → W.cell? ⟨b', o' + j * 2, none⟩ = some (.int .i64 t.1) ∧ W.cell? ⟨b', o' + j * 2 + 1, none⟩ = some (.int .i64 t.2)
/-- what Resolve answers -/
def Out (objs : List ObjV) (W : World) (tv : Value) (i k e : Int) : Prop :=
  if 0 ≤ noneFrom objs 0 then tv = .slice none 0 0 ∧ i = noneFrom objs 0 ∧ k = 0 ∧ e = 2 else
  match againL (flat objs) with
  | x :: _ => tv = .slice none 0 0 ∧ i = x.i ∧ k = x.k ∧ e = 4
  | [] => match (flat objs).find? (RsT.bad (flat objs)) with
    | some x => tv = .slice none 0 0 ∧ i = x.i ∧ k = x.k ∧ e = 3
    | none => i = 0 ∧ k = 0 ∧ e = 0 ∧ TgtsAt W tv ((List.range objs.length).map (RsT.rowAt (flat objs) (flat objs)))
def Res (objs : List ObjV) (w : World) (e : Ending) (w' : World) : Prop :=
  ∃ tv i k c, e = .returned (.tuple #[tv, .agg #[.int .i64 i, .int .i64 k], .int .i64 c]) ∧ Out objs w' tv i k c ∧ Below w.heap.size w w'
/-- the rows of targets lie in memory that is new since a heap of that size -/
def TgtsLo (lo : Nat) (W : World) (tv : Value) : Prop :=
  ∀ b o m c, tv = .slice (some ⟨b, o, none⟩) m c → lo ≤ b ∧ ∀ i, i < m → ∀ b' o' m' c', W.cell? ⟨b, o + i, none⟩ = some (.slice (some ⟨b', o', none⟩) m' c') → lo ≤ b'
/-- what Resolve answers, and that it is new memory -/
def ResLo (objs : List ObjV) (w : World) (e : Ending) (w' : World) : Prop :=
  ∃ tv i k c, e = .returned (.tuple #[tv, .agg #[.int .i64 i, .int .i64 k], .int .i64 c]) ∧ Out objs w' tv i k c ∧ Below w.heap.size w w' ∧ TgtsLo w.heap.size w' tv
theorem ResLo.res {objs : List ObjV} {w w' : World} {e : Ending} (h : ResLo objs w e w') : Res objs w e w' := by
  obtain ⟨tv, i, k, c, h1, h2, h3, -⟩ := h
  exact ⟨tv, i, k, c, h1, h2, h3⟩
theorem tgts_lo_none (lo : Nat) (W : World) : TgtsLo lo W (.slice none 0 0) := fun b o m c h => by simp at h
theorem hset {w : World} {g i : Nat} {cs : Array Value} {t : TypeId} (hg : w.heap[g]? = some (.cells cs t (0, 0))) (v : Value) : (w.setCell ⟨g, i, none⟩ v).heap[g]? = some (.cells (cs.setIfInBounds i v) t (0, 0)) := heap_setCell_same w g i cs t v hg
/-- the four results are stored -/
def fin4 (W : World) (r : Nat) (a b c d : Value) : World := (((W.setCell ⟨r, 0, none⟩ a).setCell ⟨r + 1, 0, none⟩ b).setCell ⟨r + 1, 1, none⟩ c).setCell ⟨r + 1 + 1, 0, none⟩ d
structure Fin4 (W : World) (r : Nat) (a b c d : Value) (W' : World) : Prop where
  h0 : W'.heap[r]? = some (.cells #[a] TR (0, 0))
  h1 : W'.heap[r + 1]? = some (.cells #[b, c] TT (0, 0))
  h2 : W'.heap[r + 2]? = some (.cells #[d] TE (0, 0))
  oth : ∀ k, k ≠ r → k ≠ r + 1 → k ≠ r + 2 → W'.heap[k]? = W.heap[k]?
  sz : W'.heap.size = W.heap.size
  os : W'.os = W.os
  tape : W'.tape = W.tape
  output : W'.output = W.output
theorem fin4_ {W : World} {r : Nat} {a0 b0 c0 d0 : Value} (h0 : W.heap[r]? = some (.cells #[a0] TR (0, 0))) (h1 : W.heap[r + 1]? = some (.cells #[b0, c0] TT (0, 0))) (h2 : W.heap[r + 2]? = some (.cells #[d0] TE (0, 0))) (a b c d : Value) : Fin4 W r a b c d (fin4 W r a b c d) := by
  have s0 : (W.setCell ⟨r, 0, none⟩ a).heap[r]? = some (.cells #[a] TR (0, 0)) := hset h0 a
  have s1 : (W.setCell ⟨r, 0, none⟩ a).heap[r + 1]? = some (.cells #[b0, c0] TT (0, 0)) := (Below.heap_setCell _ _ _ _ (by show r + 1 ≠ r; omega)).trans h1
  have s2 : (W.setCell ⟨r, 0, none⟩ a).heap[r + 2]? = some (.cells #[d0] TE (0, 0)) := (Below.heap_setCell _ _ _ _ (by show r + 2 ≠ r; omega)).trans h2
  have t1 := hset s1 (i := 0) b
  have t1 : ((W.setCell ⟨r, 0, none⟩ a).setCell ⟨r + 1, 0, none⟩ b).heap[r + 1]? = some (.cells #[b, c0] TT (0, 0)) := t1
  have u1 : (((W.setCell ⟨r, 0, none⟩ a).setCell ⟨r + 1, 0, none⟩ b).setCell ⟨r + 1, 1, none⟩ c).heap[r + 1]? = some (.cells #[b, c] TT (0, 0)) := hset t1 (i := 1) c
  refine ⟨?_, ?_, ?_, fun k e0 e1 e2 => ?_, ?_, rfl, rfl, rfl⟩
  · exact (Below.heap_setCell _ _ _ _ (by show r ≠ r + 1 + 1; omega)).trans ((Below.heap_setCell _ _ _ _ (by show r ≠ r + 1; omega)).trans ((Below.heap_setCell _ _ _ _ (by show r ≠ r + 1; omega)).trans s0))
  · exact (Below.heap_setCell _ _ _ _ (by show r + 1 ≠ r + 1 + 1; omega)).trans u1
  · exact hset ((Below.heap_setCell _ _ _ _ (by show r + 1 + 1 ≠ r + 1; omega)).trans ((Below.heap_setCell _ _ _ _ (by show r + 1 + 1 ≠ r + 1; omega)).trans s2)) d
  · exact (Below.heap_setCell _ _ _ _ (by show k ≠ r + 1 + 1; omega)).trans ((Below.heap_setCell _ _ _ _ (by show k ≠ r + 1; omega)).trans ((Below.heap_setCell _ _ _ _ (by show k ≠ r + 1; omega)).trans (Below.heap_setCell _ _ _ _ (by show k ≠ r; omega))))
  · unfold fin4; simp only [World.size_setCell]
theorem Fin4.below {w W W' : World} {r : Nat} {a b c d : Value} (h : Fin4 W r a b c d W') (hb : Below r w W) (hr : w.heap.size ≤ W.heap.size) : Below r w W' :=
  ⟨h.os.trans hb.os, h.tape.trans hb.tape, h.output.trans hb.output, by rw [h.sz]; exact hr, fun k hk => (h.oth k (by omega) (by omega) (by omega)).trans (hb.block k hk)⟩
theorem Fin4.cells {W W' : World} {r : Nat} {a b c d : Value} (h : Fin4 W r a b c d W') : W'.cell? ⟨r, 0, none⟩ = some a ∧ W'.cell? ⟨r + 1, 0, none⟩ = some b ∧ W'.cell? ⟨r + 1, 1, none⟩ = some c ∧ W'.cell? ⟨r + 1 + 1, 0, none⟩ = some d :=
  ⟨Lib.cell_of_heap h.h0 0, Lib.cell_of_heap h.h1 0, Lib.cell_of_heap h.h1 1, Lib.cell_of_heap h.h2 0⟩
theorem def2_ {w : World} {n₀ : Nat} {v : Value} {objs : List ObjV} (hn : n₀ ≤ w.heap.size) (ho : ObjsAt n₀ w v objs) (hw : ∀ o ∈ objs, o.Wf) (hm : objs.length ≤ maxLen) (hms : ∀ o ∈ objs, o.ss.length ≤ maxLen) (hN : (flat objs).length ≤ 100000) :
    Calls Tryz.prog 94 #[v] w fun e w' => ∃ q c, e = .returned (.tuple #[.map (some (w.heap.size + 2)), .slice q (againL (flat objs)).length c]) ∧ w'.ownsMap Tryz.prog 9 tgtR (w.heap.size + 2) (flat objs).length (namesD (flat objs)) ∧
      w'.ownsRow (w.heap.size + 4) TT 2 (.slice q (againL (flat objs)).length c) (againL (flat objs)).length (entCells (againL (flat objs))) ∧ Below w.heap.size w w' ∧ w.heap.size + 4 ≤ w'.heap.size := by
  refine (definitions_ hn ho hw hm hms hN).mono ?_
  rintro e w' ⟨a, rfl, h1, h2, h3, h4⟩
  have : ∃ q c, a = .slice q (againL (flat objs)).length c := by
    rcases h2.2 with ⟨rfl, e⟩ | ⟨g, cap, cur, rfl, _⟩
    · exact ⟨none, 0, by rw [e]⟩
    · exact ⟨_, _, rfl⟩
  obtain ⟨q, c, rfl⟩ := this
  exact ⟨q, c, rfl, h1, h2, h3, h4⟩
theorem Fin4.drew {W W' : World} {r : Nat} {a b c d : Value} (h : Fin4 W r a b c d W') : Fin4 W r a b c d W'.drew := ⟨h.h0, h.h1, h.h2, h.oth, h.sz, h.os, h.tape, h.output⟩
/-- what the loop has done -/
structure RI (w : World) (F : List Ent) (A M B base n : Nat) (l : List Ent) (W : World) : Prop where
  c0 : W.heap[w.heap.size]? = some (.cells #[.slice none 0 0] TR (0, 0))
  c1 : W.heap[w.heap.size + 1]? = some (.cells #[.int .i64 0, .int .i64 0] TT (0, 0))
  c2 : W.heap[w.heap.size + 2]? = some (.cells #[.int .i64 0] TE (0, 0))
  a : W.heap[A]? = some (.cells #[.map (some M)] TM (0, 0))
  b : W.heap[B]? = some (.cells #[.slice (some ⟨A + 1, 0, none⟩) n n] TR (0, 0))
  map : W.ownsMap Tryz.prog 9 tgtR M F.length (namesD F)
  rows : ∃ vs, TRows (A + 1) base n (fun i => RsT.rowAt F l i) vs W
  ok : ∀ x ∈ l, RsT.bad F x = false
  bel : Below w.heap.size w W
  zz : base ≤ W.heap.size
structure Lay (w : World) (A M B base : Nat) : Prop where
  m : w.heap.size + 3 ≤ M
  a : M < A
  b : A + 1 < B
  z : B < base
theorem trows_own {O base n : Nat} {f : Nat → List (Int × Int)} {vs : List Value} {W W' : World} {row : Option Nat} (h : TRows O base n f vs W) (hg : W.grownBy W' row) (hr : ∀ r, row = some r → ∃ o : Obj, W.heap[r]? = some o ∧ o.isCells = false) : TRows O base n f vs W' := by
  have key : ∀ {b : Nat} {e : TypeId} {size : Nat} {v : Value} {m : Nat} {xs : List Value}, W.ownsRow b e size v m xs → v.ownBlock = none ∨ v.ownBlock ≠ row := fun {b e size v m xs} ho => by
    cases hv : v.ownBlock with
    | none => exact .inl rfl
    | some g =>
      refine .inr fun e => ?_
      obtain ⟨c, hc, -⟩ := row_block ho g hv
      obtain ⟨o, ho', hn⟩ := hr g e.symm
      rw [hc] at ho'
      cases ho'
      cases hn
  refine h.kept hg ?_ (fun i v hv => key (h.row i v hv))
  have := key h.out
  simpa [Value.ownBlock] using this
theorem RI.own {w : World} {F : List Ent} {A M B base n : Nat} (hl : Lay w A M B base) : OwnFrom base (RI w F A M B base n) := by
  intro l W W' row h hg hr
  have := hl.m
  have := hl.a
  have := hl.b
  have := hl.z
  have hz := h.zz
  have low : ∀ k, k < base → W'.heap[k]? = W.heap[k]? := fun k h1 => hg.block k (by omega) (fun e => by have := (hr k e.symm).1; omega)
  obtain ⟨vs, hv⟩ := h.rows
  exact ⟨(low _ (by omega)).trans h.c0, (low _ (by omega)).trans h.c1, (low _ (by omega)).trans h.c2, (low _ (by omega)).trans h.a, (low _ (by omega)).trans h.b, h.map.kept hg (fun e => by have := (hr _ e.symm).1; omega), ⟨vs, trows_own hv hg fun r e => (hr r e).2⟩, h.ok,
    ⟨hg.os.trans h.bel.os, hg.tape.trans h.bel.tape, hg.output.trans h.bel.output, Nat.le_trans h.bel.size hg.size, fun k hk => (low k (by omega)).trans (h.bel.block k hk)⟩, Nat.le_trans h.zz hg.size⟩
theorem RI.below {w : World} {F : List Ent} {A M B base n : Nat} {l : List Ent} {W W' : World} (hl : Lay w A M B base) (h : RI w F A M B base n l W) (hb : Below W.heap.size W W') : RI w F A M B base n l W' :=
  RI.own hl l W W' none h ⟨hb.os, hb.tape, hb.output, hb.size, fun i hi _ => hb.block i hi⟩ (fun r e => by cases e)
/-- the loop's variables, and that no row of targets lies so high -/
structure BX (A base : Nat) (x : Ent) (b c : Nat) (W : World) : Prop where
  v : Vars base x b c W
  low : ∀ (i : Nat) (q : Addr) (m k : Nat), W.cell? ⟨A + 1, i, none⟩ = some (.slice (some q) m k) → q.block < b
  lt : b < c
theorem BX.own {A base m : Nat} (hA : A + 1 < m) (hB : A + 1 < base) (x : Ent) (b c : Nat) : OwnFrom m (fun (_ : Unit) W => BX A base x b c W) := by
  intro u W W' row h hg hr
  refine ⟨Vars.own x b c u W W' row h.v hg hr, fun i q m' k hc => h.low i q m' k ?_, h.lt⟩
  rcases Nat.lt_or_ge (A + 1) W.heap.size with hlt | hge
  · rw [← hc]
    exact (cell_same (hg.block _ hlt (fun e => by have := (hr _ e.symm).1; omega)) i).symm
  · exfalso
    have h1 := lt_heap h.v.v0
    have h2 := h.v.lb
    omega
theorem made_nil (n : Nat) : (madeCells (Value.slice none 0 0).cells (n * 1)).toList = List.replicate n (.slice none 0 0) := by
  rw [Nat.mul_one]
  exact toList_madeCells_one (Value.slice none 0 0) n
theorem rep_get {n i : Nat} {u v : Value} (h : (List.replicate n u)[i]? = some v) : i < n ∧ v = u := by
  rw [List.getElem?_replicate] at h
  split at h
  · exact ⟨by assumption, (Option.some.inj h).symm⟩
  · cases h
theorem low_rows {O base n : Nat} {f : Nat → List (Int × Int)} {W W' : World} (h : ∃ vs, TRows O base n f vs W) (hO : O < W.heap.size) (hb : Below W.heap.size W W') : ∀ (i : Nat) (q : Addr) (m k : Nat), W'.cell? ⟨O, i, none⟩ = some (.slice (some q) m k) → q.block < W.heap.size := by
  intro i q m k hc
  obtain ⟨vs, hv⟩ := h
  have hc := (hb.cell (p := ⟨O, i, none⟩) hO).symm.trans hc
  rcases hv.out.2 with ⟨e, _⟩ | ⟨g, cap, cur, e, _, hg, _, _, hcs, htake⟩
  · simp at e
  · simp only [Value.slice.injEq, Option.some.injEq, Addr.mk.injEq, and_true, true_and] at e
    obtain ⟨rfl, rfl⟩ := e
    rw [Lib.cell_of_heap hg] at hc
    have hi : i < cur.size := (Array.getElem?_eq_some_iff.1 hc).1
    have hvi : vs[i]? = some (.slice (some q) m k) := by
      rw [← htake, List.getElem?_take, if_pos (by omega)]
      simpa using hc
    exact ((hv.row i _ hvi).lt q.block rfl).2
/-- where the loop stopped -/
def IX (w : World) (objs : List ObjV) (c : Code) (pre : List (Fin (flat objs).length)) (W : World) : Prop :=
  c = .ret ∧ ∃ pre0 x, pre = pre0 ++ [x] ∧ (∀ y ∈ pre0.map ent, RsT.bad (flat objs) y = false) ∧ RsT.bad (flat objs) (ent x) = true ∧
    W.heap[w.heap.size]? = some (.cells #[.slice none 0 0] TR (0, 0)) ∧ W.heap[w.heap.size + 1]? = some (.cells #[.int .i64 ((ent x).i : Int), .int .i64 ((ent x).k : Int)] TT (0, 0)) ∧ W.heap[w.heap.size + 2]? = some (.cells #[.int .i64 3] TE (0, 0)) ∧ Below w.heap.size w W
theorem IX.own {w : World} {objs : List ObjV} {m : Nat} (hm : w.heap.size + 3 ≤ m) (c : Code) : OwnFrom m (IX w objs c) := by
  rintro pre W W' row ⟨hc, pre0, x, h1, h2, h3, h4, h5, h6, h7⟩ hg hr
  have low : ∀ k, k < m → k < W.heap.size → W'.heap[k]? = W.heap[k]? := fun k hk hlt => hg.block k hlt (fun e => by have := (hr k e.symm).1; omega)
  exact ⟨hc, pre0, x, h1, h2, h3, (low _ (by omega) (lt_heap h4)).trans h4, (low _ (by omega) (lt_heap h5)).trans h5, (low _ (by omega) (lt_heap h6)).trans h6, hg.os.trans h7.os, hg.tape.trans h7.tape, hg.output.trans h7.output, Nat.le_trans h7.size hg.size, fun k hk => (low k (by omega) (by have := h7.size; omega)).trans (h7.block k hk)⟩
end RsV
end Go.Proofs.YtlmblfkcmhgdaaaGreat
namespace Go.Proofs.YtlmblfkcmhgdaaaGreat
open Go.RowKit Go.Maps Go.WideMaps
set_option linter.unusedVariables false
set_option linter.unusedSimpArgs false
namespace RsV
open OO OJ RsM RsI RsP RsR RsD RsS RsT RsN OCk
open OI hiding Mid Did
def val14 (O n b xi nb : Nat) (ta tb : Int) (v : Value) : Nat → Value
  | 0 => .slice (some ⟨O, 0, none⟩) n n | 1 => .pointer (some ⟨b, 0, none⟩) | 2 => .int .i64 (xi : Int) | 3 => .slice (some ⟨O, 0, none⟩) n n | 4 => .pointer (some ⟨b, 0, none⟩) | 5 => .int .i64 (xi : Int)
  | 6 => .pointer (some ⟨O, xi, none⟩) | 7 => v | 8 => .agg #[.int .i64 ta, .int .i64 tb] | 9 => .slice (some ⟨nb, 0, none⟩) 1 1 | _ => .pointer (some ⟨O, xi, none⟩)
structure Inv14 (W0 : World) (O base n b xi : Nat) (ta tb : Int) (v : Value) (m : Nat) (xs : List Value) (a0 : Act) (L : Array Bool) (a : Act) (w : World) : Prop where
  d : a.defers = a0.defers
  sz : a.tmps.size = a0.tmps.size
  oth : ∀ k, k < 47 → a.tmps.getD k undef = a0.tmps.getD k undef
  f : ∀ i, i < 12 → i ≠ 10 → L.getD i false = true → a.tmps.getD (47 + i) undef = val14 O n b xi W0.heap.size ta tb v i
  w0 : L.getD 9 false = false → w = W0
  w1 : L.getD 9 false = true → L.getD 10 false = false → w = W0.alloc (.cells #[.int .i64 ta, .int .i64 tb] TT)
  w2 : L.getD 10 false = true → ∃ v' w', App base (W0.alloc (.cells #[.int .i64 ta, .int .i64 tb] TT)) v m xs (ta, tb) v' w' ∧ a.tmps.getD 57 undef = v' ∧ w = (if L.getD 12 false then w'.setCell ⟨O, xi, none⟩ v' else w')
  o1 : L.getD 10 false = true → L.getD 9 false = true ∧ L.getD 7 false = true
  o2 : L.getD 12 false = true → L.getD 10 false = true
section
variable {W0 : World} {O base n b xi : Nat} {ta tb : Int} {v : Value} {m : Nat} {xs : List Value} {a0 : Act} {L : Array Bool} {a : Act} {w : World}
theorem Inv14.next (h : Inv14 W0 O base n b xi ta tb v m xs a0 L a w) (hL : L.size = 13) (h61 : a0.tmps.size = 61) (i : Nat) (hi : i < 12) (h9 : i ≠ 9) (h10 : i ≠ 10) (u : Value) (hu : u = val14 O n b xi W0.heap.size ta tb v i) :
    Inv14 W0 O base n b xi ta tb v m xs a0 (L.setIfInBounds i true) (a.put (some (47 + i)) u) w := by
  have sg := fun j => set_at (listed := L) (i := i) (j := j) (by omega)
  have pg := put_get (a := a) (d := 47 + i) (v := u) (by rw [h.sz, h61]; omega)
  have s9 : (L.setIfInBounds i true).getD 9 false = L.getD 9 false := by rw [sg, if_neg (fun e => h9 e.symm)]
  have s10 : (L.setIfInBounds i true).getD 10 false = L.getD 10 false := by rw [sg, if_neg (fun e => h10 e.symm)]
  have s12 : (L.setIfInBounds i true).getD 12 false = L.getD 12 false := by rw [sg, if_neg (by omega)]
  refine ⟨h.d, by show (a.tmps.setIfInBounds _ _).size = _; rw [Array.size_setIfInBounds]; exact h.sz, fun k hk => by rw [pg, if_neg (by omega)]; exact h.oth k hk, fun j hj hj10 hl => ?_, by rw [s9]; exact h.w0, by rw [s9, s10]; exact h.w1, ?_, by rw [s9, s10]; exact fun e => ⟨(h.o1 e).1, by rw [sg]; split; rfl; exact (h.o1 e).2⟩, by rw [s12, s10]; exact h.o2⟩
  · rw [pg]
    by_cases e : j = i
    · subst e; rw [if_pos rfl]; exact hu
    · rw [if_neg (by omega)]
      rw [sg, if_neg e] at hl
      exact h.f j hj hj10 hl
  · rw [s10, s12]
    intro hl
    obtain ⟨v', w', hA, ht, hw⟩ := h.w2 hl
    exact ⟨v', w', hA, by rw [pg, if_neg (by omega)]; exact ht, hw⟩
theorem Inv14.next9 (h : Inv14 W0 O base n b xi ta tb v m xs a0 L a w) (hL : L.size = 13) (h61 : a0.tmps.size = 61) (h0 : L.getD 9 false = false) :
    w = W0 ∧ Inv14 W0 O base n b xi ta tb v m xs a0 (L.setIfInBounds 9 true) (a.put (some 56) (.slice (some ⟨W0.heap.size, 0, none⟩) 1 1)) (W0.alloc (.cells #[.int .i64 ta, .int .i64 tb] TT)) := by
  have sg := fun j => set_at (listed := L) (i := 9) (j := j) (by omega)
  have pg := put_get (a := a) (d := 56) (v := .slice (some ⟨W0.heap.size, 0, none⟩) 1 1) (by rw [h.sz, h61]; omega)
  have n10 : L.getD 10 false = false := by
    cases e : L.getD 10 false with
    | false => rfl
    | true => rw [(h.o1 e).1] at h0; cases h0
  have n12 : L.getD 12 false = false := by
    cases e : L.getD 12 false with
    | false => rfl
    | true => rw [h.o2 e] at n10; cases n10
  have s10 : (L.setIfInBounds 9 true).getD 10 false = false := by rw [sg, if_neg (by omega)]; exact n10
  have s12 : (L.setIfInBounds 9 true).getD 12 false = false := by rw [sg, if_neg (by omega)]; exact n12
  refine ⟨h.w0 h0, h.d, by show (a.tmps.setIfInBounds _ _).size = _; rw [Array.size_setIfInBounds]; exact h.sz, fun k hk => by rw [pg, if_neg (by omega)]; exact h.oth k hk, fun j hj hj10 hl => ?_, (by rw [sg, if_pos rfl]; intro e; cases e), fun _ _ => rfl, (by rw [s10]; intro e; cases e), (by rw [s10]; intro e; cases e), (by rw [s12]; intro e; cases e)⟩
  rw [pg]
  by_cases e : j = 9
  · subst e; rw [if_pos rfl]; rfl
  · rw [if_neg (by omega)]
    rw [sg, if_neg e] at hl
    exact h.f j hj hj10 hl
theorem Inv14.next10 (h : Inv14 W0 O base n b xi ta tb v m xs a0 L a w) (hL : L.size = 13) (h61 : a0.tmps.size = 61) (h9 : L.getD 9 false = true) (h7 : L.getD 7 false = true) (h0 : L.getD 10 false = false) {v' : Value} {w' : World} (hA : App base (W0.alloc (.cells #[.int .i64 ta, .int .i64 tb] TT)) v m xs (ta, tb) v' w') :
    Inv14 W0 O base n b xi ta tb v m xs a0 (L.setIfInBounds 10 true) (a.put (some 57) v') w' := by
  have sg := fun j => set_at (listed := L) (i := 10) (j := j) (by omega)
  have pg := put_get (a := a) (d := 57) (v := v') (by rw [h.sz, h61]; omega)
  have n12 : L.getD 12 false = false := by
    cases e : L.getD 12 false with
    | false => rfl
    | true => rw [h.o2 e] at h0; cases h0
  have s9 : (L.setIfInBounds 10 true).getD 9 false = true := by rw [sg, if_neg (by omega)]; exact h9
  have s10 : (L.setIfInBounds 10 true).getD 10 false = true := by rw [sg, if_pos rfl]
  have s12 : (L.setIfInBounds 10 true).getD 12 false = false := by rw [sg, if_neg (by omega)]; exact n12
  refine ⟨h.d, by show (a.tmps.setIfInBounds _ _).size = _; rw [Array.size_setIfInBounds]; exact h.sz, fun k hk => by rw [pg, if_neg (by omega)]; exact h.oth k hk, fun j hj hj10 hl => ?_, (by rw [s9]; intro e; cases e), (by rw [s10]; intro _ e; cases e), fun _ => ⟨v', w', hA, by rw [pg, if_pos rfl], by rw [s12]; rfl⟩, fun _ => ⟨s9, by rw [sg, if_neg (by omega)]; exact h7⟩, (by rw [s12]; intro e; cases e)⟩
  rw [pg, if_neg (by omega)]
  rw [sg, if_neg hj10] at hl
  exact h.f j hj hj10 hl
theorem Inv14.next12 (h : Inv14 W0 O base n b xi ta tb v m xs a0 L a w) (hL : L.size = 13) (h10 : L.getD 10 false = true) (h0 : L.getD 12 false = false) {v' : Value} (hv : a.tmps.getD 57 undef = v') :
    Inv14 W0 O base n b xi ta tb v m xs a0 (L.setIfInBounds 12 true) a (w.setCell ⟨O, xi, none⟩ v') := by
  have sg := fun j => set_at (listed := L) (i := 12) (j := j) (by omega)
  have s9 : (L.setIfInBounds 12 true).getD 9 false = true := by rw [sg, if_neg (by omega)]; exact (h.o1 h10).1
  have s10 : (L.setIfInBounds 12 true).getD 10 false = true := by rw [sg, if_neg (by omega)]; exact h10
  have s12 : (L.setIfInBounds 12 true).getD 12 false = true := by rw [sg, if_pos rfl]
  obtain ⟨u, w', hA, ht, hw⟩ := h.w2 h10
  rw [h0] at hw
  simp only [Bool.false_eq_true, if_false] at hw
  subst hw
  have huv : u = v' := ht.symm.trans hv
  subst huv
  refine ⟨h.d, h.sz, h.oth, fun j hj hj10 hl => ?_, (by rw [s9]; intro e; cases e), (by rw [s10]; intro _ e; cases e), fun _ => ⟨u, w, hA, ht, by rw [s12]; rfl⟩, fun _ => ⟨s9, by rw [sg, if_neg (by omega)]; exact (h.o1 h10).2⟩, fun _ => s10⟩
  rw [sg, if_neg (by omega)] at hl
  exact h.f j hj hj10 hl
theorem Inv14.size (h : Inv14 W0 O base n b xi ta tb v m xs a0 L a w) : W0.heap.size ≤ w.heap.size := by
  cases e10 : L.getD 10 false with
  | true =>
    obtain ⟨v', w', hA, -, rfl⟩ := h.w2 e10
    have := hA.grown.size
    simp only [World.size_alloc] at this
    split
    · rw [World.size_setCell]; omega
    · omega
  | false =>
    cases e9 : L.getD 9 false with
    | true => rw [h.w1 e9 e10]; simp
    | false => rw [h.w0 e9]; exact Nat.le_refl _
/-- the blocks that it reads stay as they were -/
theorem Inv14.same (h : Inv14 W0 O base n b xi ta tb v m xs a0 L a w) (k : Nat) (hk : k < W0.heap.size) (hO : k ≠ O) (hv : v.ownBlock ≠ some k) : w.heap[k]? = W0.heap[k]? := by
  cases e10 : L.getD 10 false with
  | true =>
    obtain ⟨v', w', hA, -, rfl⟩ := h.w2 e10
    have h1 : w'.heap[k]? = W0.heap[k]? := (hA.grown.block k (by simp only [World.size_alloc]; omega) (fun e => hv e.symm)).trans (Lib.alloc_old _ _ _ hk)
    split
    · exact (Below.heap_setCell _ _ _ _ (by exact hO)).trans h1
    · exact h1
  | false =>
    cases e9 : L.getD 9 false with
    | true => rw [h.w1 e9 e10]; exact Lib.alloc_old _ _ _ hk
    | false => rw [h.w0 e9]
theorem Inv14.outer (h : Inv14 W0 O base n b xi ta tb v m xs a0 L a w) (h12 : L.getD 12 false = false) (hk : O < W0.heap.size) (hv : v.ownBlock ≠ some O) : w.heap[O]? = W0.heap[O]? := by
  cases e10 : L.getD 10 false with
  | true =>
    obtain ⟨v', w', hA, -, rfl⟩ := h.w2 e10
    rw [h12]
    exact (hA.grown.block O (by simp only [World.size_alloc]; omega) (fun e => hv e.symm)).trans (Lib.alloc_old _ _ _ hk)
  | false =>
    cases e9 : L.getD 9 false with
    | true => rw [h.w1 e9 e10]; exact Lib.alloc_old _ _ _ hk
    | false => rw [h.w0 e9]
theorem Inv14.slot (h : Inv14 W0 O base n b xi ta tb v m xs a0 L a w) (i : Nat) (hi : i < 12) (h10 : i ≠ 10) (hl : L.getD i false = true) : a.tmps[47 + i]?.getD undef = val14 O n b xi W0.heap.size ta tb v i :=
  (Array.getD_eq_getD_getElem?).symm.trans (h.f i hi h10 hl)
end
/-- the rule for this statement -/
theorem reg14_ {F : Fence} {nF : Nat} {P : Program} {ops : Array Oper} {Q : Exit → Act → World → Prop} {id : Nat} {a0 : Act} {W : World} {O base n b xi : Nat} {ta tb : Int} {v : Value} {m : Nat} {xs : List Value} (hm : P.follows .mixedOrders = true) (hA : Ahead ops) (hn : ops.size = 13)
    (step : ∀ (i : Nat) (o : Oper), ops[i]? = some o → ∀ L a w, L.size = 13 → L.getD i false = false → (∀ e ∈ o.after, Region.binds .any e = true → L.getD e.on false = true) → Inv14 W.drew O base n b xi ta tb v m xs a0 L a w → wpOpIn F nF P ops Q i (fun a' w' => Inv14 W.drew O base n b xi ta tb v m xs a0 (L.setIfInBounds i true) a' w') a w)
    (done : ∀ L a w, (∀ j, j < 13 → L.getD j false = true) → Inv14 W.drew O base n b xi ta tb v m xs a0 L a w → Q .normal a w) : (Code.region id ops true).wpIn F nF P Q a0 W := by
  refine regionIn_ (Inv := fun L a w => Inv14 W.drew O base n b xi ta tb v m xs a0 L a w) hm hA ?_ (fun i o ho L a w hs h0 haft hI => step i o ho L a w (hs.trans hn) (by
    rw [Array.getD_eq_getD_getElem?] at h0 ⊢
    cases e : L[i]? with
    | none => rw [e] at h0; cases h0
    | some x => rw [e] at h0; exact h0) haft hI) (fun L a w hall hI => done L a w (fun j hj => hall j (hn ▸ hj)) hI)
  have no : ∀ j, (Array.replicate ops.size false).getD j false = false := fun j => by
    rw [Array.getD_eq_getD_getElem?, Array.getElem?_replicate]; split <;> rfl
  refine ⟨rfl, rfl, fun _ _ => rfl, (fun i _ _ h => by rw [no] at h; cases h), fun _ => rfl, (fun h => by rw [no] at h; cases h), (fun h => by rw [no] at h; cases h), (fun h => by rw [no] at h; cases h), (fun h => by rw [no] at h; cases h)⟩
end RsV
end Go.Proofs.YtlmblfkcmhgdaaaGreat
namespace Go.Proofs.YtlmblfkcmhgdaaaGreat
open Go.RowKit Go.Maps Go.WideMaps
set_option linter.unusedVariables false
set_option linter.unusedSimpArgs false
namespace RsV
open OO OJ RsM RsI RsP RsR RsD RsS RsT RsN OCk
open OI hiding Mid Did
theorem pair_get : ∀ (l : List (Int × Int)) (j : Nat) (t : Int × Int), l[j]? = some t → (pairCells l)[j * 2]? = some (.int .i64 t.1) ∧ (pairCells l)[j * 2 + 1]? = some (.int .i64 t.2)
  | [], j, t, h => by simp at h
  | x :: l, 0, t, h => by
    simp at h
    subst h
    exact ⟨rfl, rfl⟩
  | x :: l, j + 1, t, h => by
    have := pair_get l j t (by simpa using h)
    rw [show (j + 1) * 2 = j * 2 + 1 + 1 by omega]
    rw [show pairCells (x :: l) = .int .i64 x.1 :: .int .i64 x.2 :: pairCells l from rfl]
    simp only [List.getElem?_cons_succ]
    exact this
/-- the rows, as they are answered -/
theorem tgts_at {O base n : Nat} {f : Nat → List (Int × Int)} {vs : List Value} {W : World} (h : TRows O base n f vs W) : TgtsAt W (.slice (some ⟨O, 0, none⟩) n n) ((List.range n).map f) := by
  have hlen : ((List.range n).map f).length = n := by simp
  unfold TgtsAt
  rw [hlen]
  refine ⟨some ⟨O, 0, none⟩, n, rfl, fun h0 => ?_⟩
  rcases h.out.2 with ⟨e, _⟩ | ⟨g, cap, cur, e, _, hg, h1, h2, _, _⟩
  · simp at e
  · simp only [Value.slice.injEq, Option.some.injEq, Addr.mk.injEq, and_true, true_and] at e
    obtain ⟨rfl, rfl⟩ := e
    refine ⟨O, 0, rfl, lt_heap hg, Nat.le_refl _, h2, fun i r hr => ?_⟩
    have hi : i < n := by
      have := (List.getElem?_eq_some_iff.1 hr).1
      rwa [hlen] at this
    have hr : f i = r := by
      rw [List.getElem?_map, List.getElem?_range hi] at hr
      exact Option.some.inj hr
    subst hr
    have hv := List.getElem?_eq_getElem (show i < vs.length by rw [h.len]; exact hi)
    refine ⟨_, by rw [Nat.zero_add]; exact (h.out.cellAt i (by omega)).trans hv, ?_⟩
    have hrow := h.row i _ hv
    generalize vs[i]'(by rw [h.len]; exact hi) = v at hrow
    rcases hrow.2 with ⟨rfl, e⟩ | ⟨g, cap, cur, rfl, hb, hg, h3, h4, _⟩
    · exact ⟨none, 0, by rw [e], fun h0 => by omega⟩
    · refine ⟨some ⟨g, 0, none⟩, cap, rfl, fun _ => ⟨g, 0, rfl, lt_heap hg, h3, h4, fun j t ht => ?_⟩⟩
      have e0 := hrow.cells (g := g) rfl (j * 2) _ (pair_get _ _ _ ht).1
      have e1 := hrow.cells (g := g) rfl (j * 2 + 1) _ (pair_get _ _ _ ht).2
      rw [OO.add_plain, Nat.zero_add] at e0 e1
      rw [Nat.zero_add]
      exact ⟨e0, e1⟩
/-- they lie in new memory -/
theorem tgts_lo {O base n lo : Nat} {f : Nat → List (Int × Int)} {vs : List Value} {W : World} (h : TRows O base n f vs W) (h1 : lo ≤ O) (h2 : lo ≤ base) : TgtsLo lo W (.slice (some ⟨O, 0, none⟩) n n) := by
  intro b o m c e
  simp only [Value.slice.injEq, Option.some.injEq, Addr.mk.injEq, and_true] at e
  obtain ⟨⟨rfl, rfl⟩, rfl, rfl⟩ := e
  refine ⟨h1, fun i hi b' o' m' c' hc => ?_⟩
  have hv := List.getElem?_eq_getElem (show i < vs.length by rw [h.len]; exact hi)
  rw [Nat.zero_add, (h.out.cellAt i (by omega)).trans hv] at hc
  have hc := Option.some.inj hc
  have hrow := h.row i _ hv
  rw [hc] at hrow
  rcases hrow.2 with ⟨e, _⟩ | ⟨g, cap, cur, e, hb, _⟩
  · simp at e
  · simp only [Value.slice.injEq, Option.some.injEq, Addr.mk.injEq, and_true] at e
    obtain ⟨⟨rfl, rfl⟩, -, -⟩ := e
    omega
section
variable {w : World} {F : List Ent} {A M B base n : Nat} {l : List Ent} {W9 w' : World} {x : Ent} {v v' : Value} {vs : List Value} {ta tb : Int} {o : Obj} {m : Nat} {xs : List Value} {f : Nat → List (Int × Int)}
/-- what the store of the row leaves as it was -/
theorem next_low (hrow : W9.ownsRow base TT 2 v m xs) (hz : base ≤ W9.heap.size) (hA : App base (W9.drew.alloc o) v m xs (ta, tb) v' w') (i k : Nat) (hk : k < base) (hne : k ≠ A + 1) : (w'.setCell ⟨A + 1, i, none⟩ v').heap[k]? = W9.heap[k]? :=
  (Below.heap_setCell _ _ _ _ (by exact hne)).trans ((hA.grown.block k (by simp only [World.size_alloc]; show k < W9.heap.size + 1; omega) (fun e => by have := (hrow.lt k e.symm).1; omega)).trans (Lib.alloc_old _ _ _ (by show k < W9.heap.size; omega)))
theorem next_keeps (hrow : W9.ownsRow base TT 2 v m xs) (hz : base ≤ W9.heap.size) (hO : A + 1 < base) (hA : App base (W9.drew.alloc o) v m xs (ta, tb) v' w') (i : Nat) : KeepsFrom base W9 (w'.setCell ⟨A + 1, i, none⟩ v') := by
  have h0 := hA.grown.size
  simp only [World.size_alloc] at h0
  have h0 : W9.heap.size + 1 ≤ w'.heap.size := h0
  refine ⟨by rw [World.size_setCell]; omega, fun k ob hk hob hc => ?_⟩
  refine (Below.heap_setCell _ _ _ _ (by show k ≠ A + 1; omega)).trans ((hA.grown.block k (by simp only [World.size_alloc]; show k < W9.heap.size + 1; have := lt_heap hob; omega) (fun e => ?_)).trans ((Lib.alloc_old _ _ _ (by show k < W9.heap.size; exact lt_heap hob)).trans hob))
  obtain ⟨c, hcc, -⟩ := row_block hrow k e.symm
  rw [hcc] at hob
  cases hob
  cases hc
theorem ri_next (hl : Lay w A M B base) (h : RI w F A M B base n l W9) (hv : TRows (A + 1) base n (fun i => RsT.rowAt F l i) vs W9) (hvi : vs[x.i]? = some v)
    (hA : App base (W9.drew.alloc o) v (RsT.rowAt F l x.i).length (pairCells (RsT.rowAt F l x.i)) (ta, tb) v' w') (ht : tgs F x = (ta, tb)) (hb : RsT.bad F x = false) : RI w F A M B base n (l ++ [x]) (w'.setCell ⟨A + 1, x.i, none⟩ v') := by
  have l1 := hl.m
  have l2 := hl.a
  have l3 := hl.b
  have l4 := hl.z
  have hz := h.zz
  have hrow := hv.row _ _ hvi
  have low : ∀ k, k < base → k ≠ A + 1 → (w'.setCell ⟨A + 1, x.i, none⟩ v').heap[k]? = W9.heap[k]? := fun k hk hne => next_low hrow hz hA x.i k hk hne
  have hbw : Below W9.heap.size W9 (W9.drew.alloc o) := ((Below.refl _ _).drew).alloc (Nat.le_refl _) _
  have hT := TRows.app (hv.below hbw) hvi (by simp only [World.size_alloc]; show base ≤ W9.heap.size + 1; omega) (by omega) hA
  have hlow : ∀ k, v.ownBlock = some k → base ≤ k := fun k hk => (hrow.lt k hk).1
  have h0 := hA.grown.size
  simp only [World.size_alloc] at h0
  have h0 : W9.heap.size + 1 ≤ w'.heap.size := h0
  have g2 : w'.grownBy (w'.setCell ⟨A + 1, x.i, none⟩ v') (some (A + 1)) := ⟨rfl, rfl, rfl, by rw [World.size_setCell]; exact Nat.le_refl _, fun k _ hk => Below.heap_setCell _ _ _ _ (fun e => hk (by rw [show k = A + 1 from e]))⟩
  have hf : (fun j => if j = x.i then RsT.rowAt F l x.i ++ [(ta, tb)] else RsT.rowAt F l j) = fun i => RsT.rowAt F (l ++ [x]) i := by
    funext j
    rw [rowAt_snoc, ht]
    by_cases e : j = x.i
    · subst e; rfl
    · rw [if_neg e, if_neg e]
  rw [hf] at hT
  refine ⟨(low _ (by omega) (by omega)).trans h.c0, (low _ (by omega) (by omega)).trans h.c1, (low _ (by omega) (by omega)).trans h.c2, (low _ (by omega) (by omega)).trans h.a, (low _ (by omega) (by omega)).trans h.b,
    ((h.map.drew.alloc o).kept hA.grown (fun e => by have := hlow _ e.symm; omega)).kept g2 (by simp; omega), ⟨_, hT⟩, fun y hy => ?_, ?_, by rw [World.size_setCell]; omega⟩
  · rcases List.mem_append.1 hy with hy | hy
    · exact h.ok y hy
    · rw [List.mem_singleton.1 hy]; exact hb
  · have hs := h.bel.size
    exact ((h.bel.drew.alloc (by show w.heap.size ≤ W9.heap.size; exact hs) o).grown hA.grown (by simp only [World.size_alloc]; show w.heap.size ≤ W9.heap.size + 1; omega) (fun k hk => by have := hlow k hk; omega)).setCell (by show w.heap.size ≤ A + 1; omega) _
end
theorem trows_set {O base n : Nat} {f : Nat → List (Int × Int)} {vs : List Value} {W : World} (h : TRows O base n f vs W) (k i : Nat) (u : Value) (hk : k < O) (hO : O < base) : TRows O base n f vs (W.setCell ⟨k, i, none⟩ u) := by
  refine h.kept (row := some k) ⟨rfl, rfl, rfl, by rw [World.size_setCell]; exact Nat.le_refl _, fun j _ hj => Below.heap_setCell _ _ _ _ (fun e => hj (by rw [show j = k from e]))⟩ (by simp; omega) (fun j v hv => ?_)
  cases e : v.ownBlock with
  | none => exact .inl rfl
  | some g => exact .inr (fun e2 => by have := ((h.row j v hv).lt g e).1; simp at e2; omega)
theorem trows_fin {O base n : Nat} {f : Nat → List (Int × Int)} {vs : List Value} {W : World} {r D : Nat} {a b c d : Value} (h : TRows O base n f vs W) (hr : r + 2 < O) (hO : O < base) (hD : (fin4 W r a b c d).heap[D]? = some (.deferred (some []))) : TRows O base n f vs ((fin4 W r a b c d).putObj D (.deferred none)) :=
  trows_own (trows_set (trows_set (trows_set (trows_set h r 0 a (by omega) hO) (r + 1) 0 b (by omega) hO) (r + 1) 1 c (by omega) hO) (r + 1 + 1) 0 d (by omega) hO) (grownBy_putObj' _ D _) (fun k e => by cases e; exact ⟨_, hD, rfl⟩)
theorem find_stop {objs : List ObjV} {p : Ent → Bool} {pre0 : List (Fin (flat objs).length)} {x : Fin (flat objs).length} {k : Nat} {h : k ≤ (flat objs).length} (e : pre0 ++ [x] = upto (flat objs).length k h) (hok : ∀ y ∈ pre0.map ent, p y = false) (hb : p (ent x) = true) : (flat objs).find? p = some (ent x) := by
  have h1 : (flat objs).take k = pre0.map ent ++ [ent x] := by
    rw [← map_upto objs k h, ← e, List.map_append]; rfl
  have h2 : (flat objs).find? p = ((flat objs).take k ++ (flat objs).drop k).find? p := by rw [List.take_append_drop]
  rw [h2, List.find?_append, h1, List.find?_append, List.find?_eq_none.2 (fun y hy => by rw [hok y hy]; simp)]
  simp [List.find?_cons, hb]
theorem find_all {l : List Ent} {p : Ent → Bool} (hok : ∀ y ∈ l, p y = false) : l.find? p = none := List.find?_eq_none.2 (fun y hy => by rw [hok y hy]; simp)
end RsV
end Go.Proofs.YtlmblfkcmhgdaaaGreat
namespace Go.Proofs.YtlmblfkcmhgdaaaGreat
open Go.RowKit Go.Maps Go.WideMaps
set_option linter.unusedVariables false
set_option linter.unusedSimpArgs false
namespace RsV
open OO OJ RsM RsI RsP RsR RsD RsS RsT RsN OCk
open OI hiding Mid Did
attribute [local go_sem] Oper.semAt_some
theorem frozen_same {w w' : World} {b : Nat} (h : w'.heap[b]? = w.heap[b]?) (o : Nat) : w'.frozen? ⟨b, o, none⟩ = w.frozen? ⟨b, o, none⟩ := by
  unfold World.frozen?
  rw [show w'.heap[(⟨b, o, none⟩ : Addr).block]? = w.heap[(⟨b, o, none⟩ : Addr).block]? from h]
set_option maxRecDepth 100000 in
set_option maxHeartbeats 16000000 in
theorem resolve_lo_ {w : World} {n₀ : Nat} {v : Value} {objs : List ObjV} (hn : n₀ ≤ w.heap.size) (ho : ObjsAt n₀ w v objs) (hw : ∀ o ∈ objs, o.Wf) (hm : objs.length ≤ 100000) (hms : ∀ o ∈ objs, o.ss.length ≤ maxLen) (hN : (flat objs).length ≤ 100000) :
    Calls Tryz.prog 67 #[v] w (ResLo objs w) := by
  have hmm := @run_makeMap Tryz.prog
  obtain ⟨p, c, rfl, hsl⟩ := ho
  have HO := Lib.hid (⟨p, c, rfl, hsl⟩ : ObjsAt n₀ w (.slice p objs.length c) objs)
  have HW := Lib.hid hw
  have HMS := Lib.hid hms
  have HM := Lib.hid (show objs.length ≤ maxLen by unfold maxLen; omega)
  clear hsl hw hms
  refine (callsIn_wide (n := 8)).1 (callsIn_of_wp_marks Tryz.func67 rfl trivial ?_ rfl)
  simp only [Tryz.ntmps67, List.size_toArray, List.length_cons, List.length_nil, Nat.reduceAdd, Nat.reduceSub, Array.replicate_succ, Array.replicate_zero, List.push_toArray, List.append_toArray, List.nil_append, List.cons_append]
  refine wpIn_wide.2 ?_
  have hb0 : Below w.heap.size w (((w.alloc (.cells #[.slice none 0 0] TR)).alloc (.cells #[.int .i64 0, .int .i64 0] TT)).alloc (.cells #[.int .i64 0] TE)) :=
    (((Below.refl _ _).alloc (Nat.le_refl _) _).alloc (by simp only [World.size_alloc]; omega) _).alloc (by simp only [World.size_alloc]; omega) _
  have ci := index_ (w := ((w.alloc (.cells #[.slice none 0 0] TR)).alloc (.cells #[.int .i64 0, .int .i64 0] TT)).alloc (.cells #[.int .i64 0] TE)) (n₀ := n₀) (by simp only [World.size_alloc]; omega) (ObjsAt.same HO.out (Same.of hb0 hn)) HW.out HM.out
  have x0 : (((w.alloc (.cells #[.slice none 0 0] TR)).alloc (.cells #[.int .i64 0, .int .i64 0] TT)).alloc (.cells #[.int .i64 0] TE)).heap[w.heap.size]? = some (.cells #[.slice none 0 0] TR (0, 0)) := by
    rw [Lib.alloc_old _ _ _ (by simp only [World.size_alloc]; omega), Lib.alloc_old _ _ _ (by simp only [World.size_alloc]; omega)]
    exact heap_alloc_new w _
  have x1 : (((w.alloc (.cells #[.slice none 0 0] TR)).alloc (.cells #[.int .i64 0, .int .i64 0] TT)).alloc (.cells #[.int .i64 0] TE)).heap[w.heap.size + 1]? = some (.cells #[.int .i64 0, .int .i64 0] TT (0, 0)) := by
    rw [Lib.alloc_old _ _ _ (by simp only [World.size_alloc]; omega)]
    have := heap_alloc_new (w.alloc (.cells #[.slice none 0 0] TR)) (.cells #[.int .i64 0, .int .i64 0] TT)
    rwa [World.size_alloc] at this
  have x2 : (((w.alloc (.cells #[.slice none 0 0] TR)).alloc (.cells #[.int .i64 0, .int .i64 0] TT)).alloc (.cells #[.int .i64 0] TE)).heap[w.heap.size + 2]? = some (.cells #[.int .i64 0] TE (0, 0)) := by
    have := heap_alloc_new ((w.alloc (.cells #[.slice none 0 0] TR)).alloc (.cells #[.int .i64 0, .int .i64 0] TT)) (.cells #[.int .i64 0] TE)
    simpa [World.size_alloc] using this
  have hsz : (((w.alloc (.cells #[.slice none 0 0] TR)).alloc (.cells #[.int .i64 0, .int .i64 0] TT)).alloc (.cells #[.int .i64 0] TE)).heap.size = w.heap.size + 3 := by simp
  have HB0 := Lib.hid hb0
  have X0 := Lib.hid x0
  have X1 := Lib.hid x1
  have X2 := Lib.hid x2
  have HZ := Lib.hid hsz
  clear hb0 x0 x1 x2 hsz
  generalize hni : noneFrom objs 0 = ni at *
  have HNI := Lib.hid hni
  clear hni
  by_cases hneg : 0 ≤ ni
  · have hge : decide ((0 : Int) ≤ ni) = true := decide_eq_true hneg
    go_wp2_with (go_at_call 95; (with_reducible refine ci.mono ?_); rintro e w1 ⟨rfl, hb1⟩; have HB1 := Lib.hid hb1; have y0 := (hb1.block _ (by rw [HZ.out]; omega)).trans X0.out; have y1 := (hb1.block _ (by rw [HZ.out]; omega)).trans X1.out; have y2 := (hb1.block _ (by rw [HZ.out]; omega)).trans X2.out; have k0 : w1.cell? ⟨w.heap.size, 0, none⟩ = some (.slice none 0 0) := Lib.cell_of_heap y0 0; have k1 : w1.cell? ⟨w.heap.size + 1, 0, none⟩ = some (.int .i64 0) := Lib.cell_of_heap y1 0; have k2 : w1.cell? ⟨w.heap.size + 1, 1, none⟩ = some (.int .i64 0) := Lib.cell_of_heap y1 1; have k3 : w1.cell? ⟨w.heap.size + 1 + 1, 0, none⟩ = some (.int .i64 0) := Lib.cell_of_heap y2 0; have f0 : w1.frozen? ⟨w.heap.size, 0, none⟩ = false := Lib.frozen_of_heap y0 0; have f1 : w1.frozen? ⟨w.heap.size + 1, 0, none⟩ = false := Lib.frozen_of_heap y1 0; have f2 : w1.frozen? ⟨w.heap.size + 1, 1, none⟩ = false := Lib.frozen_of_heap y1 1; have f3 : w1.frozen? ⟨w.heap.size + 1 + 1, 0, none⟩ = false := Lib.frozen_of_heap y2 0; have Y0 := Lib.hid y0; have Y1 := Lib.hid y1; have Y2 := Lib.hid y2; clear hb1 ci y0 y1 y2)
    have h4 := fin4_ Y0.out Y1.out Y2.out (.slice none 0 0) (.int .i64 ni) (.int .i64 0) (.int .i64 2)
    obtain ⟨q0, q1, q2, q3⟩ := h4.cells
    have H4 := Lib.hid h4
    clear h4
    show bodyPostM Fence.wide 8 Tryz.prog Tryz.f67 (ResLo objs w) Exit.ret _ (fin4 w1 w.heap.size (.slice none 0 0) (.int .i64 ni) (.int .i64 0) (.int .i64 2))
    generalize fin4 w1 w.heap.size (.slice none 0 0) (.int .i64 ni) (.int .i64 0) (.int .i64 2) = W4 at *
    refine ⟨.tuple #[.slice none 0 0, .agg #[.int .i64 ni, .int .i64 0], .int .i64 2], by simp [results, Tryz.results67, go_sem, q0, q1, q2, q3], .slice none 0 0, ni, 0, 2, rfl, ?_, ?_, tgts_lo_none _ _⟩
    · unfold Out
      rw [HNI.out, if_pos hneg]
      exact ⟨rfl, rfl, rfl, rfl⟩
    · exact H4.out.below (HB0.out.trans (HB1.out.mono (by rw [HZ.out]; omega))) (by have := HB1.out.size; rw [HZ.out] at this; omega)
  · go_upto_region 4 with (go_at_call 95; (with_reducible refine ci.mono ?_); rintro e w1 ⟨rfl, hb1⟩; have HB1 := Lib.hid hb1; clear hb1 ci)
    have hs1 := HB1.out.size
    rw [HZ.out] at hs1
    have hbw1 : Below w.heap.size w w1 := HB0.out.trans (HB1.out.mono (by rw [HZ.out]; omega))
    have cd := def2_ (w := w1) (n₀ := n₀) (by omega) (ObjsAt.same HO.out (Same.of hbw1 hn)) HW.out HM.out HMS.out hN
    have Y0 := Lib.hid ((HB1.out.block _ (by rw [HZ.out]; omega)).trans X0.out)
    have Y1 := Lib.hid ((HB1.out.block _ (by rw [HZ.out]; omega)).trans X1.out)
    have Y2 := Lib.hid ((HB1.out.block _ (by rw [HZ.out]; omega)).trans X2.out)
    have HBW1 := Lib.hid hbw1
    clear hbw1 HB1 HB0 X0 X1 X2 HZ
    cases hag : againL (flat objs) with
    | cons x l =>
      have HAG := Lib.hid hag
      rw [hag] at cd
      clear hag
      simp only [List.length_cons] at cd
      go_upto_region 6 with (go_at_call 94; (with_reducible refine cd.mono ?_); rintro e w3 ⟨qa, ca, rfl, -, hrow, hb3, hz3⟩; have HROW := Lib.hid hrow; have HB3 := Lib.hid hb3; clear hrow hb3 cd)
      obtain ⟨g, rfl, hg1, hg2, hg3, hg4⟩ : ∃ g, qa = some ⟨g, 0, none⟩ ∧ w1.heap.size + 4 ≤ g ∧ g < w3.heap.size ∧ w3.cell? ⟨g, 0, none⟩ = some (.int .i64 (x.i : Int)) ∧ w3.cell? ⟨g, 1, none⟩ = some (.int .i64 (x.k : Int)) := by
        rcases HROW.out.2 with ⟨h, _⟩ | ⟨g, cap, cur, h, hb, hg, _⟩
        · simp at h
        · simp only [Value.slice.injEq] at h
          obtain ⟨rfl, -, rfl⟩ := h
          have c0 := HROW.out.cells (g := g) rfl 0 (.int .i64 (x.i : Int)) rfl
          have c1 := HROW.out.cells (g := g) rfl 1 (.int .i64 (x.k : Int)) rfl
          rw [OO.add_plain, Nat.zero_add] at c0 c1
          exact ⟨g, rfl, hb, lt_heap hg, c0, c1⟩
      have z0 := (Lib.alloc_old w3 (.cells #[.map (some (w1.heap.size + 2))] TM) _ (by omega)).trans ((HB3.out.block _ (by omega)).trans Y0.out)
      have z1 := (Lib.alloc_old w3 (.cells #[.map (some (w1.heap.size + 2))] TM) _ (by omega)).trans ((HB3.out.block _ (by omega)).trans Y1.out)
      have z2 := (Lib.alloc_old w3 (.cells #[.map (some (w1.heap.size + 2))] TM) _ (by omega)).trans ((HB3.out.block _ (by omega)).trans Y2.out)
      have e0 := (World.cell?_alloc_lt w3 (.cells #[.map (some (w1.heap.size + 2))] TM) (⟨g, 0, none⟩ : Addr) hg2).trans hg3
      have e1 := (World.cell?_alloc_lt w3 (.cells #[.map (some (w1.heap.size + 2))] TM) (⟨g, 1, none⟩ : Addr) hg2).trans hg4
      have hbw : Below w.heap.size w (w3.alloc (.cells #[.map (some (w1.heap.size + 2))] TM)) := (HBW1.out.trans (HB3.out.mono (by omega))).alloc (by have := HB3.out.size; omega) _
      have hsw : w.heap.size ≤ (w3.alloc (.cells #[.map (some (w1.heap.size + 2))] TM)).heap.size := hbw.size
      have HBW := Lib.hid hbw
      have Z0 := Lib.hid z0
      have Z1 := Lib.hid z1
      have Z2 := Lib.hid z2
      have mixed : Tryz.prog.follows Departure.mixedOrders = true := by kernel_rfl
      have k0 := Lib.cell_of_heap z0 0
      have k1 := Lib.cell_of_heap z1 0
      have k2 := Lib.cell_of_heap z1 1
      have k3 := Lib.cell_of_heap z2 0
      have f0 := Lib.frozen_of_heap z0 0
      have f1 := Lib.frozen_of_heap z1 0
      have f2 := Lib.frozen_of_heap z1 1
      have f3 := Lib.frozen_of_heap z2 0
      simp only [List.getElem?_toArray, List.getElem?_cons_zero, List.getElem?_cons_succ] at k0 k1 k2 k3
      have n1 : ¬ w.heap.size + 1 = g := by omega
      clear z0 z1 z2 hg3 hg4 hbw
      generalize w3.alloc (.cells #[.map (some (w1.heap.size + 2))] TM) = w4 at *
      go_region
      go_wp2_with fail
      have h4 := (fin4_ Z0.out Z1.out Z2.out (.slice none 0 0) (.int .i64 (x.i : Int)) (.int .i64 (x.k : Int)) (.int .i64 4)).drew
      obtain ⟨q0, q1, q2, q3⟩ := h4.cells
      have H4 := Lib.hid h4
      clear h4
      show bodyPostM Fence.wide 8 Tryz.prog Tryz.f67 (ResLo objs w) Exit.ret _ (fin4 w4 w.heap.size (.slice none 0 0) (.int .i64 (x.i : Int)) (.int .i64 (x.k : Int)) (.int .i64 4)).drew
      generalize (fin4 w4 w.heap.size (.slice none 0 0) (.int .i64 (x.i : Int)) (.int .i64 (x.k : Int)) (.int .i64 4)).drew = W4 at *
      refine ⟨.tuple #[.slice none 0 0, .agg #[.int .i64 (x.i : Int), .int .i64 (x.k : Int)], .int .i64 4], by simp [results, Tryz.results67, go_sem, q0, q1, q2, q3], .slice none 0 0, x.i, x.k, 4, rfl, ?_, ?_, tgts_lo_none _ _⟩
      · unfold Out
        rw [HNI.out, if_neg (by omega), HAG.out]
        exact ⟨rfl, rfl, rfl, rfl⟩
      · exact H4.out.below HBW.out hsw
    | nil =>
      have HAG := Lib.hid hag
      rw [hag] at cd
      clear hag
      simp only [List.length_nil] at cd
      obtain ⟨i0, hi, hz0, hz1, hz2⟩ := info_parts infoR
      go_wp2_with (first
        | (go_at_call 94; (with_reducible refine cd.mono ?_); rintro e w3 ⟨qa, ca, rfl, hmap, -, hb3, hz3⟩; have HMAP := Lib.hid hmap; have HB3 := Lib.hid hb3; clear hmap hb3 cd)
        | (at_make; refine wpList_make_full _ rfl _ _ TR rfl (w3.heap.size + 1) TS i0 (.slice none 0 0) 1 Tryz.underlying77 hi hz0 hz1 .i64 .i64 (objs.length : Int) (objs.length : Int) objs.length rfl rfl rfl rfl (by rw [hz2]; omega) (by unfold maxLen; omega) (by simp) ?_; intro w5 hout hg5; have HOUT := Lib.hid hout; have HG5 := Lib.hid hg5; clear hout hg5)
        | (go_at_call 97; (with_reducible refine (symbols_ _ _ _ _).mono ?_); rintro e w7 ⟨rfl, hw7⟩; have HW7 := Lib.hid hw7; clear hw7))
      have h3z := HB3.out.size
      have h5z := HG5.out.size
      simp only [World.size_alloc] at h5z
      have hO5 : w3.heap.size + 1 < w5.heap.size := by
        have := (HOUT.out.lt _ rfl).2
        simpa only [World.size_alloc] using this
      have hbw3 : Below w.heap.size w w3 := HBW1.out.trans (HB3.out.mono (by omega))
      have hb5 : Below w.heap.size w w5 := (hbw3.alloc hbw3.size _).grown HG5.out (by simp only [World.size_alloc]; omega) (fun k hk => by cases hk)
      have hs7 : w7.heap.size = w5.heap.size + 2 := by rw [HW7.out]; simp
      have low7 : ∀ k, k < w5.heap.size → w7.heap[k]? = w5.heap[k]? := fun k hk => by
        rw [HW7.out, Lib.alloc_old _ _ _ (by simp only [World.size_alloc]; omega), Lib.alloc_old _ _ _ hk]
      have low5 : ∀ k, k < w3.heap.size → w5.heap[k]? = w3.heap[k]? := fun k hk => (HG5.out.block k (by simp only [World.size_alloc]; omega) (by simp)).trans (Lib.alloc_old _ _ _ hk)
      have hb7 : Below w.heap.size w w7 := by
        rw [HW7.out]
        exact (hb5.alloc hb5.size _).alloc (by simp only [World.size_alloc]; have := hb5.size; omega) _
      have hlay : Lay w w3.heap.size (w1.heap.size + 2) w5.heap.size w7.heap.size := ⟨by omega, by omega, by omega, by omega⟩
      have xa : w7.heap[w3.heap.size]? = some (.cells #[.map (some (w1.heap.size + 2))] TM (0, 0)) :=
        (low7 _ (by omega)).trans ((HG5.out.block _ (by simp only [World.size_alloc]; omega) (by simp)).trans (heap_alloc_new w3 _))
      have xb : w7.heap[w5.heap.size]? = some (.cells #[.slice (some ⟨w3.heap.size + 1, 0, none⟩) objs.length objs.length] TR (0, 0)) := by
        rw [HW7.out, Lib.alloc_old _ _ _ (by simp only [World.size_alloc]; omega)]
        exact heap_alloc_new w5 _
      have xs : w7.heap[w5.heap.size + 1]? = some (.cells #[.slice p objs.length c] 22 (0, 0)) := by
        rw [HW7.out]
        have := heap_alloc_new (w5.alloc (.cells #[.slice (some ⟨w3.heap.size + 1, 0, none⟩) objs.length objs.length] TR)) (.cells #[.slice p objs.length c] 22)
        rwa [World.size_alloc] at this
      have gr7 : w3.grownBy w7 none := ⟨by rw [HW7.out]; exact HG5.out.os, by rw [HW7.out]; exact HG5.out.tape, by rw [HW7.out]; exact HG5.out.output, by omega, fun k hk _ => (low7 k (by omega)).trans (low5 k hk)⟩
      have g57 : w5.grownBy w7 none := ⟨by rw [HW7.out]; rfl, by rw [HW7.out]; rfl, by rw [HW7.out]; rfl, by omega, fun k hk _ => low7 k hk⟩
      have xm := HMAP.out.kept gr7 (by simp)
      have hout := HOUT.out
      simp only [World.size_alloc] at hout
      have xo := hout.kept g57 (.inr (by simp [Value.ownBlock]))
      have hvs : (madeCells (Value.slice none 0 0).cells (objs.length * 1)).toList = List.replicate objs.length (.slice none 0 0) := made_nil _
      rw [hvs] at xo
      have hri : RI w (flat objs) w3.heap.size (w1.heap.size + 2) w5.heap.size w7.heap.size objs.length [] w7 := by
        refine ⟨(low7 _ (by omega)).trans ((low5 _ (by omega)).trans ((HB3.out.block _ (by omega)).trans Y0.out)), (low7 _ (by omega)).trans ((low5 _ (by omega)).trans ((HB3.out.block _ (by omega)).trans Y1.out)), (low7 _ (by omega)).trans ((low5 _ (by omega)).trans ((HB3.out.block _ (by omega)).trans Y2.out)), xa, xb, xm, ⟨_, by simp, xo, fun i v hv => ?_, fun i j u v hij hu hv => ?_⟩, fun x hx => by simp at hx, hb7, Nat.le_refl _⟩
        · obtain ⟨-, rfl⟩ := rep_get hv
          exact World.ownsRow_nil _ _ _ _
        · obtain ⟨-, rfl⟩ := rep_get hu
          exact .inl rfl
      have hbox : w7.cell? ⟨w5.heap.size + 1, 0, none⟩ = some (.slice p objs.length c) := Lib.cell_of_heap xs 0
      have hobj : ObjsAt n₀ w7 (.slice p objs.length c) objs := ObjsAt.same HO.out (Same.of hb7 hn)
      have HRI := Lib.hid hri
      have HLAY := Lib.hid hlay
      clear HW7 hbw3 hb5 low7 low5 hb7 xa xb xs gr7 g57 xm hout xo hvs hri HOUT HG5 HMAP HB3 Y0 Y1 Y2 HBW1 hlay
      refine (wpIn_wide (n := 8)).1 ?_
      refine range2_ (α := Fin (flat objs).length) (w0 := w7) rfl (by omega) (gf := 118) (lb := #[.pointer (some ⟨w5.heap.size + 1, 0, none⟩)]) rfl trivial (enters_of Tryz.func118 (by kernel_rfl) rfl)
        (iter_ (8 - 1) (by omega) (w5.heap.size + 1) n₀ _ objs HM.out HMS.out w7 (by omega) (by omega) hbox hobj) (fun h k => h.trans k) (fun W l o o' hl _ _ _ => Kp.put W l o' (by omega) (by omega)) (Below.refl _ _) (fun _ => rfl)
        (fun pre W => RI w (flat objs) w3.heap.size (w1.heap.size + 2) w5.heap.size w7.heap.size objs.length (pre.map ent) W) (IX w objs) (fun s W W' row h hg hr => RI.own HLAY.out (s.map ent) W W' row h hg hr) (fun c => IX.own (by omega) c) HRI.out
        (fun x b c W => BX w3.heap.size w7.heap.size (ent x) b c W) (fun x b c => BX.own (by omega) (by omega) _ _ _) ?ab ?done ?stop
      case ab =>
        clear hbox hobj HRI
        apply Exists.intro
        constructor
        · intro l pre x W K hI hK
          gi_wp2
          have kb : Below W.heap.size W ((W.alloc (.cells #[.int .i64 ((ent x).i : Int), .int .i64 ((ent x).k : Int)] TT)).alloc (.cells #[.string (ent x).s.name, .int .i64 (ent x).s.sect, .int .i64 (ent x).s.val, .int .i64 (ent x).s.frame, .bool (ent x).s.glob] 57)) := ((Below.refl _ _).alloc (Nat.le_refl _) _).alloc (by simp) _
          have kf := (((KeepsOthers.alloc W (.cells #[.int .i64 ((ent x).i : Int), .int .i64 ((ent x).k : Int)] TT)).trans (KeepsOthers.alloc _ (.cells #[.string (ent x).s.name, .int .i64 (ent x).s.sect, .int .i64 (ent x).s.val, .int .i64 (ent x).s.frame, .bool (ent x).s.glob] 57))).from w7.heap.size)
          have hz := hI.zz
          have kp : Kp n₀ (w5.heap.size + 1) W _ := Kp.of kb (by omega) (by omega)
          have ki := RI.below HLAY.out hI kb
          have kv : BX w3.heap.size w7.heap.size (ent x) W.heap.size (W.heap.size + 1) ((W.alloc (.cells #[.int .i64 ((ent x).i : Int), .int .i64 ((ent x).k : Int)] TT)).alloc (.cells #[.string (ent x).s.name, .int .i64 (ent x).s.sect, .int .i64 (ent x).s.val, .int .i64 (ent x).s.frame, .bool (ent x).s.glob] 57)) :=
            ⟨⟨(Lib.alloc_old _ _ _ (by simp)).trans (heap_alloc_new _ _), by have := heap_alloc_new (W.alloc (.cells #[.int .i64 ((ent x).i : Int), .int .i64 ((ent x).k : Int)] TT)) (.cells #[.string (ent x).s.name, .int .i64 (ent x).s.sect, .int .i64 (ent x).s.val, .int .i64 (ent x).s.frame, .bool (ent x).s.glob] 57); rwa [World.size_alloc] at this, hz, by omega⟩,
             low_rows hI.rows (by omega) kb, by omega⟩
          clear kb hz
          generalize hb : W.heap.size = b at kv ⊢
          generalize hd : b + 1 = d at kv ⊢
          exact hK b d _ kf kp ki kv
        · intro l pre x b d W hI hV hlt
          have hz := hI.zz
          have hbz := hI.bel.size
          have l1 := HLAY.out.m
          have l2 := HLAY.out.a
          have l3 := HLAY.out.b
          have l4 := HLAY.out.z
          have ka : W.cell? ⟨w3.heap.size, 0, none⟩ = some (.map (some (w1.heap.size + 2))) := Lib.cell_of_heap hI.a 0
          have b0 : W.cell? ⟨b, 0, none⟩ = some (.int .i64 ((ent x).i : Int)) := Lib.cell_of_heap hV.v.v0 0
          have b1 : W.cell? ⟨b, 1, none⟩ = some (.int .i64 ((ent x).k : Int)) := Lib.cell_of_heap hV.v.v0 1
          have d0 : W.cell? ⟨d, 0, none⟩ = some (.string (ent x).s.name) := Lib.cell_of_heap hV.v.v1 0
          have d1 : W.cell? ⟨d, 1, none⟩ = some (.int .i64 (ent x).s.sect) := Lib.cell_of_heap hV.v.v1 1
          have d2 : W.cell? ⟨d, 2, none⟩ = some (.int .i64 (ent x).s.val) := Lib.cell_of_heap hV.v.v1 2
          have d3 : W.cell? ⟨d, 3, none⟩ = some (.int .i64 (ent x).s.frame) := Lib.cell_of_heap hV.v.v1 3
          have d4 : W.cell? ⟨d, 4, none⟩ = some (.bool (ent x).s.glob) := Lib.cell_of_heap hV.v.v1 4
          have bl := lt_heap hV.v.v0
          have dl := lt_heap hV.v.v1
          obtain ⟨oo, hoo, hss⟩ := mem_flat (List.getElem_mem x.2)
          have hnm : (ent x).s.name.size ≤ maxLen := ((HW.out oo (List.mem_of_getElem? hoo)).ss _ (List.mem_of_getElem? hss)).name
          have hxi : (ent x).i < objs.length := (List.getElem?_eq_some_iff.1 hoo).1
          have KT := target_ (ent x) hI.map hnm
          have HI := Lib.hid hI
          have HV := Lib.hid hV
          have HPRE := Lib.hid (show (pre ++ [x]).map ent = pre.map ent ++ [ent x] by simp)
          have HLEN := Lib.hid hlt
          obtain ⟨r, hr⟩ : ∃ r, r = tgI (flat objs) (ent x) := ⟨_, rfl⟩
          rw [← hr] at KT
          have HBAD := Lib.hid (show RsT.bad (flat objs) (ent x) = !r.2.2 by unfold RsT.bad; rw [← hr])
          have HTGS := Lib.hid (show tgs (flat objs) (ent x) = (r.1, r.2.1) by unfold tgs; rw [← hr])
          obtain ⟨ta, tb, hh⟩ := r
          simp only at KT HBAD HTGS
          clear hI hV hoo hss hlt hr
          have HY : Hid (ent x = ent x) := Lib.hid rfl
          generalize hy : ent x = y at *
          have HYX := Lib.hid hy
          clear hy HY
          cases hh with
          | false =>
            gi_wp2_with (refine ⟨trivial, ?_⟩; gi_at_call 98; (with_reducible refine (CallsIn.inRound l (callsIn_wide.2 KT)).mono ?_); rintro e W3 ⟨rfl, hb3⟩; have HB3 := Lib.hid hb3; have m0 := (hb3.block b bl).trans HV.out.v.v0; have e0 : W3.cell? ⟨b, 0, none⟩ = some (.int .i64 (y.i : Int)) := Lib.cell_of_heap m0 0; have e1 : W3.cell? ⟨b, 1, none⟩ = some (.int .i64 (y.k : Int)) := Lib.cell_of_heap m0 1; have bl3 := lt_heap m0; clear hb3 m0)
            have hw9 : Below W.heap.size W (W3.alloc (.cells #[.int .i64 ta, .int .i64 tb] TT)) := HB3.out.alloc HB3.out.size _
            have z0 := (hw9.block _ (by omega)).trans HI.out.c0
            have z1 := (hw9.block _ (by omega)).trans HI.out.c1
            have z2 := (hw9.block _ (by omega)).trans HI.out.c2
            have g0 := (World.cell?_alloc_lt W3 (.cells #[.int .i64 ta, .int .i64 tb] TT) (⟨b, 0, none⟩ : Addr) bl3).trans e0
            have g1 := (World.cell?_alloc_lt W3 (.cells #[.int .i64 ta, .int .i64 tb] TT) (⟨b, 1, none⟩ : Addr) bl3).trans e1
            have Z0 := Lib.hid z0
            have Z1 := Lib.hid z1
            have Z2 := Lib.hid z2
            have HW9 := Lib.hid hw9
            have mixed : Tryz.prog.follows Departure.mixedOrders = true := by kernel_rfl
            have k0 := Lib.cell_of_heap z0 0
            have k1 := Lib.cell_of_heap z1 0
            have k2 := Lib.cell_of_heap z1 1
            have k3 := Lib.cell_of_heap z2 0
            have f0 := Lib.frozen_of_heap z0 0
            have f1 := Lib.frozen_of_heap z1 0
            have f2 := Lib.frozen_of_heap z1 1
            have f3 := Lib.frozen_of_heap z2 0
            simp only [List.getElem?_toArray, List.getElem?_cons_zero, List.getElem?_cons_succ] at k0 k1 k2 k3
            have n1 : ¬ w.heap.size + 1 = b := by have := HV.out.v.lb; omega
            have n2 : ¬ w.heap.size = b := by have := HV.out.v.lb; omega
            have n3 : ¬ w.heap.size + 2 = b := by have := HV.out.v.lb; omega
            clear z0 z1 z2 hw9 e0 e1
            generalize W3.alloc (.cells #[.int .i64 ta, .int .i64 tb] TT) = W9 at *
            gi_region_with_o (fail)
            all_goals gi_wp2
            all_goals
              have h4 := (fin4_ Z0.out Z1.out Z2.out (.slice none 0 0) (.int .i64 (y.i : Int)) (.int .i64 (y.k : Int)) (.int .i64 3)).drew
              have hsz9 := HW9.out.size
              refine (show KeepsFrom w7.heap.size W (fin4 W9 w.heap.size (.slice none 0 0) (.int .i64 (y.i : Int)) (.int .i64 (y.k : Int)) (.int .i64 3)).drew ∧ IX w objs .ret (pre ++ [x]) (fin4 W9 w.heap.size (.slice none 0 0) (.int .i64 (y.i : Int)) (.int .i64 (y.k : Int)) (.int .i64 3)).drew from ⟨⟨by rw [h4.sz]; exact hsz9, fun k o hk ho hc => ?_⟩, rfl, pre, x, rfl, HI.out.ok, ?_, h4.h0, ?_, h4.h2, h4.below (HI.out.bel.trans (HW9.out.mono hbz)) (by omega)⟩)
              · exact (h4.oth k (by omega) (by omega) (by omega)).trans ((HW9.out.block k (lt_heap ho)).trans ho)
              · rw [HYX.out, HBAD.out]; rfl
              · rw [HYX.out]; exact h4.h1
          | true =>
            gi_wp2_with (refine ⟨trivial, ?_⟩; gi_at_call 98; (with_reducible refine (CallsIn.inRound l (callsIn_wide.2 KT)).mono ?_); rintro e W3 ⟨rfl, hb3⟩; have HB3 := Lib.hid hb3; have m0 := (hb3.block b bl).trans HV.out.v.v0; have e0 : W3.cell? ⟨b, 0, none⟩ = some (.int .i64 (y.i : Int)) := Lib.cell_of_heap m0 0; have e1 : W3.cell? ⟨b, 1, none⟩ = some (.int .i64 (y.k : Int)) := Lib.cell_of_heap m0 1; have bl3 := lt_heap m0; clear hb3 m0)
            have hw9 : Below W.heap.size W (W3.alloc (.cells #[.int .i64 ta, .int .i64 tb] TT)) := HB3.out.alloc HB3.out.size _
            have hri := RI.below HLAY.out HI.out hw9
            obtain ⟨vs, hv⟩ := hri.rows
            have hvl : y.i < vs.length := by rw [hv.len]; exact hxi
            have hvi := List.getElem?_eq_getElem hvl
            have hrow := hv.row _ _ hvi
            obtain ⟨qv, mv, kv, hqv⟩ := row_slice hrow
            have hcv : (W3.alloc (.cells #[.int .i64 ta, .int .i64 tb] TT)).cell? ⟨w3.heap.size + 1, y.i, none⟩ = some (.slice qv mv kv) := by
              rw [hv.out.cellAt y.i (by omega), hvi, hqv]
            have hfv : (W3.alloc (.cells #[.int .i64 ta, .int .i64 tb] TT)).frozen? ⟨w3.heap.size + 1, y.i, none⟩ = false := hv.out.frozenAt y.i
            have hOz : w3.heap.size + 1 < W.heap.size := by omega
            have hlowv : ∀ k, (Value.slice qv mv kv).ownBlock = some k → w7.heap.size ≤ k ∧ k < b := fun k hk => by
              refine ⟨(hrow.lt k (by rw [hqv]; exact hk)).1, ?_⟩
              cases qv with
              | none => cases hk
              | some q =>
                have hk : q.block = k := Option.some.inj hk
                subst hk
                exact HV.out.low y.i q mv kv ((hw9.cell (p := ⟨w3.heap.size + 1, y.i, none⟩) hOz).symm.trans hcv)
            rw [hqv] at hrow hvi
            have hbb := HV.out.v.lb
            have h9 := (hw9.block _ bl).trans HV.out.v.v0
            have h11 := heap_alloc_new W3 (.cells #[.int .i64 ta, .int .i64 tb] TT)
            have hs3 := HB3.out.size
            have hz3 := hw9.size
            have hlen2 : (RsT.rowAt (flat objs) (pre.map ent) y.i).length ≤ 100000 := Nat.le_trans (rowAt_le _ _ _) (by rw [List.length_map]; have := HLEN.out; omega)
            have hsz9 : (W3.alloc (.cells #[.int .i64 ta, .int .i64 tb] TT)).heap.size = W3.heap.size + 1 := World.size_alloc _ _
            have HROW := Lib.hid hrow
            have HV9 := Lib.hid hv
            have HVI := Lib.hid hvi
            have HB := Lib.hid (show (W3.alloc (.cells #[.int .i64 ta, .int .i64 tb] TT)).drew.heap[w5.heap.size]? = _ from hri.b)
            have HB9 := Lib.hid (show (W3.alloc (.cells #[.int .i64 ta, .int .i64 tb] TT)).drew.heap[b]? = _ from h9)
            have HC := Lib.hid (show (W3.alloc (.cells #[.int .i64 ta, .int .i64 tb] TT)).drew.heap[W3.heap.size]? = _ from h11)
            have HCV := Lib.hid (show (W3.alloc (.cells #[.int .i64 ta, .int .i64 tb] TT)).drew.cell? ⟨w3.heap.size + 1, y.i, none⟩ = _ from hcv)
            have HFV := Lib.hid (show (W3.alloc (.cells #[.int .i64 ta, .int .i64 tb] TT)).drew.frozen? ⟨w3.heap.size + 1, y.i, none⟩ = _ from hfv)
            have HRI9 := Lib.hid hri
            have HW9 := Lib.hid hw9
            have hb3' : b < W3.heap.size := bl3
            clear hrow hv hvi h9 h11 hcv hfv hri hw9 e0 e1 hqv
            generalize W3.alloc (.cells #[.int .i64 ta, .int .i64 tb] TT) = W9 at *
            have hz9 : w7.heap.size ≤ W9.drew.heap.size := by show _ ≤ W9.heap.size; omega
            have hB1 : w5.heap.size < W9.drew.heap.size := by show _ < W9.heap.size; omega
            have hb1 : b < W9.drew.heap.size := by show _ < W9.heap.size; omega
            have hc1 : W3.heap.size < W9.drew.heap.size := by show _ < W9.heap.size; omega
            have hO1 : w3.heap.size + 1 < W9.drew.heap.size := by show _ < W9.heap.size; omega
            have hB2 : (Value.slice qv mv kv).ownBlock ≠ some w5.heap.size := fun e => by have := hlowv _ e; omega
            have hb2 : (Value.slice qv mv kv).ownBlock ≠ some b := fun e => by have := hlowv _ e; omega
            have hc2 : (Value.slice qv mv kv).ownBlock ≠ some W3.heap.size := fun e => by have := hlowv _ e; omega
            have hO2 : (Value.slice qv mv kv).ownBlock ≠ some (w3.heap.size + 1) := fun e => by have := hlowv _ e; omega
            have hx0 : (0 : Int) ≤ (y.i : Int) := by omega
            have HS7 := Lib.hid hs7
            have HSZ9 := Lib.hid hsz9
            clear hs7 hsz9
            refine reg14_ (O := w3.heap.size + 1) (base := w7.heap.size) (n := objs.length) (b := b) (xi := y.i) (ta := ta) (tb := tb) (v := .slice qv mv kv) (m := (RsT.rowAt (flat objs) (pre.map ent) y.i).length) (xs := pairCells (RsT.rowAt (flat objs) (pre.map ent) y.i)) (by kernel_rfl) (ahead_of (by kernel_rfl)) rfl ?step14 ?done14
            case step14 =>
              intro i op hop L a W1 hs h0 haft hI
              have hi : i < 13 := (Array.getElem?_eq_some_iff.1 hop).1
              have h61 : (61 : Nat) = 61 := rfl
              match i, hi with
                | 0, _ =>
                  cases hop
                  refine opIn_ rfl rfl ?_
                  have t8 : a.tmps[8]?.getD undef = .pointer (some ⟨w5.heap.size, 0, none⟩) := (Array.getD_eq_getD_getElem?).symm.trans ((hI.oth 8 (by omega)).trans rfl)
                  have c8 : W1.cell? ⟨w5.heap.size, 0, none⟩ = some (.slice (some ⟨w3.heap.size + 1, 0, none⟩) objs.length objs.length) := Lib.cell_of_heap ((hI.same _ hB1 (by omega) hB2).trans HB.out) 0
                  have HI2 := Lib.hid hI
                  clear hI
                  go_simp
                  exact HI2.out.next hs h61 0 (by omega) (by omega) (by omega) _ rfl
                | 1, _ =>
                  cases hop
                  refine opIn_ rfl rfl ?_
                  have t9 : a.tmps[9]?.getD undef = .pointer (some ⟨b, 0, none⟩) := (Array.getD_eq_getD_getElem?).symm.trans ((hI.oth 9 (by omega)).trans rfl)
                  have HI2 := Lib.hid hI
                  clear hI
                  go_simp
                  exact HI2.out.next hs h61 1 (by omega) (by omega) (by omega) _ rfl
                | 2, _ =>
                  cases hop
                  refine opIn_ rfl rfl ?_
                  have t48 : a.tmps[48]?.getD undef = _ := hI.slot 1 (by omega) (by omega) (haft ⟨1, .data⟩ (by simp) rfl)
                  simp only [val14] at t48
                  have c9 : W1.cell? ⟨b, 0, none⟩ = some (.int .i64 (y.i : Int)) := Lib.cell_of_heap ((hI.same _ hb1 (by omega) hb2).trans HB9.out) 0
                  have HI2 := Lib.hid hI
                  clear hI
                  go_simp
                  exact HI2.out.next hs h61 2 (by omega) (by omega) (by omega) _ rfl
                | 3, _ =>
                  cases hop
                  refine opIn_ rfl rfl ?_
                  have t8 : a.tmps[8]?.getD undef = .pointer (some ⟨w5.heap.size, 0, none⟩) := (Array.getD_eq_getD_getElem?).symm.trans ((hI.oth 8 (by omega)).trans rfl)
                  have c8 : W1.cell? ⟨w5.heap.size, 0, none⟩ = some (.slice (some ⟨w3.heap.size + 1, 0, none⟩) objs.length objs.length) := Lib.cell_of_heap ((hI.same _ hB1 (by omega) hB2).trans HB.out) 0
                  have HI2 := Lib.hid hI
                  clear hI
                  go_simp
                  exact HI2.out.next hs h61 3 (by omega) (by omega) (by omega) _ rfl
                | 4, _ =>
                  cases hop
                  refine opIn_ rfl rfl ?_
                  have t9 : a.tmps[9]?.getD undef = .pointer (some ⟨b, 0, none⟩) := (Array.getD_eq_getD_getElem?).symm.trans ((hI.oth 9 (by omega)).trans rfl)
                  have HI2 := Lib.hid hI
                  clear hI
                  go_simp
                  exact HI2.out.next hs h61 4 (by omega) (by omega) (by omega) _ rfl
                | 5, _ =>
                  cases hop
                  refine opIn_ rfl rfl ?_
                  have t51 : a.tmps[51]?.getD undef = _ := hI.slot 4 (by omega) (by omega) (haft ⟨4, .data⟩ (by simp) rfl)
                  simp only [val14] at t51
                  have c9 : W1.cell? ⟨b, 0, none⟩ = some (.int .i64 (y.i : Int)) := Lib.cell_of_heap ((hI.same _ hb1 (by omega) hb2).trans HB9.out) 0
                  have HI2 := Lib.hid hI
                  clear hI
                  go_simp
                  exact HI2.out.next hs h61 5 (by omega) (by omega) (by omega) _ rfl
                | 6, _ =>
                  cases hop
                  refine opIn_ rfl rfl ?_
                  have t50 : a.tmps[50]?.getD undef = _ := hI.slot 3 (by omega) (by omega) (haft ⟨3, .data⟩ (by simp) rfl)
                  simp only [val14] at t50
                  have t52 : a.tmps[52]?.getD undef = _ := hI.slot 5 (by omega) (by omega) (haft ⟨5, .data⟩ (by simp) rfl)
                  simp only [val14] at t52
                  have HI2 := Lib.hid hI
                  clear hI
                  go_simp
                  exact HI2.out.next hs h61 6 (by omega) (by omega) (by omega) _ rfl
                | 7, _ =>
                  cases hop
                  refine opIn_ rfl rfl ?_
                  have t53 : a.tmps[53]?.getD undef = _ := hI.slot 6 (by omega) (by omega) (haft ⟨6, .data⟩ (by simp) rfl)
                  simp only [val14] at t53
                  have c7 : W1.cell? ⟨w3.heap.size + 1, y.i, none⟩ = some (.slice qv mv kv) := by
                    have h12 : L.getD 12 false = false := by
                      cases e : L.getD 12 false with
                      | false => rfl
                      | true => have := (hI.o1 (hI.o2 e)).2; rw [h0] at this; cases this
                    exact (cell_same (hI.outer h12 hO1 hO2) _).trans HCV.out
                  have HI2 := Lib.hid hI
                  clear hI
                  go_simp
                  exact HI2.out.next hs h61 7 (by omega) (by omega) (by omega) _ rfl
                | 8, _ =>
                  cases hop
                  refine opIn_ rfl rfl ?_
                  have t11 : a.tmps[11]?.getD undef = .pointer (some ⟨W3.heap.size, 0, none⟩) := (Array.getD_eq_getD_getElem?).symm.trans ((hI.oth 11 (by omega)).trans rfl)
                  have c11 : W1.cell? ⟨W3.heap.size, 0, none⟩ = some (.int .i64 ta) := Lib.cell_of_heap ((hI.same _ hc1 (by omega) hc2).trans HC.out) 0
                  have c12 : W1.cell? ⟨W3.heap.size, 1, none⟩ = some (.int .i64 tb) := Lib.cell_of_heap ((hI.same _ hc1 (by omega) hc2).trans HC.out) 1
                  have HI2 := Lib.hid hI
                  clear hI
                  go_simp
                  exact HI2.out.next hs h61 8 (by omega) (by omega) (by omega) _ rfl
                | 9, _ =>
                  cases hop
                  obtain ⟨hw, hN⟩ := hI.next9 hs h61 h0
                  subst hw
                  refine opIn_ rfl rfl ?_
                  have t55 : a.tmps[55]?.getD undef = _ := hI.slot 8 (by omega) (by omega) (haft ⟨8, .data⟩ (by simp) rfl)
                  simp only [val14] at t55
                  have HI2 := Lib.hid hN
                  clear hI hN
                  go_simp
                  exact HI2.out
                | 10, _ =>
                  cases hop
                  have e9 := haft ⟨9, .data⟩ (by simp) rfl
                  have e7 := haft ⟨7, .data⟩ (by simp) rfl
                  have hw := hI.w1 e9 h0
                  have s7 : a.eval (.tmp 54) = .slice qv mv kv := hI.f 7 (by omega) (by omega) e7
                  have s9 : a.eval (.tmp 56) = .slice (some ⟨W9.heap.size, 0, none⟩) 1 1 := hI.f 9 (by omega) (by omega) e9
                  obtain ⟨i0, hi, hz0, hz1, hz2⟩ := info_parts infoT
                  obtain ⟨v', w', hrun, hown', hgrow', -, hat'⟩ := run_append_own_at (P := Tryz.prog) (W9.drew.alloc (.cells #[.int .i64 ta, .int .i64 tb] TT)) w7.heap.size TS TS TT i0 (tgtV 0 0) 2 16 Tryz.underlying150 hi hz0 hz1 hz2 rfl (by decide) (.slice qv mv kv) _ _ (HROW.out.drew.alloc _) ⟨W9.heap.size, 0, none⟩ 1 1 [.int .i64 ta, .int .i64 tb] rfl (two_new W9.drew _ _ _) (two_one _ _) (by unfold maxLen; omega) (by omega) (by simp only [World.size_alloc]; exact Nat.le_succ_of_le hz9)
                  rw [← hw] at hrun hgrow'
                  refine opIn_val (v := v') (w' := w') rfl rfl (by simp [Oper.about, resolve, Target.leads, Sem.run_pure]) (by intro c h; cases h) (by simp [execOp, resolve, invoke, builtin, s7, s9, hrun, Result.andThen]) ?_
                  rw [hw] at hgrow'
                  exact hI.next10 hs h61 e9 e7 h0 ⟨hown', hgrow', hat'⟩
                | 11, _ =>
                  cases hop
                  refine opIn_ rfl rfl ?_
                  have t47 : a.tmps[47]?.getD undef = _ := hI.slot 0 (by omega) (by omega) (haft ⟨0, .data⟩ (by simp) rfl)
                  simp only [val14] at t47
                  have t49 : a.tmps[49]?.getD undef = _ := hI.slot 2 (by omega) (by omega) (haft ⟨2, .data⟩ (by simp) rfl)
                  simp only [val14] at t49
                  have HI2 := Lib.hid hI
                  clear hI
                  go_simp
                  exact HI2.out.next hs h61 11 (by omega) (by omega) (by omega) _ rfl
                | 12, _ =>
                  cases hop
                  have e10 := haft ⟨10, .data⟩ (by simp) rfl
                  obtain ⟨v', w', hA, ht, hw⟩ := hI.w2 e10
                  rw [h0] at hw
                  simp only [Bool.false_eq_true, if_false] at hw
                  obtain ⟨q', m', k', rfl⟩ := row_slice hA.own
                  have t57 : a.tmps[57]?.getD undef = _ := (Array.getD_eq_getD_getElem?).symm.trans ht
                  have t58 : a.tmps[58]?.getD undef = _ := hI.slot 11 (by omega) (by omega) (haft ⟨11, .data⟩ (by simp) rfl)
                  simp only [val14] at t58
                  have ho := hI.outer h0 hO1 hO2
                  have c7 : W1.cell? ⟨w3.heap.size + 1, y.i, none⟩ = some (.slice qv mv kv) := (cell_same ho _).trans HCV.out
                  have c8 : W1.frozen? ⟨w3.heap.size + 1, y.i, none⟩ = false := (frozen_same ho _).trans HFV.out
                  have HI2 := Lib.hid (hI.next12 hs e10 h0 ht)
                  clear hI hA ho hw
                  refine opIn_ rfl rfl ?_
                  go_simp
                  exact HI2.out
                | i + 13, h => exact absurd h (by omega)
            case done14 =>
              intro L a W1 hall hI
              obtain ⟨v', w', hA, -, hw⟩ := hI.w2 (hall 10 (by omega))
              rw [hall 12 (by omega)] at hw
              simp only [if_true] at hw
              have HA := Lib.hid hA
              have HWW := Lib.hid hw
              clear hI hall hA hw
              gi_wp2
              have hs7 := HS7.out
              have hz9' : w7.heap.size ≤ W9.heap.size := hz9
              have hkf := next_keeps (A := w3.heap.size) HROW.out hz9' (by omega) HA.out y.i
              have hlw := fun k hk hne => next_low (A := w3.heap.size) (i := y.i) HROW.out hz9' HA.out k hk hne
              have hbad : RsT.bad (flat objs) y = false := by rw [HBAD.out]; rfl
              have hri := ri_next HLAY.out HRI9.out HV9.out HVI.out HA.out HTGS.out hbad
              have hww := HWW.out
              rw [← hww] at hkf hlw hri
              have hkz := hkf.size
              have hz1 := HW9.out.size
              refine ⟨⟨by omega, fun k o hk ho hc => hkf.same k o hk ((HW9.out.block k (lt_heap ho)).trans ho) hc⟩, ⟨fun k hk => (hlw k (by omega) (by omega)).trans (HW9.out.block k (by omega)), (hlw _ (by omega) (by omega)).trans (HW9.out.block _ (by omega)), by omega⟩, ?_⟩
              show RI w (flat objs) w3.heap.size (w1.heap.size + 2) w5.heap.size w7.heap.size objs.length ((pre ++ [x]).map ent) W1
              rw [HPRE.out]
              exact hri
      case done =>
        intro D xs W hD hxs hI hK
        subst hxs
        have hz := hI.zz
        rw [show (List.finRange (flat objs).length).map ent = flat objs by
          rw [← upto_all, map_upto]; exact List.take_of_length_le (Nat.le_refl _)] at hI
        have hl := HLAY.out
        have l1 := hl.m
        have l2 := hl.a
        have l3 := hl.b
        have l4 := hl.z
        have kb : W.cell? ⟨w5.heap.size, 0, none⟩ = some (.slice (some ⟨w3.heap.size + 1, 0, none⟩) objs.length objs.length) := Lib.cell_of_heap hI.b 0
        have k0 : W.cell? ⟨w.heap.size, 0, none⟩ = some (.slice none 0 0) := Lib.cell_of_heap hI.c0 0
        have k1 : W.cell? ⟨w.heap.size + 1, 0, none⟩ = some (.int .i64 0) := Lib.cell_of_heap hI.c1 0
        have k2 : W.cell? ⟨w.heap.size + 1, 1, none⟩ = some (.int .i64 0) := Lib.cell_of_heap hI.c1 1
        have k3 : W.cell? ⟨w.heap.size + 1 + 1, 0, none⟩ = some (.int .i64 0) := Lib.cell_of_heap hI.c2 0
        have f0 : W.frozen? ⟨w.heap.size, 0, none⟩ = false := Lib.frozen_of_heap hI.c0 0
        have f1 : W.frozen? ⟨w.heap.size + 1, 0, none⟩ = false := Lib.frozen_of_heap hI.c1 0
        have f2 : W.frozen? ⟨w.heap.size + 1, 1, none⟩ = false := Lib.frozen_of_heap hI.c1 1
        have f3 : W.frozen? ⟨w.heap.size + 1 + 1, 0, none⟩ = false := Lib.frozen_of_heap hI.c2 0
        have n1 : ¬ w.heap.size + 1 = w5.heap.size := by omega
        have n2 : ¬ w.heap.size = w5.heap.size := by omega
        have n3 : ¬ w.heap.size + 2 = w5.heap.size := by omega
        have HI := Lib.hid hI
        have HK := Lib.hid hK
        have mixed : Tryz.prog.follows Departure.mixedOrders = true := by kernel_rfl
        clear hI hK
        go_wp2_with fail
        have h4 := fin4_ HI.out.c0 HI.out.c1 HI.out.c2 (.slice (some ⟨w3.heap.size + 1, 0, none⟩) objs.length objs.length) (.int .i64 0) (.int .i64 0) (.int .i64 0)
        show bodyPostM Fence.wide 8 Tryz.prog Tryz.f67 (ResLo objs w) Exit.ret _ (fin4 W w.heap.size (.slice (some ⟨w3.heap.size + 1, 0, none⟩) objs.length objs.length) (.int .i64 0) (.int .i64 0) (.int .i64 0))
        have HK2 := (h4.oth D (by omega) (by omega) (by omega)).trans HK.out
        obtain ⟨vs, hv⟩ := HI.out.rows
        have hv2 := trows_fin hv (by omega) (by omega) HK2
        have hfind := find_all HI.out.ok
        have hbel := h4.below HI.out.bel HI.out.bel.size
        refine ⟨by simp, .inl ⟨_, _, rfl, run_takeDeferred HK2, ?_⟩⟩
        clear kb k0 k1 k2 k3 f0 f1 f2 f3
        generalize fin4 W w.heap.size (.slice (some ⟨w3.heap.size + 1, 0, none⟩) objs.length objs.length) (.int .i64 0) (.int .i64 0) (.int .i64 0) = W4 at *
        have g4 := grownBy_putObj' W4 D (.deferred none)
        have hne : ∀ k, k < w7.heap.size → some k ≠ some D := fun k hk e => by cases e; omega
        have o0 : (W4.putObj D (.deferred none)).cell? ⟨w.heap.size, 0, none⟩ = some (.slice (some ⟨w3.heap.size + 1, 0, none⟩) objs.length objs.length) := by
          rw [Lib.cell_of_heap ((g4.block _ (lt_heap h4.h0) (hne _ (by omega))).trans h4.h0)]; rfl
        have o1 : (W4.putObj D (.deferred none)).cell? ⟨w.heap.size + 1, 0, none⟩ = some (.int .i64 0) := by
          rw [Lib.cell_of_heap ((g4.block _ (lt_heap h4.h1) (hne _ (by omega))).trans h4.h1)]; rfl
        have o2 : (W4.putObj D (.deferred none)).cell? ⟨w.heap.size + 1, 1, none⟩ = some (.int .i64 0) := by
          rw [Lib.cell_of_heap ((g4.block _ (lt_heap h4.h1) (hne _ (by omega))).trans h4.h1)]; rfl
        have o3 : (W4.putObj D (.deferred none)).cell? ⟨w.heap.size + 1 + 1, 0, none⟩ = some (.int .i64 0) := by
          rw [Lib.cell_of_heap ((g4.block _ (lt_heap h4.h2) (hne _ (by omega))).trans h4.h2)]; rfl
        refine ⟨.tuple #[.slice (some ⟨w3.heap.size + 1, 0, none⟩) objs.length objs.length, .agg #[.int .i64 0, .int .i64 0], .int .i64 0], by simp [results, Tryz.results67, go_sem, o0, o1, o2, o3], .slice (some ⟨w3.heap.size + 1, 0, none⟩) objs.length objs.length, 0, 0, 0, rfl, ?_, ?_, ?_⟩
        · unfold Out
          rw [HNI.out, if_neg (by omega), HAG.out]
          simp only
          rw [hfind]
          refine ⟨?_, ?_, ?_, tgts_at hv2⟩ <;> first | rfl | trivial
        · exact hbel.grown g4 hbel.size (fun k hk => by cases hk; omega)
        · exact tgts_lo hv2 (by omega) (by omega)
      case stop =>
        intro D cc pre W hD hpre hI hK
        obtain ⟨rfl, pre0, x, rfl, hok, hbad, h0, h1, h2, hbel⟩ := hI
        obtain ⟨kk, hkk, hup⟩ := hpre
        have hfind := find_stop hup hok hbad
        have l1 := HLAY.out.m
        have l2 := HLAY.out.a
        have l3 := HLAY.out.b
        have l4 := HLAY.out.z
        refine wpIn_ret ?_
        show bodyPostM Fence.wide 8 Tryz.prog Tryz.f67 (ResLo objs w) Exit.ret _ W
        refine ⟨by simp, .inl ⟨_, _, rfl, run_takeDeferred hK, ?_⟩⟩
        have g4 := grownBy_putObj' W D (.deferred none)
        have hne : ∀ k, k < w7.heap.size → some k ≠ some D := fun k hk e => by cases e; omega
        have o0 : (W.putObj D (.deferred none)).cell? ⟨w.heap.size, 0, none⟩ = some (.slice none 0 0) := by
          rw [Lib.cell_of_heap ((g4.block _ (lt_heap h0) (hne _ (by omega))).trans h0)]; rfl
        have o1 : (W.putObj D (.deferred none)).cell? ⟨w.heap.size + 1, 0, none⟩ = some (.int .i64 ((ent x).i : Int)) := by
          rw [Lib.cell_of_heap ((g4.block _ (lt_heap h1) (hne _ (by omega))).trans h1)]; rfl
        have o2 : (W.putObj D (.deferred none)).cell? ⟨w.heap.size + 1, 1, none⟩ = some (.int .i64 ((ent x).k : Int)) := by
          rw [Lib.cell_of_heap ((g4.block _ (lt_heap h1) (hne _ (by omega))).trans h1)]; rfl
        have o3 : (W.putObj D (.deferred none)).cell? ⟨w.heap.size + 1 + 1, 0, none⟩ = some (.int .i64 3) := by
          rw [Lib.cell_of_heap ((g4.block _ (lt_heap h2) (hne _ (by omega))).trans h2)]; rfl
        refine ⟨.tuple #[.slice none 0 0, .agg #[.int .i64 ((ent x).i : Int), .int .i64 ((ent x).k : Int)], .int .i64 3], by simp [results, Tryz.results67, go_sem, o0, o1, o2, o3], .slice none 0 0, (ent x).i, (ent x).k, 3, rfl, ?_, ?_, tgts_lo_none _ _⟩
        · unfold Out
          rw [HNI.out, if_neg (by omega), HAG.out]
          simp only
          rw [hfind]
          refine ⟨?_, ?_, ?_, ?_⟩ <;> first | rfl | trivial
        · exact hbel.grown g4 hbel.size (fun k hk => by cases hk; omega)
theorem resolve_ {w : World} {n₀ : Nat} {v : Value} {objs : List ObjV} (hn : n₀ ≤ w.heap.size) (ho : ObjsAt n₀ w v objs) (hw : ∀ o ∈ objs, o.Wf) (hm : objs.length ≤ 100000) (hms : ∀ o ∈ objs, o.ss.length ≤ maxLen) (hN : (flat objs).length ≤ 100000) :
    Calls Tryz.prog 67 #[v] w (Res objs w) :=
  (resolve_lo_ hn ho hw hm hms hN).mono fun _ _ h => h.res
end RsV
end Go.Proofs.YtlmblfkcmhgdaaaGreat
namespace Go.Proofs.YtlmblfkcmhgdaaaGreat
open Go.RowKit Go.Maps Go.WideMaps
set_option linter.unusedVariables false
set_option linter.unusedSimpArgs false
namespace RsY
open OO OJ RsM RsI RsP RsR RsD RsS RsT RsN RsV OCk
open OI hiding Mid Did
/-- Resolve's error -/
def resCode (objs : List ObjV) : Int := if 0 ≤ noneFrom objs 0 then 2 else match againL (flat objs) with
  | _ :: _ => 4
  | [] => match (flat objs).find? (RsT.bad (flat objs)) with
    | some _ => 3
    | none => 0
theorem res_code {objs : List ObjV} {W : World} {tv : Value} {i k e : Int} (h : Out objs W tv i k e) : e = resCode objs := by
  unfold Out at h
  unfold resCode
  by_cases hc : 0 ≤ noneFrom objs 0
  · rw [if_pos hc] at h ⊢
    exact h.2.2.2
  · rw [if_neg hc] at h ⊢
    cases hag : againL (flat objs) with
    | cons x l => rw [hag] at h; exact h.2.2.2
    | nil =>
      rw [hag] at h
      cases hf : (flat objs).find? (RsT.bad (flat objs)) with
      | some x => rw [hf] at h; exact h.2.2.2
      | none => rw [hf] at h; exact h.2.2.1
theorem two_set {W : World} {r : Nat} {a b c d : Value} (h : W.heap[r]? = some (.cells #[c, d] TT (0, 0))) : ((W.setCell ⟨r, 0, none⟩ a).setCell ⟨r, 1, none⟩ b).heap[r]? = some (.cells #[a, b] TT (0, 0)) := by
  have h1 : (W.setCell ⟨r, 0, none⟩ a).heap[r]? = some (.cells #[a, d] TT (0, 0)) := hset h a
  exact hset h1 (i := 1) b
def mainB : ByteArray := { data := #[109, 97, 105, 110] }
/-- what Main answers -/
def mainOut (objs : List ObjV) : Int × Int × Int := if resCode objs ≠ 0 then (0, 0, resCode objs) else match RsP.look (flat objs) mainB with
  | some y => if y.s.sect = 1 then ((y.i : Int), (y.k : Int), 0) else (0, 0, 16)
  | none => (0, 0, 16)
theorem res_again {objs : List ObjV} (h : resCode objs = 0) : againL (flat objs) = [] := by
  unfold resCode at h
  split at h
  · cases h
  · cases hag : againL (flat objs) with
    | nil => rfl
    | cons x l => rw [hag] at h; cases h
set_option maxRecDepth 100000 in
set_option maxHeartbeats 16000000 in
theorem Main_ {w : World} {n₀ : Nat} {v : Value} {objs : List ObjV} (hn : n₀ ≤ w.heap.size) (ho : ObjsAt n₀ w v objs) (hw : ∀ o ∈ objs, o.Wf) (hm : objs.length ≤ 100000) (hms : ∀ o ∈ objs, o.ss.length ≤ maxLen) (hN : (flat objs).length ≤ 100000) :
    Calls Tryz.prog 66 #[v] w fun e w' => e = .returned (.tuple #[.agg #[.int .i64 (mainOut objs).1, .int .i64 (mainOut objs).2.1], .int .i64 (mainOut objs).2.2]) ∧ Below w.heap.size w w' := by
  have hb0 : Below w.heap.size w (w.alloc (.cells #[.int .i64 0, .int .i64 0] TT)) := (Below.refl _ _).alloc (Nat.le_refl _) _
  have cr := resolve_ (w := w.alloc (.cells #[.int .i64 0, .int .i64 0] TT)) (n₀ := n₀) (by simp only [World.size_alloc]; omega) (ObjsAt.same ho (Same.of hb0 hn)) hw hm hms hN
  have x0 : (w.alloc (.cells #[.int .i64 0, .int .i64 0] TT)).heap[w.heap.size]? = some (.cells #[.int .i64 0, .int .i64 0] TT (0, 0)) := heap_alloc_new w _
  have HO := Lib.hid ho
  have HW := Lib.hid hw
  have HMS := Lib.hid hms
  have HB0 := Lib.hid hb0
  have X0 := Lib.hid x0
  obtain ⟨p, c, rfl, -⟩ := ho
  clear hw hms hb0 x0
  obtain ⟨rc, hrc⟩ : ∃ rc, rc = resCode objs := ⟨_, rfl⟩
  by_cases hz : rc = 0
  · subst hz
    have hag := res_again hrc.symm
    have HRC := Lib.hid hrc
    obtain ⟨mo, hmo⟩ : ∃ mo, mo = mainOut objs := ⟨_, rfl⟩
    rw [← hmo]
    have HMO : Hid (mo = match RsP.look (flat objs) mainB with
      | some y => if y.s.sect = 1 then ((y.i : Int), (y.k : Int), 0) else (0, 0, 16)
      | none => (0, 0, 16)) := Lib.hid (by rw [hmo]; unfold mainOut; rw [← hrc, if_neg (by simp)])
    clear hmo
    obtain ⟨e1, e2⟩ := names_look (flat objs) mainB
    clear hrc
    have HAG := Lib.hid hag
    clear hag
    go_enter Tryz.func66, Tryz.ntmps66
    go_upto_region 4 with (go_at_call 67; (with_reducible refine cr.mono ?_); rintro e w1 ⟨tv, i, k, e', rfl, hO, hb1⟩; obtain rfl := (res_code hO).trans HRC.out.symm; have HB1 := Lib.hid hb1; clear hb1 cr hO)
    have hs1 := HB1.out.size
    simp only [World.size_alloc] at hs1
    have hbw1 : Below w.heap.size w (w1.alloc (.cells #[.int .i64 i, .int .i64 k] TT)) := (HB0.out.trans (HB1.out.mono (by simp only [World.size_alloc]; omega))).alloc (by omega) _
    have y0 : (w1.alloc (.cells #[.int .i64 i, .int .i64 k] TT)).heap[w.heap.size]? = some (.cells #[.int .i64 0, .int .i64 0] TT (0, 0)) := (Lib.alloc_old _ _ _ (by omega)).trans ((HB1.out.block _ (by simp only [World.size_alloc]; omega)).trans X0.out)
    have cd := def2_ (w := w1.alloc (.cells #[.int .i64 i, .int .i64 k] TT)) (n₀ := n₀) (by simp only [World.size_alloc]; omega) (ObjsAt.same HO.out (Same.of hbw1 hn)) HW.out (by unfold maxLen; omega) HMS.out hN
    rw [HAG.out] at cd
    simp only [List.length_nil] at cd
    have hs2 : w.heap.size + 1 ≤ (w1.alloc (.cells #[.int .i64 i, .int .i64 k] TT)).heap.size := by simp only [World.size_alloc]; omega
    have Y0 := Lib.hid y0
    have HBW1 := Lib.hid hbw1
    clear y0 hbw1 HB1 HB0 X0 HAG
    generalize w1.alloc (.cells #[.int .i64 i, .int .i64 k] TT) = w2 at *
    cases hl : RsP.look (flat objs) mainB with
    | none =>
      rw [hl] at e1 e2 HMO
      have HMO2 : Hid (mo = (0, 0, 16)) := Lib.hid HMO.out
      have e1 : Maps.has (namesD (flat objs)) (nkey mainB) = false := e1
      have e2 : ∀ z, (namesD (flat objs)).atKey (nkey mainB) z = z := e2
      have HA := Lib.hid (fun (ti tj : Int) (h : (namesD (flat objs)).atKey (nkey mainB) (tgtD 0 0) = tgtD ti tj) => (by rw [e2] at h; exact tgtD_inj h : (0 : Int) = ti ∧ (0 : Int) = tj))
      clear HMO e2
      go_upto_region 6 with (first
        | (go_at_call 94; (with_reducible refine cd.mono ?_); rintro e w3 ⟨qa, ca, rfl, hmap, -, hb3, hz3⟩; have HMAP := Lib.hid hmap; have HB3 := Lib.hid hb3; clear hmap hb3 cd)
        | (at_lookup; refine look_t rfl _ _ rfl _ _ _ rfl HMAP.out mainB (by decide) rfl ?_; intro ti tj hti; obtain ⟨rfl, rfl⟩ := HA.out ti tj hti; rw [e1]))
      have hs3 := HB3.out.size
      have hbel : Below w.heap.size w (w3.alloc (.cells #[.int .i64 0, .int .i64 0] TT)) := (HBW1.out.trans (HB3.out.mono (by omega))).alloc (by omega) _
      have y5 : (w3.alloc (.cells #[.int .i64 0, .int .i64 0] TT)).heap[w.heap.size]? = some (.cells #[.int .i64 0, .int .i64 0] TT (0, 0)) := (Lib.alloc_old _ _ _ (by omega)).trans ((HB3.out.block _ (by omega)).trans Y0.out)
      have t5 : (w3.alloc (.cells #[.int .i64 0, .int .i64 0] TT)).heap[w3.heap.size]? = some (.cells #[.int .i64 0, .int .i64 0] TT (0, 0)) := heap_alloc_new _ _
      have k0 := Lib.cell_of_heap y5 0
      have k1 := Lib.cell_of_heap y5 1
      have f0 := Lib.frozen_of_heap y5 0
      have f1 := Lib.frozen_of_heap y5 1
      have u0 := Lib.cell_of_heap t5 0
      have u1 := Lib.cell_of_heap t5 1
      simp only [List.getElem?_toArray, List.getElem?_cons_zero, List.getElem?_cons_succ] at k0 k1 u0 u1
      have HY5 := Lib.hid y5
      have HBEL := Lib.hid hbel
      have nw : ¬ w.heap.size = w3.heap.size := by omega
      clear y5 t5 hbel HMAP HB3 hti
      generalize w3.alloc (.cells #[.int .i64 0, .int .i64 0] TT) = w5 at *
      go_quiet (fail)
      go_wp2
      have z0 := two_set (a := .int .i64 0) (b := .int .i64 0) (show (w5.drewN nq).heap[w.heap.size]? = _ from HY5.out)
      have q0 := Lib.cell_of_heap z0 0
      have q1 := Lib.cell_of_heap z0 1
      simp only [List.getElem?_toArray, List.getElem?_cons_zero, List.getElem?_cons_succ] at q0 q1
      have HBEL2 := Lib.hid (((⟨HBEL.out.os, HBEL.out.tape, HBEL.out.output, HBEL.out.size, HBEL.out.block⟩ : Below w.heap.size w (w5.drewN nq)).setCell (p := ⟨w.heap.size, 0, none⟩) (Nat.le_refl _) (.int .i64 0)).setCell (p := ⟨w.heap.size, 1, none⟩) (Nat.le_refl _) (.int .i64 0))
      clear z0 k0 k1 f0 f1
      generalize ((w5.drewN nq).setCell ⟨w.heap.size, 0, none⟩ (.int .i64 0)).setCell ⟨w.heap.size, 1, none⟩ (.int .i64 0) = W9 at *
      exact bodyPost_ret (v := .tuple #[.agg #[.int .i64 0, .int .i64 0], .int .i64 16]) (by simp [results, Tryz.results66, go_sem, q0, q1]) rfl ⟨by rw [HMO2.out], HBEL2.out⟩
    | some y =>
      rw [hl] at e1 e2 HMO
      have HMO1 : Hid (mo = if y.s.sect = 1 then ((y.i : Int), (y.k : Int), 0) else (0, 0, 16)) := Lib.hid HMO.out
      have e1 : Maps.has (namesD (flat objs)) (nkey mainB) = true := e1
      have e2 : ∀ z, (namesD (flat objs)).atKey (nkey mainB) z = tgtD y.i y.k := e2
      have HA := Lib.hid (fun (ti tj : Int) (h : (namesD (flat objs)).atKey (nkey mainB) (tgtD 0 0) = tgtD ti tj) => (by rw [e2] at h; exact tgtD_inj h : (y.i : Int) = ti ∧ (y.k : Int) = tj))
      obtain ⟨oo, hoo, hss⟩ := mem_flat (List.mem_of_find?_eq_some (show (flat objs).find? _ = some y from hl))
      have hyi : y.i < objs.length := (List.getElem?_eq_some_iff.1 hoo).1
      have hyk : y.k < oo.ss.length := (List.getElem?_eq_some_iff.1 hss).1
      have HOO := Lib.hid hoo
      have HSS := Lib.hid hss
      clear HMO e2 hoo hss
      go_upto_region 6 with (first
        | (go_at_call 94; (with_reducible refine cd.mono ?_); rintro e w3 ⟨qa, ca, rfl, hmap, -, hb3, hz3⟩; have HMAP := Lib.hid hmap; have HB3 := Lib.hid hb3; clear hmap hb3 cd)
        | (at_lookup; refine look_t rfl _ _ rfl _ _ _ rfl HMAP.out mainB (by decide) rfl ?_; intro ti tj hti; obtain ⟨rfl, rfl⟩ := HA.out ti tj hti; rw [e1]))
      have hs3 := HB3.out.size
      have hbel : Below w.heap.size w (w3.alloc (.cells #[.int .i64 (y.i : Int), .int .i64 (y.k : Int)] TT)) := (HBW1.out.trans (HB3.out.mono (by omega))).alloc (by omega) _
      have y5 : (w3.alloc (.cells #[.int .i64 (y.i : Int), .int .i64 (y.k : Int)] TT)).heap[w.heap.size]? = some (.cells #[.int .i64 0, .int .i64 0] TT (0, 0)) := (Lib.alloc_old _ _ _ (by omega)).trans ((HB3.out.block _ (by omega)).trans Y0.out)
      have t5 : (w3.alloc (.cells #[.int .i64 (y.i : Int), .int .i64 (y.k : Int)] TT)).heap[w3.heap.size]? = some (.cells #[.int .i64 (y.i : Int), .int .i64 (y.k : Int)] TT (0, 0)) := heap_alloc_new _ _
      have k0 := Lib.cell_of_heap y5 0
      have k1 := Lib.cell_of_heap y5 1
      have f0 := Lib.frozen_of_heap y5 0
      have f1 := Lib.frozen_of_heap y5 1
      have u0 := Lib.cell_of_heap t5 0
      have u1 := Lib.cell_of_heap t5 1
      simp only [List.getElem?_toArray, List.getElem?_cons_zero, List.getElem?_cons_succ] at k0 k1 u0 u1
      have HY5 := Lib.hid y5
      have HBEL := Lib.hid hbel
      have nw : ¬ w.heap.size = w3.heap.size := by omega
      clear y5 t5 hbel HMAP HB3 hti
      generalize w3.alloc (.cells #[.int .i64 (y.i : Int), .int .i64 (y.k : Int)] TT) = w5 at *
      obtain ⟨p', c', hv, hh⟩ := ObjsAt.same HO.out (Same.of HBEL.out hn)
      cases hv
      obtain ⟨b, o, rfl, hb, -, -, hall⟩ := hh (by omega)
      obtain ⟨v0, v1, v2, v3, g0, g1, g2, g3, hoa⟩ := hall y.i oo HOO.out
      obtain ⟨p2, q2, rfl, hh2⟩ := hoa.ss
      obtain ⟨b2, o2, rfl, hb2, -, -, hrow⟩ := hh2 (by omega)
      obtain ⟨s0, s1, s2, s3, s4⟩ := hrow y.k _ HSS.out
      clear hall hoa hrow hh hh2 HO
      by_cases hs : y.s.sect = 1
      · have HMO2 : Hid (mo = ((y.i : Int), (y.k : Int), 0)) := Lib.hid (HMO1.out.trans (if_pos hs))
        have hs1' : (y.s.sect != 1) = false := by simpa using hs
        clear HMO1 hs
        go_quiet (fail)
        go_wp2
        have z0 := two_set (a := .int .i64 (y.i : Int)) (b := .int .i64 (y.k : Int)) (show (w5.drewN nq).heap[w.heap.size]? = _ from HY5.out)
        have q0 := Lib.cell_of_heap z0 0
        have q1 := Lib.cell_of_heap z0 1
        simp only [List.getElem?_toArray, List.getElem?_cons_zero, List.getElem?_cons_succ] at q0 q1
        have HBEL2 := Lib.hid (((⟨HBEL.out.os, HBEL.out.tape, HBEL.out.output, HBEL.out.size, HBEL.out.block⟩ : Below w.heap.size w (w5.drewN nq)).setCell (p := ⟨w.heap.size, 0, none⟩) (Nat.le_refl _) (.int .i64 (y.i : Int))).setCell (p := ⟨w.heap.size, 1, none⟩) (Nat.le_refl _) (.int .i64 (y.k : Int)))
        clear z0 k0 k1 f0 f1
        generalize ((w5.drewN nq).setCell ⟨w.heap.size, 0, none⟩ (.int .i64 (y.i : Int))).setCell ⟨w.heap.size, 1, none⟩ (.int .i64 (y.k : Int)) = W9 at *
        exact bodyPost_ret (v := .tuple #[.agg #[.int .i64 (y.i : Int), .int .i64 (y.k : Int)], .int .i64 0]) (by simp [results, Tryz.results66, go_sem, q0, q1]) rfl ⟨by rw [HMO2.out], HBEL2.out⟩
      · have HMO2 : Hid (mo = (0, 0, 16)) := Lib.hid (HMO1.out.trans (if_neg hs))
        have hs1' : (y.s.sect != 1) = true := by simpa using hs
        clear HMO1 hs
        go_quiet (fail)
        go_wp2
        have z0 := two_set (a := .int .i64 0) (b := .int .i64 0) (show (w5.drewN nq).heap[w.heap.size]? = _ from HY5.out)
        have q0 := Lib.cell_of_heap z0 0
        have q1 := Lib.cell_of_heap z0 1
        simp only [List.getElem?_toArray, List.getElem?_cons_zero, List.getElem?_cons_succ] at q0 q1
        have HBEL2 := Lib.hid (((⟨HBEL.out.os, HBEL.out.tape, HBEL.out.output, HBEL.out.size, HBEL.out.block⟩ : Below w.heap.size w (w5.drewN nq)).setCell (p := ⟨w.heap.size, 0, none⟩) (Nat.le_refl _) (.int .i64 0)).setCell (p := ⟨w.heap.size, 1, none⟩) (Nat.le_refl _) (.int .i64 0))
        clear z0 k0 k1 f0 f1
        generalize ((w5.drewN nq).setCell ⟨w.heap.size, 0, none⟩ (.int .i64 0)).setCell ⟨w.heap.size, 1, none⟩ (.int .i64 0) = W9 at *
        exact bodyPost_ret (v := .tuple #[.agg #[.int .i64 0, .int .i64 0], .int .i64 16]) (by simp [results, Tryz.results66, go_sem, q0, q1]) rfl ⟨by rw [HMO2.out], HBEL2.out⟩
  · have hne : (rc != 0) = true := by simpa using hz
    have HM : Hid (mainOut objs = (0, 0, rc)) := Lib.hid (by unfold mainOut; rw [← hrc, if_pos hz])
    have HRC := Lib.hid hrc
    clear hrc
    rw [HM.out]
    clear hz HM
    go_enter Tryz.func66, Tryz.ntmps66
    go_wp2_with (go_at_call 67; (with_reducible refine cr.mono ?_); rintro e w1 ⟨tv, i, k, e', rfl, hO, hb1⟩; obtain rfl := (res_code hO).trans HRC.out.symm; have HB1 := Lib.hid hb1; have y0 : (w1.alloc (.cells #[.int .i64 i, .int .i64 k] TT)).heap[w.heap.size]? = some (.cells #[.int .i64 0, .int .i64 0] TT (0, 0)) := (Lib.alloc_old _ _ _ (by have := hb1.size; simp only [World.size_alloc] at this; omega)).trans ((hb1.block _ (by simp only [World.size_alloc]; omega)).trans X0.out); have k0 := Lib.cell_of_heap y0 0; have k1 := Lib.cell_of_heap y0 1; have f0 := Lib.frozen_of_heap y0 0; have f1 := Lib.frozen_of_heap y0 1; clear hb1 cr hO)
    have z0 := two_set (a := .int .i64 0) (b := .int .i64 0) y0
    have q0 := Lib.cell_of_heap z0 0
    have q1 := Lib.cell_of_heap z0 1
    simp only [List.getElem?_toArray, List.getElem?_cons_zero, List.getElem?_cons_succ] at q0 q1
    have hsz := HB1.out.size
    simp only [World.size_alloc] at hsz
    have hbel : Below w.heap.size w (((w1.alloc (.cells #[.int .i64 i, .int .i64 k] TT)).setCell ⟨w.heap.size, 0, none⟩ (.int .i64 0)).setCell ⟨w.heap.size, 1, none⟩ (.int .i64 0)) := (((HB0.out.trans (HB1.out.mono (by simp only [World.size_alloc]; omega))).alloc (by omega) _).setCell (Nat.le_refl _) _).setCell (Nat.le_refl _) _
    have HBEL := Lib.hid hbel
    clear hbel z0 y0 k0 k1 f0 f1
    generalize ((w1.alloc (.cells #[.int .i64 i, .int .i64 k] TT)).setCell ⟨w.heap.size, 0, none⟩ (.int .i64 0)).setCell ⟨w.heap.size, 1, none⟩ (.int .i64 0) = W9 at *
    exact bodyPost_ret (v := .tuple #[.agg #[.int .i64 0, .int .i64 0], .int .i64 e']) (by simp [results, Tryz.results66, go_sem, q0, q1]) rfl ⟨rfl, HBEL.out⟩
end RsY
end Go.Proofs.YtlmblfkcmhgdaaaGreat
namespace Go.Proofs.YtlmblfkcmhgdaaaGreat
open Go.RowKit Go.Maps
set_option linter.unusedVariables false
set_option linter.unusedSimpArgs false
namespace RsQ
open OO OJ RsM RsP RsS RsT RsY OCk
theorem mem_row {objs : List ObjV} {i : Nat} {x : Ent} : x ∈ row objs i ↔ x.i = i ∧ (ssAt objs i)[x.k]? = some x.s := by
  unfold row
  rw [List.mem_map]
  constructor
  · rintro ⟨k, hk, rfl⟩
    have hk := List.mem_range.1 hk
    refine ⟨rfl, ?_⟩
    show (ssAt objs i)[k]? = some ((ssAt objs i).getD k noSym)
    rw [List.getD_eq_getElem?_getD, List.getElem?_eq_getElem hk]; rfl
  · rintro ⟨rfl, h⟩
    refine ⟨x.k, List.mem_range.2 (List.getElem?_eq_some_iff.1 h).1, ?_⟩
    rw [List.getD_eq_getElem?_getD, h]
    rfl
theorem ssAt_some {objs : List ObjV} {i : Nat} {o : ObjV} (h : objs[i]? = some o) : ssAt objs i = o.ss := by
  unfold ssAt
  simp [h]
theorem mem_iff {objs : List ObjV} {x : Ent} : x ∈ flat objs ↔ ∃ o, objs[x.i]? = some o ∧ o.ss[x.k]? = some x.s := by
  constructor
  · exact mem_flat
  · rintro ⟨o, h1, h2⟩
    unfold flat flatTo
    exact List.mem_flatMap.2 ⟨x.i, List.mem_range.2 (List.getElem?_eq_some_iff.1 h1).1, mem_row.2 ⟨rfl, by rw [ssAt_some h1]; exact h2⟩⟩
theorem row_nodup (objs : List ObjV) (i : Nat) : (row objs i).Nodup := by
  unfold row
  refine List.Pairwise.map _ (fun a b h e => h ?_) List.nodup_range
  exact congrArg Ent.k e
theorem flatTo_nodup (objs : List ObjV) (i : Nat) : (flatTo objs i).Nodup ∧ ∀ x ∈ flatTo objs i, x.i < i := by
  induction i with
  | zero => exact ⟨by simp [flatTo], fun x hx => by simp [flatTo] at hx⟩
  | succ i ih =>
    rw [flatTo_succ]
    refine ⟨List.nodup_append.2 ⟨ih.1, row_nodup objs i, fun a ha b hb e => ?_⟩, fun x hx => ?_⟩
    · have h1 := ih.2 a ha
      have h2 := (mem_row.1 hb).1
      subst e
      omega
    · rcases List.mem_append.1 hx with h | h
      · have := ih.2 x h; omega
      · have := (mem_row.1 h).1; omega
theorem flat_nodup (objs : List ObjV) : (flat objs).Nodup := (flatTo_nodup objs _).1
/-- no name is defined twice -/
def Uniq (F : List Ent) : Prop := ∀ x ∈ F, ∀ y ∈ F, defs x.s = true → defs y.s = true → x.s.name = y.s.name → x = y
theorem look_none {l : List Ent} {n : ByteArray} : RsP.look l n = none ↔ ∀ x ∈ l, defs x.s = true → x.s.name ≠ n := by
  unfold RsP.look
  rw [List.find?_eq_none]
  constructor
  · intro h x hx hd e
    exact h x hx (by simp [hd, e])
  · intro h x hx hp
    simp only [Bool.and_eq_true, decide_eq_true_eq] at hp
    exact h x hx hp.1 hp.2
theorem look_some {l : List Ent} {n : ByteArray} {y : Ent} (h : RsP.look l n = some y) : y ∈ l ∧ defs y.s = true ∧ y.s.name = n := by
  unfold RsP.look at h
  have h1 := List.find?_some h
  simp only [Bool.and_eq_true, decide_eq_true_eq] at h1
  exact ⟨List.mem_of_find?_eq_some h, h1.1, h1.2⟩
theorem look_uniq {l : List Ent} (hu : Uniq l) {n : ByteArray} {y : Ent} (h1 : y ∈ l) (h2 : defs y.s = true) (h3 : y.s.name = n) : RsP.look l n = some y := by
  cases h : RsP.look l n with
  | none => exact absurd h3 (look_none.1 h y h1 h2)
  | some z =>
    obtain ⟨a, b, c⟩ := look_some h
    rw [hu z a y h1 b h2 (c.trans h3.symm)]
theorem again_uniq {l : List Ent} (hn : l.Nodup) : againL l = [] ↔ Uniq l := by
  induction l using snoc_ind with
  | nil => exact ⟨fun _ x hx => by simp at hx, fun _ => rfl⟩
  | append_singleton l x ih =>
    obtain ⟨n1, -, n3⟩ := List.nodup_append.1 hn
    have hx : x ∉ l := fun h => n3 x h x (by simp) rfl
    have ih := ih n1
    rw [againL_snoc, List.append_eq_nil_iff, ih, key_eq, (names_look l x.s.name).1]
    constructor
    · rintro ⟨hu, he⟩ a ha b hb da db e
      have hno : ∀ y ∈ l, defs y.s = true → defs x.s = true → y.s.name ≠ x.s.name := fun y hy dy dx => by
        rw [dx] at he
        cases h : RsP.look l x.s.name with
        | none => exact look_none.1 h y hy dy
        | some z => rw [h] at he; simp at he
      rcases List.mem_append.1 ha with ha | ha
      · rcases List.mem_append.1 hb with hb | hb
        · exact hu a ha b hb da db e
        · rw [List.mem_singleton.1 hb] at db e
          exact absurd e (hno a ha da db)
      · rw [List.mem_singleton.1 ha] at da e ⊢
        rcases List.mem_append.1 hb with hb | hb
        · exact absurd e.symm (hno b hb db da)
        · exact (List.mem_singleton.1 hb).symm
    · intro hu
      refine ⟨fun a ha b hb => hu a (List.mem_append_left _ ha) b (List.mem_append_left _ hb), ?_⟩
      cases hd : defs x.s with
      | false => rfl
      | true =>
        cases h : RsP.look l x.s.name with
        | none => rfl
        | some z =>
          obtain ⟨a, b, c⟩ := look_some h
          exact absurd (hu z (List.mem_append_left _ a) x (by simp) b hd c) (fun e => hx (e ▸ a))
/-- the same symbol, where the objects stand the other way round -/
def flip (n : Nat) (x : Ent) : Ent := ⟨n - 1 - x.i, x.k, x.s⟩
theorem row_filter (objs : List ObjV) (i j : Nat) : (row objs j).filter (fun x => decide (x.i = i)) = if j = i then row objs j else [] := by
  by_cases h : j = i
  · rw [if_pos h]
    exact List.filter_eq_self.2 fun x hx => by rw [(mem_row.1 hx).1]; exact decide_eq_true h
  · rw [if_neg h]
    exact List.filter_eq_nil_iff.2 fun x hx => by rw [(mem_row.1 hx).1]; simpa using h
theorem flatTo_filter (objs : List ObjV) (i m : Nat) : (flatTo objs m).filter (fun x => decide (x.i = i)) = if i < m then row objs i else [] := by
  induction m with
  | zero => simp [flatTo]
  | succ m ih =>
    rw [flatTo_succ, List.filter_append, ih, row_filter]
    by_cases h1 : i < m
    · rw [if_pos h1, if_neg (by omega), if_pos (by omega), List.append_nil]
    · by_cases h2 : m = i
      · subst h2
        rw [if_neg h1, if_pos rfl, if_pos (by omega), List.nil_append]
      · rw [if_neg h1, if_neg h2, if_neg (by omega)]; rfl
/-- an object's targets -/
theorem rowAt_row {objs : List ObjV} {i : Nat} (hi : i < objs.length) : RsT.rowAt (flat objs) (flat objs) i = (row objs i).map (tgs (flat objs)) := by
  unfold RsT.rowAt
  rw [show (flat objs).filter (fun x => decide (x.i = i)) = row objs i by
    unfold flat
    rw [flatTo_filter, if_pos hi]]
end RsQ
end Go.Proofs.YtlmblfkcmhgdaaaGreat
namespace Go.Proofs.YtlmblfkcmhgdaaaGreat
open Go.RowKit Go.Maps Go.WideMaps
set_option linter.unusedVariables false
set_option linter.unusedSimpArgs false
namespace RsB
open OO OJ RsM RsI RsP RsR RsD RsS RsT RsN RsV RsY RsF RsQ OCk
open OI hiding Mid Did
theorem flatTo_len {objs : List ObjV} (h : ∀ o ∈ objs, o.ss.length ≤ 60) (i : Nat) : (flatTo objs i).length ≤ 60 * i := by
  induction i with
  | zero => simp [flatTo]
  | succ i ih =>
    rw [flatTo_succ, List.length_append, row_length]
    have : (ssAt objs i).length ≤ 60 := by
      unfold ssAt
      rw [List.getD_eq_getElem?_getD]
      cases e : objs[i]? with
      | none => exact Nat.zero_le _
      | some o => exact h o (List.mem_of_getElem? e)
    omega
theorem few_flat {objs : List ObjV} (h : fewO objs = true) : objs.length ≤ 12 ∧ (∀ o ∈ objs, o.ss.length ≤ maxLen) ∧ (flat objs).length ≤ 100000 := by
  obtain ⟨h1, h2⟩ := fewO_lim h
  have h3 : ∀ o ∈ objs, o.ss.length ≤ 60 := fun o ho => (OE.few_lim (h2 o ho)).2.2.1
  refine ⟨h1, fun o ho => by have := h3 o ho; unfold maxLen; omega, ?_⟩
  have := flatTo_len h3 objs.length
  unfold flat
  omega
/-- the targets, or none -/
def tgL (objs : List ObjV) : List (List (Int × Int)) := if resCode objs = 0 then (List.range objs.length).map (RsT.rowAt (flat objs) (flat objs)) else []
theorem tgts_none (W : World) : TgtsAt W (.slice none 0 0) [] := ⟨none, 0, rfl, fun h => absurd h (by simp)⟩
theorem out_tgts {objs : List ObjV} {W : World} {tv : Value} {i k e : Int} (h : Out objs W tv i k e) : TgtsAt W tv (tgL objs) := by
  have hc := res_code h
  unfold tgL
  unfold Out at h
  by_cases h0 : 0 ≤ noneFrom objs 0
  · rw [if_pos h0] at h
    obtain ⟨rfl, -, -, rfl⟩ := h
    rw [if_neg (by omega)]
    exact tgts_none W
  · rw [if_neg h0] at h
    cases hag : againL (flat objs) with
    | cons x l =>
      rw [hag] at h
      obtain ⟨rfl, -, -, rfl⟩ := h
      rw [if_neg (by omega)]
      exact tgts_none W
    | nil =>
      rw [hag] at h
      cases hf : (flat objs).find? (RsT.bad (flat objs)) with
      | some x =>
        rw [hf] at h
        obtain ⟨rfl, -, -, rfl⟩ := h
        rw [if_neg (by omega)]
        exact tgts_none W
      | none =>
        rw [hf] at h
        obtain ⟨-, -, rfl, h⟩ := h
        rw [if_pos (by omega)]
        exact h
/-- a cell of an object of the list -/
def srcOf (w : World) (p : Option Addr) (j q : Nat) : Option Value := match p with
  | some a => w.cell? ⟨a.block, a.off + j * 4 + q, none⟩
  | none => none
end RsB
end Go.Proofs.YtlmblfkcmhgdaaaGreat
