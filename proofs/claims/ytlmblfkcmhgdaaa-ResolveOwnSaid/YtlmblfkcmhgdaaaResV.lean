/-
  Resolve: a contract. Condition: the objects lie in memory, and have not too many symbols.
-/
import Derived.Test.YtlmblfkcmhgdaaaResT
import Derived.RegionTactic
import Derived.BigRegion
import Derived.Laws.OwnMore
namespace Go.Proofs.Ytlmblfkcmhgdaaa
open Go.RowKit Go.Maps Go.WideMaps
set_option linter.unusedVariables false
set_option linter.unusedSimpArgs false
namespace RsV
open OO OJ RsM RsI RsP RsR RsD RsS RsT RsN OCk
open OI hiding Mid Did
attribute [local go_sem] Oper.semAt_some
theorem infoR : (Try.prog.info? TS).map (fun i => (i.zero, i.size, i.bytes)) = some (some (.slice none 0 0), 1, 24) := by kernel_rfl
/-- where a list of targets lies -/
def TgtsAt (W : World) (tv : Value) (rows : List (List (Int × Int))) : Prop :=
  Sl W.heap.size tv rows.length fun b o => ∀ i r, rows[i]? = some r → ∃ v, W.cell? ⟨b, o + i, none⟩ = some v ∧ Sl W.heap.size v r.length fun b' o' => ∀ j t, r[j]? = some t → W.cell? ⟨b', o' + j * 2, none⟩ = some (.int .i64 t.1) ∧ W.cell? ⟨b', o' + j * 2 + 1, none⟩ = some (.int .i64 t.2)
/-- what Resolve answers -/
def Out (objs : List ObjV) (W : World) (tv : Value) (i k e : Int) : Prop :=
  if 0 ≤ noneFrom objs 0 then tv = .slice none 0 0 ∧ i = noneFrom objs 0 ∧ k = 0 ∧ e = 2 else
  match againL (flat objs) with
  | x :: _ => tv = .slice none 0 0 ∧ i = x.i ∧ k = x.k ∧ e = 4
  | [] => match (flat objs).find? (RsT.bad (flat objs)) with
    | some x => tv = .slice none 0 0 ∧ i = x.i ∧ k = x.k ∧ e = 3
    | none => i = 0 ∧ k = 0 ∧ e = 0 ∧ TgtsAt W tv ((List.range objs.length).map (RsT.rowAt (flat objs) (flat objs)))
def Res (objs : List ObjV) (w : World) (e : Ending) (w' : World) : Prop :=
  ∃ tv i k c, e = .returned (.tuple #[tv, .agg #[.int .i64 i, .int .i64 k], .int .i64 c]) ∧ Out objs w' tv i k c ∧ Below w.heap.size w w'
/-- the rows of targets lie in memory that is new since a heap of that size -/
def TgtsLo (lo : Nat) (W : World) (tv : Value) : Prop :=
  ∀ b o m c, tv = .slice (some ⟨b, o, none⟩) m c → lo ≤ b ∧ ∀ i, i < m → ∀ b' o' m' c', W.cell? ⟨b, o + i, none⟩ = some (.slice (some ⟨b', o', none⟩) m' c') → lo ≤ b'
/-- what Resolve answers, and that it is new memory -/
def ResLo (objs : List ObjV) (w : World) (e : Ending) (w' : World) : Prop :=
  ∃ tv i k c, e = .returned (.tuple #[tv, .agg #[.int .i64 i, .int .i64 k], .int .i64 c]) ∧ Out objs w' tv i k c ∧ Below w.heap.size w w' ∧ TgtsLo w.heap.size w' tv
theorem ResLo.res {objs : List ObjV} {w w' : World} {e : Ending} (h : ResLo objs w e w') : Res objs w e w' := by
  obtain ⟨tv, i, k, c, h1, h2, h3, -⟩ := h
  exact ⟨tv, i, k, c, h1, h2, h3⟩
theorem tgts_lo_none (lo : Nat) (W : World) : TgtsLo lo W (.slice none 0 0) := fun b o m c h => by simp at h
theorem hset {w : World} {g i : Nat} {cs : Array Value} {t : TypeId} (hg : w.heap[g]? = some (.cells cs t (0, 0))) (v : Value) : (w.setCell ⟨g, i, none⟩ v).heap[g]? = some (.cells (cs.setIfInBounds i v) t (0, 0)) := heap_setCell_same w g i cs t v hg
/-- the four results are stored -/
def fin4 (W : World) (r : Nat) (a b c d : Value) : World := (((W.setCell ⟨r, 0, none⟩ a).setCell ⟨r + 1, 0, none⟩ b).setCell ⟨r + 1, 1, none⟩ c).setCell ⟨r + 1 + 1, 0, none⟩ d
structure Fin4 (W : World) (r : Nat) (a b c d : Value) (W' : World) : Prop where
  h0 : W'.heap[r]? = some (.cells #[a] TR (0, 0))
  h1 : W'.heap[r + 1]? = some (.cells #[b, c] TT (0, 0))
  h2 : W'.heap[r + 2]? = some (.cells #[d] TE (0, 0))
  oth : ∀ k, k ≠ r → k ≠ r + 1 → k ≠ r + 2 → W'.heap[k]? = W.heap[k]?
  sz : W'.heap.size = W.heap.size
  os : W'.os = W.os
  tape : W'.tape = W.tape
  output : W'.output = W.output
theorem fin4_ {W : World} {r : Nat} {a0 b0 c0 d0 : Value} (h0 : W.heap[r]? = some (.cells #[a0] TR (0, 0))) (h1 : W.heap[r + 1]? = some (.cells #[b0, c0] TT (0, 0))) (h2 : W.heap[r + 2]? = some (.cells #[d0] TE (0, 0))) (a b c d : Value) : Fin4 W r a b c d (fin4 W r a b c d) := by
  have s0 : (W.setCell ⟨r, 0, none⟩ a).heap[r]? = some (.cells #[a] TR (0, 0)) := hset h0 a
  have s1 : (W.setCell ⟨r, 0, none⟩ a).heap[r + 1]? = some (.cells #[b0, c0] TT (0, 0)) := (Below.heap_setCell _ _ _ _ (by show r + 1 ≠ r; omega)).trans h1
  have s2 : (W.setCell ⟨r, 0, none⟩ a).heap[r + 2]? = some (.cells #[d0] TE (0, 0)) := (Below.heap_setCell _ _ _ _ (by show r + 2 ≠ r; omega)).trans h2
  have t1 := hset s1 (i := 0) b
  have t1 : ((W.setCell ⟨r, 0, none⟩ a).setCell ⟨r + 1, 0, none⟩ b).heap[r + 1]? = some (.cells #[b, c0] TT (0, 0)) := t1
  have u1 : (((W.setCell ⟨r, 0, none⟩ a).setCell ⟨r + 1, 0, none⟩ b).setCell ⟨r + 1, 1, none⟩ c).heap[r + 1]? = some (.cells #[b, c] TT (0, 0)) := hset t1 (i := 1) c
  refine ⟨?_, ?_, ?_, fun k e0 e1 e2 => ?_, ?_, rfl, rfl, rfl⟩
  · exact (Below.heap_setCell _ _ _ _ (by show r ≠ r + 1 + 1; omega)).trans ((Below.heap_setCell _ _ _ _ (by show r ≠ r + 1; omega)).trans ((Below.heap_setCell _ _ _ _ (by show r ≠ r + 1; omega)).trans s0))
  · exact (Below.heap_setCell _ _ _ _ (by show r + 1 ≠ r + 1 + 1; omega)).trans u1
  · exact hset ((Below.heap_setCell _ _ _ _ (by show r + 1 + 1 ≠ r + 1; omega)).trans ((Below.heap_setCell _ _ _ _ (by show r + 1 + 1 ≠ r + 1; omega)).trans s2)) d
  · exact (Below.heap_setCell _ _ _ _ (by show k ≠ r + 1 + 1; omega)).trans ((Below.heap_setCell _ _ _ _ (by show k ≠ r + 1; omega)).trans ((Below.heap_setCell _ _ _ _ (by show k ≠ r + 1; omega)).trans (Below.heap_setCell _ _ _ _ (by show k ≠ r; omega))))
  · unfold fin4; simp only [World.size_setCell]
theorem Fin4.below {w W W' : World} {r : Nat} {a b c d : Value} (h : Fin4 W r a b c d W') (hb : Below r w W) (hr : w.heap.size ≤ W.heap.size) : Below r w W' :=
  ⟨h.os.trans hb.os, h.tape.trans hb.tape, h.output.trans hb.output, by rw [h.sz]; exact hr, fun k hk => (h.oth k (by omega) (by omega) (by omega)).trans (hb.block k hk)⟩
theorem Fin4.cells {W W' : World} {r : Nat} {a b c d : Value} (h : Fin4 W r a b c d W') : W'.cell? ⟨r, 0, none⟩ = some a ∧ W'.cell? ⟨r + 1, 0, none⟩ = some b ∧ W'.cell? ⟨r + 1, 1, none⟩ = some c ∧ W'.cell? ⟨r + 1 + 1, 0, none⟩ = some d :=
  ⟨Lib.cell_of_heap h.h0 0, Lib.cell_of_heap h.h1 0, Lib.cell_of_heap h.h1 1, Lib.cell_of_heap h.h2 0⟩
theorem def2_ {w : World} {n₀ : Nat} {v : Value} {objs : List ObjV} (hn : n₀ ≤ w.heap.size) (ho : ObjsAt n₀ w v objs) (hw : ∀ o ∈ objs, o.Wf) (hm : objs.length ≤ maxLen) (hms : ∀ o ∈ objs, o.ss.length ≤ maxLen) (hN : (flat objs).length ≤ 100000) :
    Calls Try.prog 11 #[v] w fun e w' => ∃ q c, e = .returned (.tuple #[.map (some (w.heap.size + 2)), .slice q (againL (flat objs)).length c]) ∧ w'.ownsMap Try.prog 9 tgtR (w.heap.size + 2) (flat objs).length (namesD (flat objs)) ∧
      w'.ownsRow (w.heap.size + 4) TT 2 (.slice q (againL (flat objs)).length c) (againL (flat objs)).length (entCells (againL (flat objs))) ∧ Below w.heap.size w w' ∧ w.heap.size + 4 ≤ w'.heap.size := by
  refine (definitions_ hn ho hw hm hms hN).mono ?_
  rintro e w' ⟨a, rfl, h1, h2, h3, h4⟩
  have : ∃ q c, a = .slice q (againL (flat objs)).length c := by
    rcases h2.2 with ⟨rfl, e⟩ | ⟨g, cap, cur, rfl, _⟩
    · exact ⟨none, 0, by rw [e]⟩
    · exact ⟨_, _, rfl⟩
  obtain ⟨q, c, rfl⟩ := this
  exact ⟨q, c, rfl, h1, h2, h3, h4⟩
theorem Fin4.drew {W W' : World} {r : Nat} {a b c d : Value} (h : Fin4 W r a b c d W') : Fin4 W r a b c d W'.drew := ⟨h.h0, h.h1, h.h2, h.oth, h.sz, h.os, h.tape, h.output⟩
/-- what the loop has done -/
structure RI (w : World) (F : List Ent) (A M B base n : Nat) (l : List Ent) (W : World) : Prop where
  c0 : W.heap[w.heap.size]? = some (.cells #[.slice none 0 0] TR (0, 0))
  c1 : W.heap[w.heap.size + 1]? = some (.cells #[.int .i64 0, .int .i64 0] TT (0, 0))
  c2 : W.heap[w.heap.size + 2]? = some (.cells #[.int .i64 0] TE (0, 0))
  a : W.heap[A]? = some (.cells #[.map (some M)] TM (0, 0))
  b : W.heap[B]? = some (.cells #[.slice (some ⟨A + 1, 0, none⟩) n n] TR (0, 0))
  map : W.ownsMap Try.prog 9 tgtR M F.length (namesD F)
  rows : ∃ vs, TRows (A + 1) base n (fun i => RsT.rowAt F l i) vs W
  ok : ∀ x ∈ l, RsT.bad F x = false
  bel : Below w.heap.size w W
  zz : base ≤ W.heap.size
structure Lay (w : World) (A M B base : Nat) : Prop where
  m : w.heap.size + 3 ≤ M
  a : M < A
  b : A + 1 < B
  z : B < base
theorem trows_own {O base n : Nat} {f : Nat → List (Int × Int)} {vs : List Value} {W W' : World} {row : Option Nat} (h : TRows O base n f vs W) (hg : W.grownBy W' row) (hr : ∀ r, row = some r → ∃ o : Obj, W.heap[r]? = some o ∧ o.isCells = false) : TRows O base n f vs W' := by
  have key : ∀ {b : Nat} {e : TypeId} {size : Nat} {v : Value} {m : Nat} {xs : List Value}, W.ownsRow b e size v m xs → v.ownBlock = none ∨ v.ownBlock ≠ row := fun {b e size v m xs} ho => by
    cases hv : v.ownBlock with
    | none => exact .inl rfl
    | some g =>
      refine .inr fun e => ?_
      obtain ⟨c, hc, -⟩ := row_block ho g hv
      obtain ⟨o, ho', hn⟩ := hr g e.symm
      rw [hc] at ho'
      cases ho'
      cases hn
  refine h.kept hg ?_ (fun i v hv => key (h.row i v hv))
  have := key h.out
  simpa [Value.ownBlock] using this
theorem RI.own {w : World} {F : List Ent} {A M B base n : Nat} (hl : Lay w A M B base) : OwnFrom base (RI w F A M B base n) := by
  intro l W W' row h hg hr
  have := hl.m
  have := hl.a
  have := hl.b
  have := hl.z
  have hz := h.zz
  have low : ∀ k, k < base → W'.heap[k]? = W.heap[k]? := fun k h1 => hg.block k (by omega) (fun e => by have := (hr k e.symm).1; omega)
  obtain ⟨vs, hv⟩ := h.rows
  exact ⟨(low _ (by omega)).trans h.c0, (low _ (by omega)).trans h.c1, (low _ (by omega)).trans h.c2, (low _ (by omega)).trans h.a, (low _ (by omega)).trans h.b, h.map.kept hg (fun e => by have := (hr _ e.symm).1; omega), ⟨vs, trows_own hv hg fun r e => (hr r e).2⟩, h.ok,
    ⟨hg.os.trans h.bel.os, hg.tape.trans h.bel.tape, hg.output.trans h.bel.output, Nat.le_trans h.bel.size hg.size, fun k hk => (low k (by omega)).trans (h.bel.block k hk)⟩, Nat.le_trans h.zz hg.size⟩
theorem RI.below {w : World} {F : List Ent} {A M B base n : Nat} {l : List Ent} {W W' : World} (hl : Lay w A M B base) (h : RI w F A M B base n l W) (hb : Below W.heap.size W W') : RI w F A M B base n l W' :=
  RI.own hl l W W' none h ⟨hb.os, hb.tape, hb.output, hb.size, fun i hi _ => hb.block i hi⟩ (fun r e => by cases e)
/-- the loop's variables, and that no row of targets lies so high -/
structure BX (A base : Nat) (x : Ent) (b c : Nat) (W : World) : Prop where
  v : Vars base x b c W
  low : ∀ (i : Nat) (q : Addr) (m k : Nat), W.cell? ⟨A + 1, i, none⟩ = some (.slice (some q) m k) → q.block < b
  lt : b < c
theorem BX.own {A base m : Nat} (hA : A + 1 < m) (hB : A + 1 < base) (x : Ent) (b c : Nat) : OwnFrom m (fun (_ : Unit) W => BX A base x b c W) := by
  intro u W W' row h hg hr
  refine ⟨Vars.own x b c u W W' row h.v hg hr, fun i q m' k hc => h.low i q m' k ?_, h.lt⟩
  rcases Nat.lt_or_ge (A + 1) W.heap.size with hlt | hge
  · rw [← hc]
    exact (cell_same (hg.block _ hlt (fun e => by have := (hr _ e.symm).1; omega)) i).symm
  · exfalso
    have h1 := lt_heap h.v.v0
    have h2 := h.v.lb
    omega
theorem made_nil (n : Nat) : (madeCells (Value.slice none 0 0).cells (n * 1)).toList = List.replicate n (.slice none 0 0) := by
  rw [Nat.mul_one]
  exact toList_madeCells_one (Value.slice none 0 0) n
theorem rep_get {n i : Nat} {u v : Value} (h : (List.replicate n u)[i]? = some v) : i < n ∧ v = u := by
  rw [List.getElem?_replicate] at h
  split at h
  · exact ⟨by assumption, (Option.some.inj h).symm⟩
  · cases h
theorem low_rows {O base n : Nat} {f : Nat → List (Int × Int)} {W W' : World} (h : ∃ vs, TRows O base n f vs W) (hO : O < W.heap.size) (hb : Below W.heap.size W W') : ∀ (i : Nat) (q : Addr) (m k : Nat), W'.cell? ⟨O, i, none⟩ = some (.slice (some q) m k) → q.block < W.heap.size := by
  intro i q m k hc
  obtain ⟨vs, hv⟩ := h
  have hc := (hb.cell (p := ⟨O, i, none⟩) hO).symm.trans hc
  rcases hv.out.2 with ⟨e, _⟩ | ⟨g, cap, cur, e, _, hg, _, _, hcs, htake⟩
  · simp at e
  · simp only [Value.slice.injEq, Option.some.injEq, Addr.mk.injEq, and_true, true_and] at e
    obtain ⟨rfl, rfl⟩ := e
    rw [Lib.cell_of_heap hg] at hc
    have hi : i < cur.size := (Array.getElem?_eq_some_iff.1 hc).1
    have hvi : vs[i]? = some (.slice (some q) m k) := by
      rw [← htake, List.getElem?_take, if_pos (by omega)]
      simpa using hc
    exact ((hv.row i _ hvi).lt q.block rfl).2
/-- where the loop stopped -/
def IX (w : World) (objs : List ObjV) (c : Code) (pre : List (Fin (flat objs).length)) (W : World) : Prop :=
  c = .ret ∧ ∃ pre0 x, pre = pre0 ++ [x] ∧ (∀ y ∈ pre0.map ent, RsT.bad (flat objs) y = false) ∧ RsT.bad (flat objs) (ent x) = true ∧
    W.heap[w.heap.size]? = some (.cells #[.slice none 0 0] TR (0, 0)) ∧ W.heap[w.heap.size + 1]? = some (.cells #[.int .i64 ((ent x).i : Int), .int .i64 ((ent x).k : Int)] TT (0, 0)) ∧ W.heap[w.heap.size + 2]? = some (.cells #[.int .i64 3] TE (0, 0)) ∧ Below w.heap.size w W
theorem IX.own {w : World} {objs : List ObjV} {m : Nat} (hm : w.heap.size + 3 ≤ m) (c : Code) : OwnFrom m (IX w objs c) := by
  rintro pre W W' row ⟨hc, pre0, x, h1, h2, h3, h4, h5, h6, h7⟩ hg hr
  have low : ∀ k, k < m → k < W.heap.size → W'.heap[k]? = W.heap[k]? := fun k hk hlt => hg.block k hlt (fun e => by have := (hr k e.symm).1; omega)
  exact ⟨hc, pre0, x, h1, h2, h3, (low _ (by omega) (lt_heap h4)).trans h4, (low _ (by omega) (lt_heap h5)).trans h5, (low _ (by omega) (lt_heap h6)).trans h6, hg.os.trans h7.os, hg.tape.trans h7.tape, hg.output.trans h7.output, Nat.le_trans h7.size hg.size, fun k hk => (low k (by omega) (by have := h7.size; omega)).trans (h7.block k hk)⟩
end RsV
end Go.Proofs.Ytlmblfkcmhgdaaa
