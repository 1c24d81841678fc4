/-
  An object as a parameter: opened; and any parameter shut again behind a call that made blocks of its own alone. No condition but that the type can be read.
-/
import Derived.Test.YtlmblfkcmhgdaaaObjR
import Derived.Deep.Slices
import Derived.Deep.Fields
import Derived.Lib.SmallJoins
import Derived.ChangeSame
import Derived.OpenShut
import Derived.WideKeyArgs
import Derived.ChangeOld
namespace Go.Proofs.Ytlmblfkcmhgdaaa
open Go.RowKit Go.ChangeShapes Go.WideShapes Go.ChangeAt Go.Deep Go.Joins
set_option linter.unusedVariables false
set_option linter.unusedSimpArgs false
namespace OB
open OO OJ
theorem cell_lt {w : World} {p : Addr} {v : Value} (h : w.cell? p = some v) : p.block < w.heap.size := by
  rcases Nat.lt_or_ge p.block w.heap.size with h' | h'
  · exact h'
  · unfold World.cell? at h
    simp [Array.getElem?_eq_none h'] at h
theorem add_at (b o i j : Nat) : ((⟨b, o, none⟩ : Addr).add i).add j = ⟨b, o + i + j, none⟩ := by rw [OO.add_plain, OO.add_plain]
section
variable {H : Type} {enc : TypeId × Value → H}
theorem shut_any {t : TypeId} {W W' : World} {v : Value} {d : DataW H} {ps : List MemPlace} (hl : laidOutB Try.prog = true) (hr : Try.prog.readableRec t = true) (hrow : t < Try.prog.types.size)
    (h : DataW.Trod enc Try.prog W 0 (fun _ => true) true t v d ps) (hb : Below W.heap.size W W') : DataW.Trod enc Try.prog W' 0 (fun b => decide (b < W.heap.size)) true t v d ps := by
  have hlt : ∀ p ∈ ps, p.block < W.heap.size := by
    obtain ⟨n, hn⟩ := h
    exact DataW.trod_lt n _ _ _ hn
  refine Go.WideElems.Trod_stays hl hr hrow h (fun p hp => hb.same (hlt p hp)) (fun p hp => decide_eq_true (hlt p hp))
def symV (s : SymV) : List Value := [.string s.name, .int .i64 s.sect, .int .i64 s.val, .int .i64 s.frame, .bool s.glob]
def relV (s : RelV) : List Value := [.int .i64 s.sect, .int .i64 s.place, .int .i64 s.kind, .int .i64 s.sym, .int .i64 s.add]
theorem list5 {α : Type} (l : List α) (h : l.length = 5) : ∃ a b c d e, l = [a, b, c, d, e] := by
  match l, h with
  | [a, b, c, d, e], _ => exact ⟨a, b, c, d, e, rfl⟩
set_option maxRecDepth 100000 in
theorem sym_open {W : World} {sp : Nat → Bool} {n : Nat} {cs : List Value} {x : DataW H × List MemPlace} (h : DataW.trod enc Try.prog W 0 sp true n 34 cs = some x) :
    ∃ s : SymV, cs = [.string s.name, .int .i64 s.sect, .int .i64 s.val, .int .i64 s.frame, .bool s.glob] ∧ s.Wf := by
  obtain ⟨ys, n', hn', hx, hl, hyl, hf⟩ := DataW.trod_struct Try.underlying34 h
  rw [show Try.prog.cellsOf 34 = 5 by kernel_rfl] at hl
  obtain ⟨c0, c1, c2, c3, c4, rfl⟩ := list5 cs hl
  obtain ⟨y0, y1, y2, y3, y4, rfl⟩ := list5 ys hyl
  have g0 : DataW.trod enc Try.prog W 0 sp true n' 9 [c0] = some y0 := by simpa [show Try.prog.cellsOf 9 = 1 by kernel_rfl] using hf 0 _ rfl
  have g1 : DataW.trod enc Try.prog W 0 sp true n' 3 [c1] = some y1 := by simpa [show Try.prog.cellsOf 3 = 1 by kernel_rfl] using hf 1 _ rfl
  have g2 : DataW.trod enc Try.prog W 0 sp true n' 3 [c2] = some y2 := by simpa [show Try.prog.cellsOf 3 = 1 by kernel_rfl] using hf 2 _ rfl
  have g3 : DataW.trod enc Try.prog W 0 sp true n' 3 [c3] = some y3 := by simpa [show Try.prog.cellsOf 3 = 1 by kernel_rfl] using hf 3 _ rfl
  have g4 : DataW.trod enc Try.prog W 0 sp true n' 4 [c4] = some y4 := by simpa [show Try.prog.cellsOf 4 = 1 by kernel_rfl] using hf 4 _ rfl
  obtain ⟨x0, e0, -, w0⟩ := DataW.trod_string Try.underlying9 g0
  simp only [List.cons.injEq, and_true] at e0
  subst e0
  obtain ⟨x1, e1, -, w1⟩ := DataW.trod_int Try.underlying3 g1
  simp only [List.cons.injEq, and_true] at e1
  subst e1
  obtain ⟨x2, e2, -, w2⟩ := DataW.trod_int Try.underlying3 g2
  simp only [List.cons.injEq, and_true] at e2
  subst e2
  obtain ⟨x3, e3, -, w3⟩ := DataW.trod_int Try.underlying3 g3
  simp only [List.cons.injEq, and_true] at e3
  subst e3
  obtain ⟨x4, e4, -⟩ := DataW.trod_bool Try.underlying4 g4
  simp only [List.cons.injEq, and_true] at e4
  subst e4
  exact ⟨⟨x0, x1, x2, x3, x4⟩, rfl, ⟨w0, bounds_i64 w1, bounds_i64 w2, bounds_i64 w3⟩⟩
set_option maxRecDepth 100000 in
theorem rel_open {W : World} {sp : Nat → Bool} {n : Nat} {cs : List Value} {x : DataW H × List MemPlace} (h : DataW.trod enc Try.prog W 0 sp true n 65 cs = some x) :
    ∃ s : RelV, cs = [.int .i64 s.sect, .int .i64 s.place, .int .i64 s.kind, .int .i64 s.sym, .int .i64 s.add] ∧ s.Wf := by
  obtain ⟨ys, n', hn', hx, hl, hyl, hf⟩ := DataW.trod_struct Try.underlying65 h
  rw [show Try.prog.cellsOf 65 = 5 by kernel_rfl] at hl
  obtain ⟨c0, c1, c2, c3, c4, rfl⟩ := list5 cs hl
  obtain ⟨y0, y1, y2, y3, y4, rfl⟩ := list5 ys hyl
  have g0 : DataW.trod enc Try.prog W 0 sp true n' 3 [c0] = some y0 := by simpa [show Try.prog.cellsOf 3 = 1 by kernel_rfl] using hf 0 _ rfl
  have g1 : DataW.trod enc Try.prog W 0 sp true n' 3 [c1] = some y1 := by simpa [show Try.prog.cellsOf 3 = 1 by kernel_rfl] using hf 1 _ rfl
  have g2 : DataW.trod enc Try.prog W 0 sp true n' 3 [c2] = some y2 := by simpa [show Try.prog.cellsOf 3 = 1 by kernel_rfl] using hf 2 _ rfl
  have g3 : DataW.trod enc Try.prog W 0 sp true n' 3 [c3] = some y3 := by simpa [show Try.prog.cellsOf 3 = 1 by kernel_rfl] using hf 3 _ rfl
  have g4 : DataW.trod enc Try.prog W 0 sp true n' 3 [c4] = some y4 := by simpa [show Try.prog.cellsOf 3 = 1 by kernel_rfl] using hf 4 _ rfl
  obtain ⟨x0, e0, -, w0⟩ := DataW.trod_int Try.underlying3 g0
  simp only [List.cons.injEq, and_true] at e0
  subst e0
  obtain ⟨x1, e1, -, w1⟩ := DataW.trod_int Try.underlying3 g1
  simp only [List.cons.injEq, and_true] at e1
  subst e1
  obtain ⟨x2, e2, -, w2⟩ := DataW.trod_int Try.underlying3 g2
  simp only [List.cons.injEq, and_true] at e2
  subst e2
  obtain ⟨x3, e3, -, w3⟩ := DataW.trod_int Try.underlying3 g3
  simp only [List.cons.injEq, and_true] at e3
  subst e3
  obtain ⟨x4, e4, -, w4⟩ := DataW.trod_int Try.underlying3 g4
  simp only [List.cons.injEq, and_true] at e4
  subst e4
  exact ⟨⟨x0, x1, x2, x3, x4⟩, rfl, ⟨bounds_i64 w0, bounds_i64 w1, bounds_i64 w2, bounds_i64 w3, bounds_i64 w4⟩⟩
theorem syms_open {W : World} {c : Value} {x : DataW H × List MemPlace} {fuel : Nat} (hf : DataW.trod enc Try.prog W 0 (fun _ => true) true fuel 28 [c] = some x) :
    ∃ ss : List SymV, Syms W.heap.size W c ss ∧ ∀ s ∈ ss, s.Wf := by
  rcases open_slice Try.underlying28 hf with ⟨hc, -⟩ | ⟨a, len, cap, m, n, D, Pl, hc, -, hl, hm, hmm, -, hi⟩
  · simp only [List.cons.injEq, and_true] at hc
    subst hc
    exact ⟨[], ⟨none, 0, rfl, fun h => absurd h (by simp)⟩, by simp⟩
  · simp only [List.cons.injEq, and_true] at hc
    subst hc
    simp only [if_true] at hmm
    subst hmm
    have key : ∀ i, ∃ s : SymV, i < m → (∀ j v, (symV s)[j]? = some v → W.cell? ((a.add (i * 5)).add j) = some v) ∧ s.Wf := fun i => by
      by_cases h : i < m
      · obtain ⟨cs', h1, h2⟩ := hi i h
        rw [show Try.prog.cellsOf 34 = 5 by kernel_rfl] at h1
        obtain ⟨s, rfl, hw⟩ := sym_open h2
        obtain ⟨-, -, h3⟩ := World.cells?_some h1
        refine ⟨s, fun _ => ⟨fun j v hj => ?_, hw⟩⟩
        have hj5 : j < 5 := (List.getElem?_eq_some_iff.1 hj).1
        exact (h3 j hj5).trans hj
      · exact ⟨⟨⟨#[]⟩, 0, 0, 0, false⟩, fun h' => absurd h' h⟩
    obtain ⟨f, hF⟩ := Classical.axiomOfChoice key
    refine ⟨(List.range len).map f, ⟨some a, m, by simp, fun h0 => ?_⟩, fun s hs => ?_⟩
    · rw [List.length_map, List.length_range] at h0
      have hc0 := (hF 0 (by omega)).1 0 _ rfl
      obtain ⟨b, o, spot⟩ := a
      have hspot : spot = none := by simpa [Addr.add] using World.cell?_spot hc0
      subst hspot
      have hlt : b < W.heap.size := cell_lt (p := (⟨b, o, none⟩ : Addr).add (0 * 5) |>.add 0) hc0
      refine ⟨b, o, rfl, hlt, by simpa using hl, hm, fun j s hj => ?_⟩
      rw [List.getElem?_map] at hj
      have hj' : j < len := by
        by_cases h : j < len
        · exact h
        · rw [List.getElem?_eq_none (by simpa using h)] at hj; cases hj
      rw [List.getElem?_range hj'] at hj
      simp only [Option.map_some, Option.some.injEq] at hj
      subst hj
      have hall := (hF j (by omega)).1
      exact ⟨(congrArg _ (add_at b o (j * 5) 0)).symm.trans (hall 0 _ rfl), (congrArg _ (add_at b o (j * 5) 1)).symm.trans (hall 1 _ rfl), (congrArg _ (add_at b o (j * 5) 2)).symm.trans (hall 2 _ rfl), (congrArg _ (add_at b o (j * 5) 3)).symm.trans (hall 3 _ rfl), (congrArg _ (add_at b o (j * 5) 4)).symm.trans (hall 4 _ rfl)⟩
    · obtain ⟨i, hi', rfl⟩ := List.mem_map.1 hs
      exact (hF i (by have := List.mem_range.1 hi'; omega)).2
theorem rels_open {W : World} {c : Value} {x : DataW H × List MemPlace} {fuel : Nat} (hf : DataW.trod enc Try.prog W 0 (fun _ => true) true fuel 29 [c] = some x) :
    ∃ ss : List RelV, Rels W.heap.size W c ss ∧ ∀ s ∈ ss, s.Wf := by
  rcases open_slice Try.underlying29 hf with ⟨hc, -⟩ | ⟨a, len, cap, m, n, D, Pl, hc, -, hl, hm, hmm, -, hi⟩
  · simp only [List.cons.injEq, and_true] at hc
    subst hc
    exact ⟨[], ⟨none, 0, rfl, fun h => absurd h (by simp)⟩, by simp⟩
  · simp only [List.cons.injEq, and_true] at hc
    subst hc
    simp only [if_true] at hmm
    subst hmm
    have key : ∀ i, ∃ s : RelV, i < m → (∀ j v, (relV s)[j]? = some v → W.cell? ((a.add (i * 5)).add j) = some v) ∧ s.Wf := fun i => by
      by_cases h : i < m
      · obtain ⟨cs', h1, h2⟩ := hi i h
        rw [show Try.prog.cellsOf 65 = 5 by kernel_rfl] at h1
        obtain ⟨s, rfl, hw⟩ := rel_open h2
        obtain ⟨-, -, h3⟩ := World.cells?_some h1
        refine ⟨s, fun _ => ⟨fun j v hj => ?_, hw⟩⟩
        have hj5 : j < 5 := (List.getElem?_eq_some_iff.1 hj).1
        exact (h3 j hj5).trans hj
      · exact ⟨⟨0, 0, 0, 0, 0⟩, fun h' => absurd h' h⟩
    obtain ⟨f, hF⟩ := Classical.axiomOfChoice key
    refine ⟨(List.range len).map f, ⟨some a, m, by simp, fun h0 => ?_⟩, fun s hs => ?_⟩
    · rw [List.length_map, List.length_range] at h0
      have hc0 := (hF 0 (by omega)).1 0 _ rfl
      obtain ⟨b, o, spot⟩ := a
      have hspot : spot = none := by simpa [Addr.add] using World.cell?_spot hc0
      subst hspot
      have hlt : b < W.heap.size := cell_lt (p := (⟨b, o, none⟩ : Addr).add (0 * 5) |>.add 0) hc0
      refine ⟨b, o, rfl, hlt, by simpa using hl, hm, fun j s hj => ?_⟩
      rw [List.getElem?_map] at hj
      have hj' : j < len := by
        by_cases h : j < len
        · exact h
        · rw [List.getElem?_eq_none (by simpa using h)] at hj; cases hj
      rw [List.getElem?_range hj'] at hj
      simp only [Option.map_some, Option.some.injEq] at hj
      subst hj
      have hall := (hF j (by omega)).1
      exact ⟨(congrArg _ (add_at b o (j * 5) 0)).symm.trans (hall 0 _ rfl), (congrArg _ (add_at b o (j * 5) 1)).symm.trans (hall 1 _ rfl), (congrArg _ (add_at b o (j * 5) 2)).symm.trans (hall 2 _ rfl), (congrArg _ (add_at b o (j * 5) 3)).symm.trans (hall 3 _ rfl), (congrArg _ (add_at b o (j * 5) 4)).symm.trans (hall 4 _ rfl)⟩
    · obtain ⟨i, hi', rfl⟩ := List.mem_map.1 hs
      exact (hF i (by have := List.mem_range.1 hi'; omega)).2
theorem words_open {W : World} {c : Value} {x : DataW H × List MemPlace} {fuel : Nat} (hf : DataW.trod enc Try.prog W 0 (fun _ => true) true fuel 26 [c] = some x) :
    ∃ xs : List Int, Nums8 .u32 W.heap.size W c xs ∧ ∀ x ∈ xs, (Lit.int .u32 x).wf = true := by
  rcases open_ints Try.underlying26 Try.underlying25 (by kernel_rfl) hf with ⟨hc, -⟩ | ⟨a, len, cap, zs, hc, _, hl, hm, hz, -, hcell, hwz⟩
  · simp only [List.cons.injEq, and_true] at hc
    subst hc
    exact ⟨[], ⟨none, 0, rfl, fun h => absurd h (by simp)⟩, by simp⟩
  · simp only [List.cons.injEq, and_true] at hc
    subst hc
    simp only [if_true] at hz
    have hlen : (zs.take len).length = len := by simp; omega
    refine ⟨zs.take len, ⟨some a, cap, by rw [hlen], fun h0 => ?_⟩, fun x hx => hwz x (List.mem_of_mem_take hx)⟩
    rw [hlen] at h0
    obtain ⟨b, off, rfl, hc2⟩ := ints_at hcell (by omega)
    refine ⟨b, off, rfl, cell_lt (hc2 0 (by omega)), by omega, hm, fun j x hj => ?_⟩
    have hjl : j < len := by
      have := (List.getElem?_eq_some_iff.1 hj).1
      omega
    rw [List.getElem?_take, if_pos hjl] at hj
    rw [hc2 j (by omega), List.getD_eq_getElem?_getD, hj]; rfl
theorem bytes_open {W : World} {c : Value} {x : DataW H × List MemPlace} {fuel : Nat} (hf : DataW.trod enc Try.prog W 0 (fun _ => true) true fuel 27 [c] = some x) :
    ∃ xs : List Int, Nums8 .u8 W.heap.size W c xs ∧ ∀ x ∈ xs, (Lit.int .u8 x).wf = true := by
  rcases open_ints Try.underlying27 Try.underlying5 (by kernel_rfl) hf with ⟨hc, -⟩ | ⟨a, len, cap, zs, hc, _, hl, hm, hz, -, hcell, hwz⟩
  · simp only [List.cons.injEq, and_true] at hc
    subst hc
    exact ⟨[], ⟨none, 0, rfl, fun h => absurd h (by simp)⟩, by simp⟩
  · simp only [List.cons.injEq, and_true] at hc
    subst hc
    simp only [if_true] at hz
    have hlen : (zs.take len).length = len := by simp; omega
    refine ⟨zs.take len, ⟨some a, cap, by rw [hlen], fun h0 => ?_⟩, fun x hx => hwz x (List.mem_of_mem_take hx)⟩
    rw [hlen] at h0
    obtain ⟨b, off, rfl, hc2⟩ := ints_at hcell (by omega)
    refine ⟨b, off, rfl, cell_lt (hc2 0 (by omega)), by omega, hm, fun j x hj => ?_⟩
    have hjl : j < len := by
      have := (List.getElem?_eq_some_iff.1 hj).1
      omega
    rw [List.getElem?_take, if_pos hjl] at hj
    rw [hc2 j (by omega), List.getD_eq_getElem?_getD, hj]; rfl
set_option maxRecDepth 100000 in
theorem open_obj {W : World} {base : Nat} {v : Value} {d : DataW H} {p : List MemPlace} (hval : Value.okWide Try.prog W .any base 31 v) (h : DataW.Trod enc Try.prog W 0 (fun _ => true) true 31 v d p) :
    ∃ (v0 v1 v2 v3 : Value) (o : ObjV), v = .agg #[v0, v1, v2, v3] ∧ ObjAt W.heap.size W v0 v1 v2 v3 o ∧ o.Wf := by
  obtain ⟨v0, v1, v2, v3, y0, y1, y2, y3, n, rfl, -, -, h0, h1, h2, h3⟩ := open_agg4 Try.underlying31 (by kernel_rfl) (by kernel_rfl) hval h
  obtain ⟨ws, a0, b0⟩ := words_open h0
  obtain ⟨ds, a1, b1⟩ := bytes_open h1
  obtain ⟨ss, a2, b2⟩ := syms_open h2
  obtain ⟨rs, a3, b3⟩ := rels_open h3
  exact ⟨v0, v1, v2, v3, ⟨ws, ds, ss, rs⟩, rfl, ⟨a0, a1, a2, a3⟩, ⟨fun x hx => bounds_u32 (b0 x hx), fun x hx => bounds_u8 (b1 x hx), b2, b3⟩⟩
theorem Sl_len {n₀ : Nat} {v : Value} {n : Nat} {F : Nat → Nat → Prop} (h : Sl n₀ v n F) : n ≤ maxLen := by
  obtain ⟨p, c, -, hh⟩ := h
  by_cases h0 : 0 < n
  · obtain ⟨b, o, -, -, h1, h2, -⟩ := hh h0
    exact Nat.le_trans h1 h2
  · omega
theorem lens {n₀ : Nat} {w : World} {v0 v1 v2 v3 : Value} {o : ObjV} (h : ObjAt n₀ w v0 v1 v2 v3 o) : o.ws.length ≤ maxLen ∧ o.ds.length ≤ maxLen ∧ o.ss.length ≤ maxLen ∧ o.rs.length ≤ maxLen :=
  ⟨Sl_len h.ws, Sl_len h.ds, Sl_len h.ss, Sl_len h.rs⟩
end
end OB
end Go.Proofs.Ytlmblfkcmhgdaaa
