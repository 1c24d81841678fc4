/-
  Objects as a parameter: opened. No condition but that the type can be read.
-/
import Derived.Test.YtlmblfkcmhgdaaaObjB
import Derived.Test.YtlmblfkcmhgdaaaResM
namespace Go.Proofs.Ytlmblfkcmhgdaaa
open Go.RowKit Go.ChangeShapes Go.WideShapes Go.ChangeAt Go.Deep Go.Joins
set_option linter.unusedVariables false
set_option linter.unusedSimpArgs false
namespace RsO
open OO OJ OB RsM
theorem list4 {α : Type} (l : List α) (h : l.length = 4) : ∃ a b c d, l = [a, b, c, d] := by
  match l, h with
  | [a, b, c, d], _ => exact ⟨a, b, c, d, rfl⟩
section
variable {H : Type} {enc : TypeId × Value → H}
set_option maxRecDepth 100000 in
theorem el_open {W : World} {n : Nat} {cs : List Value} {x : DataW H × List MemPlace} (h : DataW.trod enc Try.prog W 0 (fun _ => true) true n 31 cs = some x) :
    ∃ (v0 v1 v2 v3 : Value) (o : ObjV), cs = [v0, v1, v2, v3] ∧ ObjAt W.heap.size W v0 v1 v2 v3 o ∧ o.Wf := by
  obtain ⟨ys, n', hn', hx, hl, hyl, hf⟩ := DataW.trod_struct Try.underlying31 h
  rw [show Try.prog.cellsOf 31 = 4 by kernel_rfl] at hl
  obtain ⟨c0, c1, c2, c3, rfl⟩ := list4 cs hl
  obtain ⟨y0, y1, y2, y3, rfl⟩ := list4 ys hyl
  have g0 : DataW.trod enc Try.prog W 0 (fun _ => true) true n' 26 [c0] = some y0 := by simpa [show Try.prog.cellsOf 26 = 1 by kernel_rfl] using hf 0 _ rfl
  have g1 : DataW.trod enc Try.prog W 0 (fun _ => true) true n' 27 [c1] = some y1 := by simpa [show Try.prog.cellsOf 27 = 1 by kernel_rfl] using hf 1 _ rfl
  have g2 : DataW.trod enc Try.prog W 0 (fun _ => true) true n' 28 [c2] = some y2 := by simpa [show Try.prog.cellsOf 28 = 1 by kernel_rfl] using hf 2 _ rfl
  have g3 : DataW.trod enc Try.prog W 0 (fun _ => true) true n' 29 [c3] = some y3 := by simpa [show Try.prog.cellsOf 29 = 1 by kernel_rfl] using hf 3 _ rfl
  obtain ⟨ws, a0, b0⟩ := words_open g0
  obtain ⟨ds, a1, b1⟩ := bytes_open g1
  obtain ⟨ss, a2, b2⟩ := syms_open g2
  obtain ⟨rs, a3, b3⟩ := rels_open g3
  exact ⟨c0, c1, c2, c3, ⟨ws, ds, ss, rs⟩, rfl, ⟨a0, a1, a2, a3⟩, ⟨fun x hx => bounds_u32 (b0 x hx), fun x hx => bounds_u8 (b1 x hx), b2, b3⟩⟩
def noObj : ObjV := ⟨[], [], [], []⟩
theorem objs_open {W : World} {c : Value} {x : DataW H × List MemPlace} {fuel : Nat} (hf : DataW.trod enc Try.prog W 0 (fun _ => true) true fuel 22 [c] = some x) :
    ∃ objs : List ObjV, ObjsAt W.heap.size W c objs ∧ ∀ o ∈ objs, o.Wf := by
  rcases open_slice Try.underlying22 hf with ⟨hc, -⟩ | ⟨a, len, cap, m, n, D, Pl, hc, -, hl, hm, hmm, -, hi⟩
  · simp only [List.cons.injEq, and_true] at hc
    subst hc
    exact ⟨[], ⟨none, 0, rfl, fun h => absurd h (by simp)⟩, by simp⟩
  · simp only [List.cons.injEq, and_true] at hc
    subst hc
    simp only [if_true] at hmm
    subst hmm
    have key : ∀ i, ∃ s : ObjV × Value × Value × Value × Value, i < m → (∀ j v, [s.2.1, s.2.2.1, s.2.2.2.1, s.2.2.2.2][j]? = some v → W.cell? ((a.add (i * 4)).add j) = some v) ∧ ObjAt W.heap.size W s.2.1 s.2.2.1 s.2.2.2.1 s.2.2.2.2 s.1 ∧ s.1.Wf := fun i => by
      by_cases h : i < m
      · obtain ⟨cs', h1, h2⟩ := hi i h
        rw [show Try.prog.cellsOf 31 = 4 by kernel_rfl] at h1
        obtain ⟨v0, v1, v2, v3, o, rfl, hat, hw⟩ := el_open h2
        obtain ⟨-, -, h3⟩ := World.cells?_some h1
        refine ⟨⟨o, v0, v1, v2, v3⟩, fun _ => ⟨fun j v hj => ?_, hat, hw⟩⟩
        have hj5 : j < 4 := (List.getElem?_eq_some_iff.1 hj).1
        exact (h3 j hj5).trans hj
      · exact ⟨⟨noObj, undef, undef, undef, undef⟩, fun h' => absurd h' h⟩
    obtain ⟨f, hF⟩ := Classical.axiomOfChoice key
    refine ⟨(List.range len).map fun i => (f i).1, ⟨some a, m, by simp, fun h0 => ?_⟩, fun s hs => ?_⟩
    · rw [List.length_map, List.length_range] at h0
      have hc0 := (hF 0 (by omega)).1 0 _ rfl
      obtain ⟨b, o, spot⟩ := a
      have hspot : spot = none := by simpa [Addr.add] using World.cell?_spot hc0
      subst hspot
      have hlt : b < W.heap.size := cell_lt (p := (⟨b, o, none⟩ : Addr).add (0 * 4) |>.add 0) hc0
      refine ⟨b, o, rfl, hlt, by simpa using hl, hm, fun j s hj => ?_⟩
      rw [List.getElem?_map] at hj
      have hj' : j < len := by
        by_cases h : j < len
        · exact h
        · rw [List.getElem?_eq_none (by simpa using h)] at hj; cases hj
      rw [List.getElem?_range hj'] at hj
      simp only [Option.map_some, Option.some.injEq] at hj
      subst hj
      obtain ⟨hall, hat, -⟩ := hF j (by omega)
      exact ⟨_, _, _, _, (congrArg _ (add_at b o (j * 4) 0)).symm.trans (hall 0 _ rfl), (congrArg _ (add_at b o (j * 4) 1)).symm.trans (hall 1 _ rfl), (congrArg _ (add_at b o (j * 4) 2)).symm.trans (hall 2 _ rfl), (congrArg _ (add_at b o (j * 4) 3)).symm.trans (hall 3 _ rfl), hat⟩
    · obtain ⟨i, hi', rfl⟩ := List.mem_map.1 hs
      exact (hF i (by have := List.mem_range.1 hi'; omega)).2.2
set_option maxRecDepth 100000 in
theorem open_objs {W : World} {base : Nat} {v : Value} {d : DataW H} {p : List MemPlace} (hval : Value.okWide Try.prog W .any base 22 v) (h : DataW.Trod enc Try.prog W 0 (fun _ => true) true 22 v d p) :
    ∃ objs : List ObjV, ObjsAt W.heap.size W v objs ∧ ∀ o ∈ objs, o.Wf := by
  obtain ⟨a1, len, cap, rfl⟩ := okWide_slice Try.underlying22 hval
  obtain ⟨n, hn⟩ := h
  exact objs_open (show DataW.trod enc Try.prog W 0 (fun _ => true) true n 22 [.slice a1 len cap] = some (d, p) from hn)
end
end RsO
end Go.Proofs.Ytlmblfkcmhgdaaa
