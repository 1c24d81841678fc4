/-
  Sizes in memory, as an argument brings them: opened. No condition but that the type can be read.
-/
import Derived.Test.YtaocclgnpphjfaaObjR
import Derived.Test.YtaocclgnpphjfaaLayM
import Derived.Deep.Slices
import Derived.Deep.Fields
import Derived.Lib.SmallJoins
import Derived.ChangeSame
import Derived.OpenShut
import Derived.WideKeyArgs
import Derived.ChangeOld
namespace Go.Proofs.Ytaocclgnpphjfaa
open Go.RowKit Go.ChangeShapes Go.WideShapes Go.ChangeAt Go.Deep Go.Joins
set_option linter.unusedVariables false
set_option linter.unusedSimpArgs false
namespace LS
open OO LM
theorem cell_lt {w : World} {p : Addr} {v : Value} (h : w.cell? p = some v) : p.block < w.heap.size := World.block_lt_of_cell? w p h
theorem add_at (b o i j : Nat) : ((⟨b, o, none⟩ : Addr).add i).add j = ⟨b, o + i + j, none⟩ := by rw [OO.add_plain, OO.add_plain]
/-- sizes where they lie -/
def SzAt (n₀ : Nat) (w : World) (v : Value) (l : Sz) : Prop := Sl n₀ v l.length fun b o => ∀ i x, l[i]? = some x → w.cell? ⟨b, o + i * 2, none⟩ = some (.int .u16 (x.1 : Int)) ∧ w.cell? ⟨b, o + i * 2 + 1, none⟩ = some (.int .u16 (x.2 : Int))
abbrev Sm (l : Sz) : Prop := Small l
theorem list2 {α : Type} (l : List α) (h : l.length = 2) : ∃ a b, l = [a, b] := by
  match l, h with
  | [a, b], _ => exact ⟨a, b, rfl⟩
theorem SzAt.below {n₀ : Nat} {w w' : World} {v : Value} {l : Sz} (h : SzAt n₀ w v l) (hb : Below n₀ w w') : SzAt n₀ w' v l :=
  h.mono (Nat.le_refl _) fun b o hlt hr i x hi => ⟨(hb.cell (p := ⟨b, o + i * 2, none⟩) hlt).trans (hr i x hi).1, (hb.cell (p := ⟨b, o + i * 2 + 1, none⟩) hlt).trans (hr i x hi).2⟩
theorem SzAt.up {n₀ n₁ : Nat} {w : World} {v : Value} {l : Sz} (h : SzAt n₀ w v l) (hn : n₀ ≤ n₁) : SzAt n₁ w v l := h.mono hn fun b o hlt hr => hr
section
variable {H : Type} {enc : TypeId × Value → H}
theorem one16 : Try.prog.cellsOf 74 = 1 := by kernel_rfl
theorem two16 : Try.prog.cellsOf 75 = 2 := by kernel_rfl
set_option maxRecDepth 100000 in
theorem el_open {W : World} {n : Nat} {cs : List Value} {x : DataW H × List MemPlace} (h : DataW.trod enc Try.prog W 0 (fun _ => true) true n 75 cs = some x) :
    ∃ s : Nat × Nat, cs = [.int .u16 (s.1 : Int), .int .u16 (s.2 : Int)] ∧ s.1 ≤ 65535 ∧ s.2 ≤ 65535 := by
  obtain ⟨xs, m, -, -, hl, hxl, hall⟩ := DataW.trod_array Try.underlying75 h
  rw [two16] at hl
  obtain ⟨c0, c1, rfl⟩ := list2 cs (by simpa using hl)
  have h0 := hall 0 (by omega)
  have h1 := hall 1 (by omega)
  rw [one16] at h0 h1
  obtain ⟨y0, y1, rfl⟩ := list2 xs hxl
  have g0 : DataW.trod enc Try.prog W 0 (fun _ => true) true m 74 [c0] = some y0 := by simpa using h0
  have g1 : DataW.trod enc Try.prog W 0 (fun _ => true) true m 74 [c1] = some y1 := by simpa using h1
  obtain ⟨x0, e0, -, w0⟩ := DataW.trod_int Try.underlying74 g0
  obtain ⟨x1, e1, -, w1⟩ := DataW.trod_int Try.underlying74 g1
  simp only [List.cons.injEq, and_true] at e0 e1
  subst e0 e1
  have b0 := bounds_u16 w0
  have b1 := bounds_u16 w1
  obtain ⟨a, rfl⟩ := Int.eq_ofNat_of_zero_le b0.1
  obtain ⟨b, rfl⟩ := Int.eq_ofNat_of_zero_le b1.1
  exact ⟨(a, b), rfl, by simp only; omega, by simp only; omega⟩
theorem sizes_open {W : World} {c : Value} {x : DataW H × List MemPlace} {fuel : Nat} (hf : DataW.trod enc Try.prog W 0 (fun _ => true) true fuel 55 [c] = some x) :
    ∃ l : Sz, SzAt W.heap.size W c l ∧ Sm l := by
  rcases open_slice Try.underlying55 hf with ⟨hc, -⟩ | ⟨a, len, cap, m, n, D, Pl, hc, -, hl, hm, hmm, -, hi⟩
  · simp only [List.cons.injEq, and_true] at hc
    subst hc
    exact ⟨[], ⟨none, 0, rfl, fun h => absurd h (by simp)⟩, by intro x hx; simp at hx⟩
  · simp only [List.cons.injEq, and_true] at hc
    subst hc
    simp only [if_true] at hmm
    subst hmm
    have key : ∀ i, ∃ s : Nat × Nat, i < m → (∀ j v, [Value.int .u16 (s.1 : Int), .int .u16 (s.2 : Int)][j]? = some v → W.cell? ((a.add (i * 2)).add j) = some v) ∧ s.1 ≤ 65535 ∧ s.2 ≤ 65535 := fun i => by
      by_cases h : i < m
      · obtain ⟨cs', h1, h2⟩ := hi i h
        rw [two16] at h1
        obtain ⟨s, rfl, hw⟩ := el_open h2
        obtain ⟨-, -, h3⟩ := World.cells?_some h1
        refine ⟨s, fun _ => ⟨fun j v hj => ?_, hw⟩⟩
        have hj5 : j < 2 := (List.getElem?_eq_some_iff.1 hj).1
        exact (h3 j hj5).trans hj
      · exact ⟨(0, 0), fun h' => absurd h' h⟩
    obtain ⟨f, hF⟩ := Classical.axiomOfChoice key
    refine ⟨(List.range len).map f, ⟨some a, m, by simp, fun h0 => ?_⟩, fun s hs => ?_⟩
    · rw [List.length_map, List.length_range] at h0
      have hc0 := (hF 0 (by omega)).1 0 _ rfl
      obtain ⟨b, o, spot⟩ := a
      have hspot : spot = none := by simpa [Addr.add] using World.cell?_spot hc0
      subst hspot
      have hlt : b < W.heap.size := cell_lt (p := (⟨b, o, none⟩ : Addr).add (0 * 2) |>.add 0) hc0
      refine ⟨b, o, rfl, hlt, by simpa using hl, hm, fun j s hj => ?_⟩
      rw [List.getElem?_map] at hj
      have hj' : j < len := by
        by_cases h : j < len
        · exact h
        · rw [List.getElem?_eq_none (by simpa using h)] at hj; cases hj
      rw [List.getElem?_range hj'] at hj
      simp only [Option.map_some, Option.some.injEq] at hj
      subst hj
      obtain ⟨hall, -⟩ := hF j (by omega)
      exact ⟨(congrArg _ (add_at b o (j * 2) 0)).symm.trans (hall 0 _ rfl), (congrArg _ (add_at b o (j * 2) 1)).symm.trans (hall 1 _ rfl)⟩
    · obtain ⟨i, hi', rfl⟩ := List.mem_map.1 hs
      exact (hF i (by have := List.mem_range.1 hi'; omega)).2
set_option maxRecDepth 100000 in
theorem open_sizes {W : World} {base : Nat} {v : Value} {d : DataW H} {p : List MemPlace} (hval : Value.okWide Try.prog W .any base 55 v) (h : DataW.Trod enc Try.prog W 0 (fun _ => true) true 55 v d p) :
    ∃ l : Sz, SzAt W.heap.size W v l ∧ Sm l := by
  obtain ⟨a1, len, cap, rfl⟩ := okWide_slice Try.underlying55 hval
  obtain ⟨n, hn⟩ := h
  exact sizes_open (show DataW.trod enc Try.prog W 0 (fun _ => true) true n 55 [.slice a1 len cap] = some (d, p) from hn)
set_option maxRecDepth 100000 in
theorem open_pair {W : World} {base : Nat} {v : Value} {d : DataW H} {p : List MemPlace} (hval : Value.okWide Try.prog W .any base 75 v) (h : DataW.Trod enc Try.prog W 0 (fun _ => true) true 75 v d p) :
    ∃ s : Nat × Nat, v = .agg #[.int .u16 (s.1 : Int), .int .u16 (s.2 : Int)] ∧ s.1 ≤ 65535 ∧ s.2 ≤ 65535 := by
  obtain ⟨cs, rfl, hsz, _⟩ : ∃ cs, v = .agg cs ∧ cs.size = Try.prog.cellsOf 75 ∧ Row.okWide Try.prog W .any base 75 cs := by
    simpa [Value.okWide, Try.underlying75] using hval
  obtain ⟨l⟩ := cs
  obtain ⟨n, hn⟩ := h
  obtain ⟨s, e, hs⟩ := el_open (show DataW.trod enc Try.prog W 0 (fun _ => true) true n 75 l = some (d, p) from hn)
  subst e
  exact ⟨s, rfl, hs⟩
end
end LS
end Go.Proofs.Ytaocclgnpphjfaa
