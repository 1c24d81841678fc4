/-
  A slice of words or of bytes that came in as an argument: opened, and shut again behind every call that made blocks of its own alone. No condition but those that are written at each.
-/
import Derived.Test.YtieehjkmfmkfjabMachV
import Derived.OpenShut
import Derived.Deep.Slices
namespace Go.Proofs.Ytieehjkmfmkfjab
open Go.RowKit
set_option linter.unusedVariables false
set_option linter.unusedSimpArgs false
namespace MO
open MM MC
open Go.ChangeShapes Go.WideShapes
/-- numbers in memory, as an argument brings them -/
def Arg (k : IntKind) (w : World) (v : Value) (xs : List Int) : Prop :=
  ∃ p c, v = .slice p xs.length c ∧ (xs ≠ [] → ∃ g o, p = some ⟨g, o, none⟩ ∧ xs.length ≤ c ∧ c ≤ maxLen ∧ g < w.heap.size ∧ ∀ j x, xs[j]? = some x → w.cell? ⟨g, o + j, none⟩ = some (.int k x))
theorem inp_of {w w' : World} {v : Value} {xs : List Int} (h : Arg .u32 w v xs) {B b bm : Nat} (hb : Below w.heap.size w w') (h0 : w.heap.size ≤ B) (h1 : w.heap.size ≤ b) (h2 : w.heap.size ≤ bm) : MD.Inp w' B b bm v xs := by
  obtain ⟨p, c, rfl, h⟩ := h
  by_cases e : xs = []
  · subst e; exact ⟨.inl ⟨rfl, p, c, rfl⟩⟩
  · obtain ⟨g, o, rfl, q1, q2, q3, q4⟩ := h e
    exact ⟨.inr ⟨g, o, c, rfl, q1, q2, by omega, by omega, by omega, fun j x hj => (hb.cell (p := ⟨g, o + j, none⟩) q3).trans (q4 j x hj)⟩⟩
section
variable {H : Type} {enc : TypeId × Value → H}
theorem cell_lt {w : World} {g o : Nat} {v : Value} (h : w.cell? ⟨g, o, none⟩ = some v) : g < w.heap.size := World.block_lt_of_cell? w ⟨g, o, none⟩ h
set_option maxRecDepth 100000 in
theorem open_nums {t e : TypeId} {k : IntKind} (ht : Try.prog.underlying t = some (.slice e)) (he : Try.prog.underlying e = some (.int k)) (hc : Try.prog.cellsOf e = 1)
    {W : World} {base : Nat} {v : Value} {d : DataW H} {p : List MemPlace} (hval : Value.okWide Try.prog W .any base t v) (h1 : DataW.Trod enc Try.prog W 0 (fun _ => true) true t v d p) :
    ∃ xs : List Int, Arg k W v xs ∧ (∀ x ∈ xs, (Lit.int k x).wf = true) ∧ ∀ (W' : World) (sp : Nat → Bool), (∀ b, b < W.heap.size → sp b = true) → Below W.heap.size W W' → DataW.Trod enc Try.prog W' 0 sp true t v d p := by
  obtain ⟨a1, len, cap, rfl⟩ := okWide_slice ht hval
  obtain ⟨fuel, hf⟩ := h1
  rcases open_ints ht he hc hf with ⟨hcs, hx⟩ | ⟨a, len', cap', zs, hcs, _, hl, hm, hz, hx, hcell, hwz⟩
  · simp [Value.cells] at hcs
    obtain ⟨rfl, rfl, rfl⟩ := hcs
    simp only [Prod.mk.injEq] at hx
    obtain ⟨rfl, rfl⟩ := hx
    exact ⟨[], ⟨none, 0, rfl, fun h => absurd rfl h⟩, fun _ h => (by cases h), fun W' sp hsp hb => ⟨1, by simp [DataW.trod, Value.cells, ht]⟩⟩
  · simp [Value.cells] at hcs
    obtain ⟨rfl, rfl, rfl⟩ := hcs
    simp only [Prod.mk.injEq] at hx
    obtain ⟨rfl, rfl⟩ := hx
    simp only [if_true] at hz
    have hlen : (zs.take len).length = len := by simp; omega
    refine ⟨zs.take len, ⟨some a, cap, by rw [hlen], fun h0 => ?_⟩, fun x hx => hwz x (List.mem_of_mem_take hx), fun W' sp hsp hb => ⟨2, shut_ints 0 ht he hc (Nat.zero_le _) hl hm ?_ (fun i hi => ?_) hwz⟩⟩
    · have hp : 0 < zs.length := by
        rcases zs with _ | ⟨z, zs⟩
        · simp at h0
        · simp
      obtain ⟨b, off, rfl, hc2⟩ := ints_at hcell hp
      refine ⟨b, off, rfl, by omega, by omega, cell_lt (hc2 0 hp), fun j x hj => ?_⟩
      have hjl : j < len := by
        have := (List.getElem?_eq_some_iff.1 hj).1
        omega
      rw [List.getElem?_take, if_pos hjl] at hj
      rw [hc2 j (by omega), List.getD_eq_getElem?_getD, hj]; rfl
    · by_cases hp : 0 < zs.length
      · obtain ⟨b, off, rfl, hc2⟩ := ints_at hcell hp
        rw [if_pos (hsp b (cell_lt (hc2 0 hp)))]; exact hz
      · split <;> omega
    · have hp : 0 < zs.length := by omega
      obtain ⟨b, off, rfl, hc2⟩ := ints_at hcell hp
      exact (hb.cell (p := (⟨b, off, none⟩ : Addr).add i) (by rw [block_add]; exact cell_lt (hc2 0 hp))).trans (hcell i hi)
end
end MO
end Go.Proofs.Ytieehjkmfmkfjab
