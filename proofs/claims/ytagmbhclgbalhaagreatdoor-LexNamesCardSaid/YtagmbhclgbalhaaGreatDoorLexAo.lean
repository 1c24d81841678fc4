/-
  Bytes as a parameter: opened; and any parameter shut again behind a call that made blocks of its own alone. No condition but that the type can be read.
-/
import Derived.Test.YtagmbhclgbalhaaGreatDoorLexAh
import Derived.ChangeSlices
import Derived.WideShapes
import Derived.Deep.Slices
import Derived.Deep.Fields
import Derived.Lib.SmallJoins
import Derived.ChangeSame
import Derived.OpenShut
import Derived.WideKeyArgs
import Derived.ChangeOld
namespace Go.Proofs.YtagmbhclgbalhaaGreatDoor
open Go.RowKit Go.ChangeShapes Go.WideShapes Go.ChangeAt Go.Deep
set_option linter.unusedVariables false
set_option linter.unusedSimpArgs false
namespace LxV
section
variable {H : Type} {enc : TypeId × Value → H}
theorem shut_any {t : TypeId} {W W' : World} {v : Value} {d : DataW H} {ps : List MemPlace} (hl : laidOutB Tryz.prog = true) (hr : Tryz.prog.readableRec t = true) (hrow : t < Tryz.prog.types.size)
    (h : DataW.Trod enc Tryz.prog W 0 (fun _ => true) true t v d ps) (hb : Below W.heap.size W W') : DataW.Trod enc Tryz.prog W' 0 (fun b => decide (b < W.heap.size)) true t v d ps := by
  have hlt : ∀ p ∈ ps, p.block < W.heap.size := by
    obtain ⟨n, hn⟩ := h
    exact DataW.trod_lt n _ _ _ hn
  refine Go.WideElems.Trod_stays hl hr hrow h (fun p hp => hb.same (hlt p hp)) (fun p hp => decide_eq_true (hlt p hp))
set_option maxRecDepth 100000 in
theorem open_bytes {W : World} {base : Nat} {v : Value} {d : DataW H} {p : List MemPlace} (hval : Value.okWide Tryz.prog W .any base 23 v) (h : DataW.Trod enc Tryz.prog W 0 (fun _ => true) true 23 v d p) :
    ∃ l : List UInt8, LxC.BytesAt W.heap.size W v l := by
  obtain ⟨a1, len, cap, rfl⟩ := okWide_slice Tryz.underlying23 hval
  obtain ⟨fuel, hf⟩ := h
  have hc1 : Tryz.prog.cellsOf 5 = 1 := by kernel_rfl
  rcases open_ints Tryz.underlying23 Tryz.underlying5 hc1 hf with ⟨hcs, hx⟩ | ⟨a, len', cap', zs, hcs, _, hl, hm, hz, hx, hcell, hwz⟩
  · simp [Value.cells] at hcs
    obtain ⟨rfl, rfl, rfl⟩ := hcs
    exact ⟨[], .inl ⟨⟨none, 0, rfl, Nat.zero_le _⟩, rfl⟩⟩
  · simp [Value.cells] at hcs
    obtain ⟨rfl, rfl, rfl⟩ := hcs
    simp only [if_true] at hz
    obtain ⟨ab, ao, spot⟩ := a
    by_cases h0 : cap = 0
    · have : len = 0 := by omega
      subst this
      exact ⟨[], .inl ⟨⟨_, _, rfl, hm⟩, rfl⟩⟩
    · have hspot : spot = none := by simpa [Addr.add] using World.cell?_spot (hcell 0 (by omega))
      subst hspot
      refine ⟨(zs.take len).map fun n => UInt8.ofNat n.toNat, .inr ⟨ab, ao, cap, ?_, ?_, ?_, hm, fun j c hj => ?_⟩⟩
      · simp; omega
      · have h00 := hcell 0 (by omega)
        rcases Nat.lt_or_ge ab W.heap.size with h' | h'
        · exact h'
        · rw [Addr.add_lit] at h00
          unfold World.cell? at h00
          simp [Array.getElem?_eq_none h'] at h00
      · simp; omega
      · rw [List.getElem?_map] at hj
        obtain ⟨n, hn, rfl⟩ := Option.map_eq_some_iff.1 hj
        rw [List.getElem?_take] at hn
        split at hn
        · have hjz := (List.getElem?_eq_some_iff.1 hn).1
          have hcj := hcell j hjz
          rw [Addr.add_lit, List.getD_eq_getElem?_getD, hn] at hcj
          have hb := range_u8 hwz j
          rw [hn] at hb
          rw [hcj]
          simp only [Option.getD_some] at hb ⊢
          congr 2
          rw [UInt8.toNat_ofNat']
          omega
        · cases hn
end
end LxV
end Go.Proofs.YtagmbhclgbalhaaGreatDoor
