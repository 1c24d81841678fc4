/-
  The object more of ResolveOwn, where it grows in memory, beside the map of the names that are in it. Condition: none.
-/
import Derived.Test.YtlmblfkcmhgdaaaResOw
import Derived.Test.YtlmblfkcmhgdaaaResC
namespace Go.Proofs.Ytlmblfkcmhgdaaa
open Go.RowKit Go.Maps Go.WideMaps Go.Sort
set_option linter.unusedVariables false
set_option linter.unusedSimpArgs false
namespace RsOw
open OO OJ RsM RsI RsP RsS RsT RsY RsQ RsB RsJ RsZ RsE RsV OCk OU OM RsD
open RsH hiding code_more
open RsC
/-- the names, as a map to true -/
def dN (N : List (List UInt8)) : DataW Unit := N.foldl (fun D n => D.put (nkey (bs n)) (.lit (.bool true))) (.map [])
theorem dN_snoc (N : List (List UInt8)) (n : List UInt8) : dN (N ++ [n]) = (dN N).put (nkey (bs n)) (.lit (.bool true)) := by
  unfold dN; rw [List.foldl_append]; rfl
theorem isMap_dN (N : List (List UInt8)) : IsMap (dN N) := by
  induction N using snoc_ind with
  | nil => exact isMap_empty
  | append_singleton N n ih => rw [dN_snoc]; exact ih.put _ _
theorem dN_at (N : List (List UInt8)) (n : List UInt8) : (dN N).atKey (nkey (bs n)) (.lit (.bool false)) = .lit (.bool (decide (n ∈ N))) := by
  induction N using snoc_ind with
  | nil => rfl
  | append_singleton N m ih =>
    rw [dN_snoc]
    by_cases e : n = m
    · subst e
      rw [atKey_put_same (isMap_dN N) (by unfold nkey; exact trivial)]
      simp
    · rw [atKey_put_other (nkey_ne (fun h => e (bs_inj h))), ih]
      simp [e]
theorem zeroB (w : World) : (zeroValue 4).run Try.prog w = .ok (.bool false) w := by kernel_rfl
theorem plain_bool {P : Program} {e : TypeId} (he : P.underlying e = some .bool) {v : Value} {z : DataW Unit × List MemPlace} (h : plainElem P e v = some z) : ∃ x, v = .bool x ∧ z = (.lit (.bool x), []) := by
  unfold plainElem at h
  rw [he] at h
  cases v <;> simp at h
  exact ⟨_, rfl, h.symm⟩
theorem bool_of {P : Program} {e : TypeId} (he : P.underlying e = some .bool) {v : Value} {x : Bool} {ps : List MemPlace} (h : plainElem P e v = some ((.lit (.bool x) : DataW Unit), ps)) : v = .bool x := by
  obtain ⟨y, rfl, e⟩ := plain_bool he h
  simp at e
  rw [e.1]
theorem grown_set (W : World) (b i : Nat) (v : Value) : W.grownBy (W.setCell ⟨b, i, none⟩ v) (some b) :=
  ⟨rfl, rfl, rfl, by rw [World.size_setCell]; exact Nat.le_refl _, fun k _ hk => Below.heap_setCell _ _ _ _ (by intro e; exact hk (congrArg some e))⟩
/-- whether a name has been seen -/
theorem seen_ {w : World} {b k : Nat} {N : List (List UInt8)} {n : List UInt8} (h : w.ownsMap Try.prog 9 (plainElem Try.prog 4) b k (dN N)) (hn : (bs n).size ≤ maxLen) :
    (Instr.lookup 32 (.map (some b)) (.string (bs n)) false).run Try.prog w = .ok (.bool (decide (n ∈ N))) w := by
  obtain ⟨v, ps, hrun, hv⟩ := h.lookup lawS Try.underlying32 (zeroB w) (plainElem_bool Try.underlying4 false) (keyOf_string_mk Try.underlying9 hn)
  have hat : (dN N).atKey (.string (bs n).data.toList) (.lit (.bool false)) = .lit (.bool (decide (n ∈ N))) := dN_at N n
  rw [hat] at hv
  rw [hrun, bool_of Try.underlying4 hv]
/-- what the loops have done -/
structure OwI (w : World) (A : Nat) (N : List (List UInt8)) (W : World) : Prop where
  a0 : W.heap[A]? = some (.cells #[.int .u32 19] TW (0, 0))
  a1 : ∃ q c, W.heap[A + 1]? = some (.cells #[.slice (some ⟨A, 0, none⟩) 1 1, .slice none 0 0, .slice q N.length c, .slice none 0 0] TO (0, 0)) ∧ W.ownsRow (A + 3) TY 5 (.slice q N.length c) N.length (symsC (N.map symO))
  map : W.ownsMap Try.prog 9 (plainElem Try.prog 4) (A + 2) N.length (dN N)
  bel : Below w.heap.size w W
  zz : A + 3 ≤ W.heap.size
theorem OwI.alloc {w W : World} {A : Nat} {N : List (List UInt8)} (h : OwI w A N W) (o : Obj) : OwI w A N (W.alloc o) := by
  have hz := h.zz
  obtain ⟨q, c, h1, h2⟩ := h.a1
  exact ⟨(Lib.alloc_old _ _ _ (by omega)).trans h.a0, ⟨q, c, (Lib.alloc_old _ _ _ (by omega)).trans h1, h2.alloc _⟩, h.map.alloc _, h.bel.alloc h.bel.size _, by simp only [World.size_alloc]; omega⟩
theorem ow_next {w W0 W1 W2 : World} {A : Nat} {N : List (List UInt8)} {n : List UInt8} {q q' : Option Addr} {c c' : Nat} (h : OwI w A N W0) (hw : w.heap.size ≤ A)
    (b1 : W0.heap[A + 1]? = some (.cells #[.slice (some ⟨A, 0, none⟩) 1 1, .slice none 0 0, .slice q N.length c, .slice none 0 0] TO (0, 0))) (b2 : W0.ownsRow (A + 3) TY 5 (.slice q N.length c) N.length (symsC (N.map symO)))
    (hm : W1.ownsMap Try.prog 9 (plainElem Try.prog 4) (A + 2) (N.length + 1) ((dN N).put (nkey (bs n)) (.lit (.bool true)))) (hg1 : W0.grownBy W1 (some (A + 2)))
    (hr : W2.ownsRow (A + 3) TY 5 (.slice q' (N.length + 1) c') (N.length + 1) (symsC (N.map symO) ++ symC (symO n))) (hg : (W1.alloc (.cells (symC (symO n)).toArray TY)).grownBy W2 (Value.slice q N.length c).ownBlock) :
    OwI w A (N ++ [n]) (W2.setCell ⟨A + 1, 2, none⟩ (.slice q' (N.length + 1) c')) := by
  have hz := h.zz
  have hz1 := hg1.size
  have hlow : ∀ g, (Value.slice q N.length c).ownBlock = some g → A + 3 ≤ g := fun g hg => (b2.lt g hg).1
  have hne : ∀ b, b < A + 3 → some b ≠ (Value.slice q N.length c).ownBlock := fun b hb e => by have := hlow b e.symm; omega
  have low : ∀ b, b < A + 3 → W2.heap[b]? = W1.heap[b]? := fun b hb => (hg.block b (by simp only [World.size_alloc]; omega) (hne b hb)).trans (Lib.alloc_old _ _ _ (by omega))
  have low1 : ∀ b, b < A + 2 → W2.heap[b]? = W0.heap[b]? := fun b hb => (low b (by omega)).trans (hg1.block b (by omega) (fun e => by cases e; omega))
  have g2 := grown_set W2 (A + 1) 2 (.slice q' (N.length + 1) c')
  refine ⟨(Below.heap_setCell _ _ _ _ (by show A ≠ A + 1; omega)).trans ((low1 _ (by omega)).trans h.a0), ⟨q', c', ?_, ?_⟩, ?_, ?_, ?_⟩
  · rw [List.length_append]
    exact RsV.hset ((low1 _ (by omega)).trans b1) _
  · rw [List.length_append, List.map_append, show [n].map symO = [symO n] from rfl, symsC_snoc]
    exact ownsRow_setCell_other hr (fun e => by have := (hr.lt _ e).1; simp at this <;> omega) _
  · rw [dN_snoc, List.length_append]
    exact ((hm.alloc _).kept hg (hne _ (by omega))).kept g2 (by intro e; injection e with e; omega)
  · exact (((h.bel.grown hg1 h.bel.size (fun g hg => by cases hg; omega)).alloc (by have := h.bel.size; omega) _).grown hg (by simp only [World.size_alloc]; have := h.bel.size; omega) (fun g hg => by have := hlow g hg; omega)).setCell (by simp; omega) _
  · rw [World.size_setCell]; have := hg.size; simp only [World.size_alloc] at this; omega
end RsOw
end Go.Proofs.Ytlmblfkcmhgdaaa
