/-
  Events in memory; the statements' own comparison of two lists of events: a contract. No condition but those that are written at each.
-/
import Derived.Test.YtanlccnhkiibeaaMachCo
import Derived.Laws.StructEq
import Derived.BigGuardPart
import Derived.BigQuiet
namespace Go.Proofs.Ytanlccnhkiibeaa
open Go.RowKit
set_option linter.unusedVariables false
set_option linter.unusedSimpArgs false
namespace MCp
open MM MC MB
theorem evs_get : ∀ (L : List MM.Ev) (k : Nat) (x : MM.Ev), L[k]? = some x → (MD.evs L)[k * 3]? = some (.int .i64 x.1) ∧ (MD.evs L)[k * 3 + 1]? = some (.int .u32 x.2.1) ∧ (MD.evs L)[k * 3 + 2]? = some (.int .u64 (x.2.2 : Nat))
  | [], k, x, h => by simp at h
  | y :: L, 0, x, h => by
    simp only [List.getElem?_cons_zero, Option.some.injEq] at h
    subst h; exact ⟨rfl, rfl, rfl⟩
  | y :: L, k + 1, x, h => by
    have ih := evs_get L k x (by simpa using h)
    have e : MD.evs (y :: L) = Value.int .i64 y.1 :: .int .u32 y.2.1 :: .int .u64 (y.2.2 : Nat) :: MD.evs L := rfl
    rw [e, show (k + 1) * 3 = k * 3 + 1 + 1 + 1 by omega]
    simpa only [List.getElem?_cons_succ] using ih
/-- events in memory -/
theorem evs_of {w : World} {B : Nat} {p : Option Addr} {l c : Nat} {L : List MM.Ev} (h : w.ownsRow B 60 3 (.slice p l c) L.length (MD.evs L)) :
    l = L.length ∧ ∀ (k : Nat) (x : MM.Ev), L[k]? = some x → ∃ g, p = some ⟨g, 0, none⟩ ∧ g < w.heap.size ∧ w.cell? ⟨g, k * 3, none⟩ = some (.int .i64 x.1) ∧ w.cell? ⟨g, k * 3 + 1, none⟩ = some (.int .u32 x.2.1) ∧ w.cell? ⟨g, k * 3 + 2, none⟩ = some (.int .u64 (x.2.2 : Nat)) := by
  rcases h.2 with ⟨h0, h1⟩ | ⟨g, cap, cur, h0, hb, hg, hn, hc, hs, ht⟩
  · cases h0
    refine ⟨h1.symm, fun k x hk => ?_⟩
    have := (List.getElem?_eq_some_iff.1 hk).1
    omega
  · cases h0
    refine ⟨rfl, fun k x hk => ⟨g, rfl, lt_of_get hg, ?_⟩⟩
    obtain ⟨e1, e2, e3⟩ := evs_get L k x hk
    have f := fun j v hj => (h.cells (g := g) rfl) j v hj
    have e : ∀ j, (⟨g, 0, none⟩ : Addr).add j = ⟨g, j, none⟩ := fun j => by unfold Addr.add; split <;> simp_all
    refine ⟨?_, ?_, ?_⟩
    · rw [← e]; exact f _ _ e1
    · rw [← e]; exact f _ _ e2
    · rw [← e]; exact f _ _ e3
/-- a slice of events -/
def Es (w : World) (v : Value) (L : List MM.Ev) : Prop := ∃ p c, v = .slice p L.length c ∧ ∀ (k : Nat) (x : MM.Ev), L[k]? = some x → ∃ g, p = some ⟨g, 0, none⟩ ∧ g < w.heap.size ∧ w.cell? ⟨g, k * 3, none⟩ = some (.int .i64 x.1) ∧ w.cell? ⟨g, k * 3 + 1, none⟩ = some (.int .u32 x.2.1) ∧ w.cell? ⟨g, k * 3 + 2, none⟩ = some (.int .u64 (x.2.2 : Nat))
theorem es_of {w : World} {B : Nat} {v : Value} {L : List MM.Ev} (h : w.ownsRow B 60 3 v L.length (MD.evs L)) : Es w v L := by
  obtain ⟨p, l, c, rfl⟩ := MV.own_form h
  obtain ⟨rfl, h2⟩ := evs_of h
  exact ⟨p, c, rfl, h2⟩
theorem Es.below {w w' : World} {v : Value} {L : List MM.Ev} (h : Es w v L) (hb : Below w.heap.size w w') : Es w' v L := by
  obtain ⟨p, c, rfl, h⟩ := h
  refine ⟨p, c, rfl, fun k x hk => ?_⟩
  obtain ⟨g, rfl, hg, e1, e2, e3⟩ := h k x hk
  exact ⟨g, rfl, Nat.lt_of_lt_of_le hg hb.size, (hb.cell (p := ⟨g, _, none⟩) hg).trans e1, (hb.cell (p := ⟨g, _, none⟩) hg).trans e2, (hb.cell (p := ⟨g, _, none⟩) hg).trans e3⟩
theorem dn {B : Nat} {a w : World} {q : Nat} (h : Below B a w) : Below B a (w.drewN q) := ⟨h.os, h.tape, h.output, h.size, h.block⟩
set_option maxRecDepth 100000 in
set_option maxHeartbeats 4000000 in
/-- two lists that are the same -/
theorem events_ (w : World) (v v' : Value) (L : List MM.Ev) (h : Es w v L) (h' : Es w v' L) (hl : L.length ≤ 100000) :
    Calls Try.prog 14 #[v, v'] w fun e w' => e = .returned (.bool true) ∧ Below w.heap.size w w' := by
  obtain ⟨p, c, rfl, h⟩ := h
  obtain ⟨p', c', rfl, h'⟩ := h'
  have H := Lib.hid h
  have H' := Lib.hid h'
  clear h h'
  generalize hn : L.length = n at *
  have HN := Lib.hid hn
  clear hn
  go_enter Try.func14, Try.ntmps14
  go_wp2
  go_loopw [13] (fun s13 wr => ∃ k : Nat, k ≤ n ∧ s13 = .int .i64 k ∧ Below w.heap.size w wr) (fun i _ => n - (intOf i).toNat)
  case atStart => exact ⟨0, Nat.zero_le _, rfl, Below.refl _ _⟩
  case round =>
    obtain ⟨k, hk, rfl, hbel⟩ := hrel
    have hsz := hbel.size
    by_cases hlt : k < n
    · obtain ⟨⟨x1, x2, x3⟩, hx1⟩ : ∃ x, L[k]? = some x := by
        rw [← HN.out] at hlt
        exact ⟨L[k], List.getElem?_eq_getElem hlt⟩
      obtain ⟨g, rfl, hg, e1, e2, e3⟩ := H.out k _ hx1
      obtain ⟨g', rfl, hg', e1', e2', e3'⟩ := H'.out k _ hx1
      have q1 := (hbel.cell (p := ⟨g, k * 3, none⟩) hg).trans e1
      have q2 := (hbel.cell (p := ⟨g, k * 3 + 1, none⟩) hg).trans e2
      have q3 := (hbel.cell (p := ⟨g, k * 3 + 2, none⟩) hg).trans e3
      have q1' := (hbel.cell (p := ⟨g', k * 3, none⟩) hg').trans e1'
      have q2' := (hbel.cell (p := ⟨g', k * 3 + 1, none⟩) hg').trans e2'
      have q3' := (hbel.cell (p := ⟨g', k * 3 + 2, none⟩) hg').trans e3'
      clear e1 e2 e3 e1' e2' e3' hx1
      go_wp2
      go_region
      go_wp2
      exact ⟨⟨k + 1, by omega, by go_num, by first | exact hbel.drew | exact dn hbel⟩, by simp [intOf]; omega⟩
    · have hkn : k = n := by omega
      subst hkn
      go_wp2
      go_ret
      exact ⟨rfl, hbel⟩
end MCp
end Go.Proofs.Ytanlccnhkiibeaa
