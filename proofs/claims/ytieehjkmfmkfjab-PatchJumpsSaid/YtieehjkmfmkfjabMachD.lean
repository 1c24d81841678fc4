/-
  A run of the machine in memory, and what its small methods answer, each a contract. No condition but those that are written at each.
-/
import Derived.Test.YtieehjkmfmkfjabMachC
import Derived.Maps.RangeWalk
import Derived.Maps.OwnSet
import Derived.Maps.OwnOps
namespace Go.Proofs.Ytieehjkmfmkfjab
open Go.RowKit
set_option linter.unusedVariables false
set_option linter.unusedSimpArgs false
namespace MD
open MM MC
/-! ### what words were decoded to -/
def insR (v : Value) : Option (DataW Unit × List MemPlace) :=
  match v with
  | .agg cs => match cs.toList with
    | [.int .i64 a, .int .i64 b, .int .i64 c, .int .i64 d, .int .i64 e] => some (.agg [.lit (.int .i64 a), .lit (.int .i64 b), .lit (.int .i64 c), .lit (.int .i64 d), .lit (.int .i64 e)], [])
    | _ => none
  | _ => none
def insV (a b c d e : Int) : Value := .agg #[.int .i64 a, .int .i64 b, .int .i64 c, .int .i64 d, .int .i64 e]
def insD (a b c d e : Int) : DataW Unit := .agg [.lit (.int .i64 a), .lit (.int .i64 b), .lit (.int .i64 c), .lit (.int .i64 d), .lit (.int .i64 e)]
theorem insR_mk (a b c d e : Int) : insR (insV a b c d e) = some (insD a b c d e, []) := rfl
theorem insR_inv {v : Value} {z : DataW Unit × List MemPlace} (h : insR v = some z) : ∃ a b c d e, v = insV a b c d e ∧ z = (insD a b c d e, []) := by
  unfold insR at h
  split at h
  · rename_i cs
    split at h
    · rename_i a b c d e' e
      refine ⟨a, b, c, d, e', ?_, ?_⟩
      · unfold insV
        have : cs = cs.toList.toArray := by simp
        rw [this, e]
      · exact (Option.some.inj h).symm
    · cases h
  · cases h
theorem insD_inj {a b c d e a' b' c' d' e' : Int} (h : insD a b c d e = insD a' b' c' d' e') : a = a' ∧ b = b' ∧ c = c' ∧ d = d' ∧ e = e' := by simpa [insD] using h
theorem keyed : Go.Maps.Keyed Try.prog 22 := Go.Maps.int_keyed Try.underlying22
def Known (w : World) (bk c : Nat) : Prop := ∃ D : DataW Unit, w.ownsMap Try.prog 22 insR bk c D ∧ ∀ x, Maps.has D (.int .u32 x) = true → CM.dec x ≠ 0 ∧ ∀ z, D.atKey (.int .u32 x) z = insD (iOp x) (iRd x) (iRs1 x) (iRs2 x) (iImm x)
theorem Known.same {w w' : World} {bk c : Nat} (h : Known w bk c) (hb : w'.heap[bk]? = w.heap[bk]?) : Known w' bk c := by
  obtain ⟨D, ⟨es, clock, h1, h2⟩, h3⟩ := h
  exact ⟨D, ⟨es, clock, hb.trans h1, h2⟩, h3⟩
theorem Known.lt {w : World} {bk c : Nat} (h : Known w bk c) : bk < w.heap.size := by
  obtain ⟨D, h1, _⟩ := h
  exact h1.lt
/-! ### the input -/
structure Inp (w : World) (B b bm : Nat) (v : Value) (l : List Int) : Prop where
  ok : (l = [] ∧ ∃ p c, v = .slice p 0 c) ∨ ∃ g o c, v = .slice (some ⟨g, o, none⟩) l.length c ∧ l.length ≤ c ∧ c ≤ maxLen ∧ g < B ∧ g ≠ b ∧ g ≠ bm ∧ ∀ j x, l[j]? = some x → w.cell? ⟨g, o + j, none⟩ = some (.int .u32 x)
theorem Inp.kept {w w' : World} {B b bm : Nat} {v : Value} {l : List Int} (h : Inp w B b bm v l) (hb : ∀ k, k < B → k ≠ b → k ≠ bm → w'.heap[k]? = w.heap[k]?) : Inp w' B b bm v l := by
  rcases h.ok with h | ⟨g, o, c, rfl, h1, h2, h3, h4, h5, h6⟩
  · exact ⟨.inl h⟩
  · exact ⟨.inr ⟨g, o, c, rfl, h1, h2, h3, h4, h5, fun j x hj => (World.cell?_of_block (w := w) (hb g h3 h4 h5)).trans (h6 j x hj)⟩⟩
/-! ### the run -/
def evs (l : List Ev) : List Value := (l.map fun e => [Value.int .i64 e.1, .int .u32 e.2.1, .int .u64 (e.2.2 : Nat)]).flatten
def rcells (b bk : Nat) (vi ve : Value) (n : Nat) : Array Value := #[.pointer (some ⟨b, 0, none⟩), vi, ve, .int .i64 n, .map (some bk)]
structure Lives (B br bk b bm N : Nat) (sd : List (Nat × Obj)) (w : World) (s : St) (vi ve : Value) (inp : List Int) (out : List Ev) (n c : Nat) : Prop where
  at_ : At w b bm N s
  run : w.heap[br]? = some (.cells (rcells b bk vi ve n) 84 (0, 0))
  inp : Inp w B b bm vi inp
  ev : w.ownsRow (B + 3) 118 3 ve out.length (evs out)
  known : Known w bk c
  big : B + 3 ≤ w.heap.size
  pl : b < B ∧ bm < B ∧ B ≤ br ∧ br < B + 3 ∧ B ≤ bk ∧ bk < B + 3 ∧ br ≠ bk
  side : ∀ p ∈ sd, w.heap[p.1]? = some p.2 ∧ p.1 ≠ b ∧ p.1 ≠ bm ∧ p.1 ≠ br ∧ p.1 ≠ bk ∧ ve.ownBlock ≠ some p.1
section
variable {B br bk b bm N : Nat} {sd : List (Nat × Obj)} {w w' : World} {s s' : St} {vi ve : Value} {inp : List Int} {out : List Ev} {n c : Nat}
theorem Lives.r0 (L : Lives B br bk b bm N sd w s vi ve inp out n c) : w.cell? ⟨br, 0, none⟩ = some (.pointer (some ⟨b, 0, none⟩)) := cell_of_row w br 0 _ _ _ L.run
theorem Lives.r1 (L : Lives B br bk b bm N sd w s vi ve inp out n c) : w.cell? ⟨br, 1, none⟩ = some vi := cell_of_row w br 1 _ _ _ L.run
theorem Lives.r2 (L : Lives B br bk b bm N sd w s vi ve inp out n c) : w.cell? ⟨br, 2, none⟩ = some ve := cell_of_row w br 2 _ _ _ L.run
theorem Lives.r3 (L : Lives B br bk b bm N sd w s vi ve inp out n c) : w.cell? ⟨br, 3, none⟩ = some (.int .i64 n) := cell_of_row w br 3 _ _ _ L.run
theorem Lives.r4 (L : Lives B br bk b bm N sd w s vi ve inp out n c) : w.cell? ⟨br, 4, none⟩ = some (.map (some bk)) := cell_of_row w br 4 _ _ _ L.run
theorem Lives.rf (L : Lives B br bk b bm N sd w s vi ve inp out n c) (j : Nat) : w.frozen? ⟨br, j, none⟩ = false := frozen_of_row w br j _ _ L.run
theorem Lives.evb (L : Lives B br bk b bm N sd w s vi ve inp out n c) : ∀ k, ve.ownBlock = some k → B + 3 ≤ k ∧ k < w.heap.size := L.ev.lt
/-- what leaves all blocks of the run alone, leaves the run alone -/
theorem Lives.kept (L : Lives B br bk b bm N sd w s vi ve inp out n c) (hs : w.heap.size ≤ w'.heap.size) (hb : ∀ k, k < w.heap.size → w'.heap[k]? = w.heap[k]?) : Lives B br bk b bm N sd w' s vi ve inp out n c := by
  have hp := L.pl
  have hg := L.big
  refine ⟨L.at_.kept (hb b (by omega)) (hb bm (by omega)), (hb br (by omega)).trans L.run, L.inp.kept fun k hk _ _ => hb k (by omega), ?_, L.known.same (hb bk (by omega)), by omega, hp, fun p h => ⟨(hb _ (lt_of_get (L.side p h).1)).trans (L.side p h).1, (L.side p h).2⟩⟩
  obtain ⟨h1, h2⟩ := L.ev
  refine ⟨h1, ?_⟩
  rcases h2 with h2 | ⟨g, cap, cur, hv, hg', hh, r⟩
  · exact .inl h2
  · exact .inr ⟨g, cap, cur, hv, hg', (hb g (lt_of_get hh)).trans hh, r⟩
theorem Lives.below (L : Lives B br bk b bm N sd w s vi ve inp out n c) (h : Below w.heap.size w w') : Lives B br bk b bm N sd w' s vi ve inp out n c := L.kept h.size h.block
theorem ownsRow_same {B : Nat} {e : TypeId} {z : Nat} {v : Value} {n : Nat} {xs : List Value} (h : w.ownsRow B e z v n xs) (hb : ∀ k, B ≤ k → w'.heap[k]? = w.heap[k]?) : w'.ownsRow B e z v n xs := by
  obtain ⟨h1, h2⟩ := h
  refine ⟨h1, ?_⟩
  rcases h2 with h2 | ⟨g, cap, cur, hv, hg', hh, r⟩
  · exact .inl h2
  · exact .inr ⟨g, cap, cur, hv, hg', (hb g hg').trans hh, r⟩
/-- a cell of the machine's own is written -/
theorem Lives.set (L : Lives B br bk b bm N sd w s vi ve inp out n c) (j : Nat) (v : Value) (hc : (cells bm N s).setIfInBounds j v = cells bm N s') (hm : s'.mem = s.mem) : Lives B br bk b bm N sd (w.setCell ⟨b, j, none⟩ v) s' vi ve inp out n c := by
  have hp := L.pl
  have ho : ∀ k, k ≠ b → (w.setCell ⟨b, j, none⟩ v).heap[k]? = w.heap[k]? := fun k hk => heap_setCell_other w ⟨b, j, none⟩ k v hk
  refine ⟨L.at_.set j v hc hm, (ho br (by omega)).trans L.run, L.inp.kept fun k _ hk _ => ho k hk, ownsRow_same L.ev fun k hk => ho k (by omega), L.known.same (ho bk (by omega)), by simp only [World.size_setCell]; exact L.big, hp, fun p h => ⟨(ho _ (L.side p h).2.1).trans (L.side p h).1, (L.side p h).2⟩⟩
/-- what becomes of the run object's own cells -/
theorem Lives.turn (L : Lives B br bk b bm N sd w s vi ve inp out n c) (j : Nat) (v : Value) {vi' : Value} {inp' : List Int} {n' : Nat} (hc : (rcells b bk vi ve n).setIfInBounds j v = rcells b bk vi' ve n') (hi : Inp w B b bm vi' inp') : Lives B br bk b bm N sd (w.setCell ⟨br, j, none⟩ v) s vi' ve inp' out n' c := by
  have hp := L.pl
  have ho : ∀ k, k ≠ br → (w.setCell ⟨br, j, none⟩ v).heap[k]? = w.heap[k]? := fun k hk => heap_setCell_other w ⟨br, j, none⟩ k v hk
  refine ⟨L.at_.kept (ho b (by omega)) (ho bm (by omega)), by rw [heap_setCell_same w br j _ _ v L.run, hc], hi.kept fun k hk _ _ => ho k (by omega), ownsRow_same L.ev fun k hk => ho k (by omega), L.known.same (ho bk (by omega)), by simp only [World.size_setCell]; exact L.big, hp, fun p h => ⟨(ho _ (L.side p h).2.2.2.1).trans (L.side p h).1, (L.side p h).2⟩⟩
theorem Own.setRun (hbr : B ≤ br) (j : Nat) (v : Value) : Own B b bm w (w.setCell ⟨br, j, none⟩ v) :=
  ⟨rfl, rfl, rfl, by simp [World.setCell], fun k hk _ _ => heap_setCell_other w ⟨br, j, none⟩ k v (by show k ≠ br; omega)⟩
end
/-! ### the small methods -/
theorem setx_eq (s : St) (rd : Nat) (v : Int) (h : rd ≠ 0) : setx s rd v = { s with x := upd s.x rd v } := by unfold setx; rw [if_neg (by omega)]; rfl
theorem setx_zero (s : St) (v : Int) : setx s 0 v = s := rfl
set_option maxHeartbeats 400000 in
theorem put_ {B br bk b bm N : Nat} {sd : List (Nat × Obj)} {w : World} {s : St} {vi ve : Value} {inp : List Int} {out : List Ev} {n c : Nat} (L : Lives B br bk b bm N sd w s vi ve inp out n c) (rd : Nat) (hr : rd < 32) (v : Int) :
    Calls Try.prog 60 #[.pointer (some ⟨br, 0, none⟩), .int .i64 rd, .int .u32 v] w fun e w' => e = .returned (.tuple #[]) ∧ Lives B br bk b bm N sd w' (setx s rd v) vi ve inp out n c ∧ Own B b bm w w' := by
  have h1 := L.r0
  by_cases h0 : rd = 0
  · subst h0
    go_enter Try.func60, Try.ntmps60
    go_wp2
    go_end0
    exact ⟨rfl, L, Own.refl _ _ _ _⟩
  · have h2 := L.at_.cx hr
    have h3 := L.at_.fb (1 + rd)
    have hne : ((rd : Int) != 0) = true := by simp; omega
    have HL := Lib.hid L
    clear L
    have H0 := Lib.hid h0
    clear h0
    go_enter Try.func60, Try.ntmps60
    go_wp2
    go_end0
    refine ⟨rfl, ?_, Own.set _ _ _⟩
    rw [setx_eq s rd v H0.out]
    exact HL.out.set _ _ (set_x bm N s hr v) rfl
theorem rcells_1 (b bk : Nat) (vi ve v : Value) (n : Nat) : (rcells b bk vi ve n).setIfInBounds 1 v = rcells b bk v ve n := rfl
theorem rcells_3 (b bk : Nat) (vi ve : Value) (n n' : Nat) : (rcells b bk vi ve n).setIfInBounds 3 (.int .i64 n') = rcells b bk vi ve n' := rfl
set_option maxHeartbeats 400000 in
theorem next_ {B br bk b bm N : Nat} {sd : List (Nat × Obj)} {w : World} {s : St} {vi ve : Value} {inp : List Int} {out : List Ev} {n c : Nat} (L : Lives B br bk b bm N sd w s vi ve inp out n c) :
    Calls Try.prog 67 #[.pointer (some ⟨br, 0, none⟩)] w fun e w' => e = .returned (.int .u32 (inp.headD 0)) ∧ ∃ vi', Lives B br bk b bm N sd w' s vi' ve inp.tail out n c ∧ Own B b bm w w' := by
  have h1 := L.r1
  have hf := L.rf 1
  have hp := L.pl
  have HL := Lib.hid L
  clear L
  rcases HL.out.inp.ok with ⟨hi, p, cc, hv⟩ | ⟨g, o, cc, hv, hl, hc, g1, g2, g3, hcell⟩
  · subst hv hi
    go_enter Try.func67, Try.ntmps67
    go_wp2
    go_ret
    exact ⟨rfl, _, HL.out, Own.refl _ _ _ _⟩
  · subst hv
    cases inp with
    | nil =>
      simp only [List.length_nil] at h1
      go_enter Try.func67, Try.ntmps67
      go_wp2
      go_ret
      exact ⟨rfl, _, HL.out, Own.refl _ _ _ _⟩
    | cons x l =>
      have hx := hcell 0 x rfl
      rw [Nat.add_zero] at hx
      have HC := Lib.hid hcell
      clear hcell
      unfold maxLen at hc
      simp only [List.length_cons] at h1 hl
      have hne : ((↑(l.length + 1) : Int) == 0) = false := by simp; omega
      have hb1 : br ≠ g := by omega
      by_cases hcc : cc = 1
      · subst hcc
        go_enter Try.func67, Try.ntmps67
        go_wp2
        go_ret
        have hl0 : l = [] := List.eq_nil_of_length_eq_zero (by omega)
        subst hl0
        exact ⟨rfl, _, HL.out.turn 1 _ (rcells_1 _ _ _ _ _ _) ⟨.inl ⟨rfl, _, _, rfl⟩⟩, Own.setRun (by omega) _ _⟩
      · go_enter Try.func67, Try.ntmps67
        go_wp2
        go_ret
        refine ⟨rfl, _, HL.out.turn 1 _ (rcells_1 _ _ _ _ _ _) ⟨.inr ⟨g, o + 1, cc - 1, rfl, ?_, ?_, g1, g2, g3, fun j y hj => ?_⟩⟩, Own.setRun (by omega) _ _⟩
        · simp only [List.tail_cons]; omega
        · unfold maxLen; omega
        · have := HC.out (j + 1) y (by simpa using hj)
          rwa [show o + (j + 1) = o + 1 + j by omega] at this
end MD
end Go.Proofs.Ytieehjkmfmkfjab
