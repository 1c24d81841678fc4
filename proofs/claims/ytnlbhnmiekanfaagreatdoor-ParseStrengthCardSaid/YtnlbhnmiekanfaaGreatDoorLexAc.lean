/-
  The laws' own awake. Condition: Go's own variables lie.
-/
import Derived.Test.YtnlbhnmiekanfaaGreatDoorLexAb
import Derived.Test.YtnlbhnmiekanfaaGreatDoorLexLx
import Derived.Deep.MidRow
import Derived.Deep.AppendLies
import Derived.Control
namespace Go.Proofs.YtnlbhnmiekanfaaGreatDoor
open Go.RowKit
set_option linter.unusedVariables false
namespace LxC
open Lx
/-- a token's three cells -/
def cells3 (t : Tok) : List Value := [.int .i64 (t.kind : Int), .string ⟨t.text.toArray⟩, .int .i64 (t.place : Int)]
theorem cellsT_get : ∀ (ts : List Tok) (i : Nat) (t : Tok), ts[i]? = some t → ∀ j, j < 3 → (cellsT ts)[i * 3 + j]? = (cells3 t)[j]?
  | [], i, t, h, j, hj => by simp at h
  | x :: ts, 0, t, h, j, hj => by
    simp only [List.getElem?_cons_zero, Option.some.injEq] at h
    subst h
    unfold cellsT
    rw [List.flatMap_cons, List.getElem?_append_left (by simp; omega), Nat.zero_mul, Nat.zero_add]
    rfl
  | x :: ts, i + 1, t, h, j, hj => by
    rw [List.getElem?_cons_succ] at h
    have := cellsT_get ts i t h j hj
    unfold cellsT at this ⊢
    rw [List.flatMap_cons, List.getElem?_append_right (by simp; omega), ← this]
    congr 1
    simp
    omega
theorem cellsT_len (ts : List Tok) : (cellsT ts).length = ts.length * 3 := by
  induction ts with
  | nil => rfl
  | cons t ts ih => unfold cellsT at ih ⊢; rw [List.flatMap_cons, List.length_append, ih]; simp; omega
structure ListAt (w : World) (g cap : Nat) (ts : List Tok) : Prop where
  le : ts.length ≤ cap
  cm : cap ≤ maxLen
  row : ∀ i t, ts[i]? = some t → w.rangeAt g (i * 3) (cells3 t)
theorem TokAt.row {base : Nat} {w : World} {v : Value} {ts : List Tok} (h : TokAt base w v ts) (hn : 0 < ts.length) :
    ∃ g cap, v = .slice (some ⟨g, 0, none⟩) ts.length cap ∧ base ≤ g ∧ g < w.heap.size ∧ ListAt w g cap ts := by
  obtain ⟨hl, h | ⟨g, cap, cur, rfl, hb, hg, h1, h2, h3, h4⟩⟩ := h
  · omega
  · refine ⟨g, cap, rfl, hb, ?_, h1, h2, fun i t ht j v hv => ?_⟩
    · rcases Nat.lt_or_ge g w.heap.size with c | c
      · exact c
      · rw [Array.getElem?_eq_none c] at hg; cases hg
    · have hj : j < 3 := by
        rcases Nat.lt_or_ge j 3 with c | c
        · exact c
        · rw [List.getElem?_eq_none (by show 3 ≤ j; exact c)] at hv; cases hv
      have hi := (List.getElem?_eq_some_iff.1 ht).1
      have e := cellsT_get ts i t ht j hj
      rw [hv, ← h4, List.getElem?_take, if_pos (by omega), Array.getElem?_toList] at e
      show w.cell? ⟨g, i * 3 + j, none⟩ = some v
      rw [cell_of_row w g (i * 3 + j) cur _ _ hg]
      exact e
theorem ListAt.mono {w w' : World} {g cap B : Nat} {ts : List Tok} (h : ListAt w g cap ts) (hb : Below B w w') (hB : g < B) : ListAt w' g cap ts :=
  ⟨h.le, h.cm, fun i t ht j v hv => by
    rw [hb.cell (p := ⟨g, i * 3 + j, none⟩) hB]; exact h.row i t ht j v hv⟩
def exS : ByteArray := { data := #[97, 60, 60, 61, 49, 46, 53, 101, 51, 59] }
def exT : ByteArray := { data := #[32, 52, 50, 57, 52, 57, 54, 55, 50, 57, 54] }
theorem exS_lex : lex exS.data.toList = .ok [⟨1, [97], 0⟩, ⟨4, [60, 60], 1⟩, ⟨4, [61], 3⟩, ⟨3, [49, 46, 53, 101, 51], 4⟩, ⟨4, [59], 9⟩, ⟨0, [], 10⟩] := by kernel_rfl
theorem exT_lex : lex exT.data.toList = .error (1, 10) := by kernel_rfl
theorem exS_none : ∀ a, a < 10 → a ≠ 4 → isReal (exS.extract a (a + (Lx.span (at_ exS a)).2)).data.toList = false := by decide +kernel
theorem exS_at : exS.extract 4 (4 + (Lx.span (at_ exS 4)).2) = { data := #[49, 46, 53, 101, 51] } := by kernel_rfl
theorem exT_none : ∀ a, a < 11 → isReal (exT.extract a (a + (Lx.span (at_ exT a)).2)).data.toList = false := by decide +kernel
/-- a text with no real in it asks for nothing -/
theorem parses_none {n : Nat} {w : World} {s : ByteArray} (h : ∀ a, a < s.size → isReal (s.extract a (a + (Lx.span (at_ s a)).2)).data.toList = false) : Parses n w s := by
  intro a ha
  rcases Nat.lt_or_ge a s.size with c | c
  · rw [h a c] at ha; cases ha
  · have e : (s.extract a (a + (Lx.span (at_ s a)).2)).data.toList = [] := by
      apply List.eq_nil_of_length_eq_zero
      have h1 : (s.extract a (a + (Lx.span (at_ s a)).2)).size = 0 := by rw [ByteArray.size_extract]; omega
      rw [Array.length_toList]; exact h1
    rw [e] at ha
    cases ha
theorem exS_parses {w : World} (hi : Laid w) : Parses w.heap.size w exS := by
  intro a ha
  by_cases h4 : a = 4
  · subst h4
    rw [exS_at]
    exact parseAt1 hi
  · rcases Nat.lt_or_ge a 10 with c | c
    · rw [exS_none a c h4] at ha; cases ha
    · have e : (exS.extract a (a + (Lx.span (at_ exS a)).2)).data.toList = [] := by
        apply List.eq_nil_of_length_eq_zero
        have h1 : (exS.extract a (a + (Lx.span (at_ exS a)).2)).size = 0 := by rw [ByteArray.size_extract]; have : exS.size = 10 := rfl; omega
        rw [Array.length_toList]; exact h1
      rw [e] at ha
      cases ha
theorem load3 (w : World) (g o : Nat) (t : Tok) (h : w.rangeAt g o (cells3 t)) : (Instr.loadAt 118 (.pointer (some ⟨g, o, none⟩))).run Tryz.prog w = .ok (.agg (cells3 t).toArray) w :=
  run_loadAt_mid w g o 118 (cells3 t) _ h Tryz.underlying118 rfl (by kernel_rfl)
end LxC
end Go.Proofs.YtnlbhnmiekanfaaGreatDoor
