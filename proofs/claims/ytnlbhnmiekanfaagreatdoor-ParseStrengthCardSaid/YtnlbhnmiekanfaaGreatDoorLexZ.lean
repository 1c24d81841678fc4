/-
  All tokens of a text, told: Lex. Condition: the text is one that memory holds, Go's own variables lie, and real.Parse answers at the reals' texts that may stand there.
-/
import Derived.Test.YtnlbhnmiekanfaaGreatDoorLexY
namespace Go.Proofs.YtnlbhnmiekanfaaGreatDoor
open Go.RowKit
set_option linter.unusedVariables false
set_option linter.unusedSimpArgs false
namespace LxC
open Lx
theorem ParseAt.later {n m : Nat} {w W : World} {s : ByteArray} (h : ParseAt n w s) (hb : Below n w W) (hm : n ≤ m) : ParseAt m W s :=
  fun W' h1 h2 => h W' (by omega) (hb.trans (h2.mono hm))
theorem Parses.later {n m : Nat} {w W : World} {s : ByteArray} (h : Parses n w s) (hb : Below n w W) (hm : n ≤ m) : Parses m W s :=
  fun a hr => (h a hr).later hb hm
theorem infoTok : (Tryz.prog.info? TT).map (fun i => (i.zero, i.size, i.bytes)) = some (some (.agg #[.int .i64 0, .string ⟨#[]⟩, .int .i64 0]), 3, 32) := by kernel_rfl
def cellsT (ts : List Tok) : List Value := ts.flatMap fun t => [.int .i64 (t.kind : Int), .string ⟨t.text.toArray⟩, .int .i64 (t.place : Int)]
theorem cellsT_snoc (ts : List Tok) (t : Tok) : cellsT (ts ++ [t]) = cellsT ts ++ [.int .i64 (t.kind : Int), .string ⟨t.text.toArray⟩, .int .i64 (t.place : Int)] := by
  unfold cellsT; simp
/-- tokens in memory, in blocks from base on -/
def TokAt (base : Nat) (w : World) (v : Value) (ts : List Tok) : Prop := w.ownsRow base TT 3 v ts.length (cellsT ts)
def LexPost (w : World) : Except (Nat × Int) (List Tok) → Ending → World → Prop
  | .ok ts, e, w' => ∃ v, e = .returned (.tuple #[v, .int .i64 0, .int .i64 0]) ∧ TokAt w.heap.size w' v ts ∧ Below w.heap.size w w'
  | .error x, e, w' => e = .returned (.tuple #[.slice none 0 0, .int .i64 (x.1 : Int), .int .i64 x.2]) ∧ Below w.heap.size w w'
def pre (ts : List Tok) : Except (Nat × Int) (List Tok) → Except (Nat × Int) (List Tok)
  | .ok us => .ok (ts ++ us)
  | .error x => .error x
theorem pre_more (ts : List Tok) (t : Tok) (r : Except (Nat × Int) (List Tok)) : pre ts (more t r) = pre (ts ++ [t]) r := by
  cases r with
  | ok us => show Except.ok (ts ++ t :: us) = Except.ok (ts ++ [t] ++ us); simp
  | error x => rfl
/-- where the loop stands -/
structure St (w : World) (n : Rg) (w1 : World) (R : Nat) (fs : Fs) (s : ByteArray) (k : Nat) (v : Value) (ts : List Tok) (wr : World) : Prop where
  big : w.heap.size + 3 ≤ R
  lo : n.lo = w.heap.size
  rd : RdAt n w1 R fs s k wr
  res : Res3 w.heap.size v 0 0 wr
  own : wr.ownsRow (R + 1) TT 3 v ts.length (cellsT ts)
  bel : Below w.heap.size w wr
  few : ts.length ≤ 2500
  hk : k ≤ s.size
theorem ne_own {w : World} {R : Nat} {e : TypeId} {size n : Nat} {v : Value} {xs : List Value} (h : w.ownsRow (R + 1) e size v n xs) {k : Nat} (hk : k ≤ R) : some k ≠ v.ownBlock := by
  intro e
  have := (h.lt k e.symm).1
  omega
/-- behind the reader, an error that is thrown -/
theorem St.caught {w : World} {n : Rg} {w1 : World} {R : Nat} {fs : Fs} {s : ByteArray} {k : Nat} {v : Value} {ts : List Tok} {wr w2 w3 : World} {a e : Int} (h : St w n w1 R fs s k v ts wr) (g : wr.grownBy w2 (some R)) (hc : Caught w.heap.size a e w2 w3) : Below w.heap.size w w3 := by
  have hb := h.big
  have hl := h.rd.lt
  refine (h.bel.grown g h.bel.size (fun k hk => by have := Option.some.inj hk; omega)).trans ⟨hc.2.os, hc.2.tape, hc.2.output, hc.2.size, fun i hi => hc.2.block i (by have := h.bel.size; have := g.size; omega) (by omega) (by omega) (by omega)⟩
theorem St.res2 {w : World} {n : Rg} {w1 : World} {R : Nat} {fs : Fs} {s : ByteArray} {k : Nat} {v : Value} {ts : List Tok} {wr w2 : World} (h : St w n w1 R fs s k v ts wr) (g : wr.grownBy w2 (some R)) : Res3 w.heap.size v 0 0 w2 := by
  have hb := h.big
  have l0 : w.heap.size < wr.heap.size := (Array.getElem?_eq_some_iff.1 h.res.v).1
  have l1 : w.heap.size + 1 < wr.heap.size := (Array.getElem?_eq_some_iff.1 h.res.a).1
  have l2 : w.heap.size + 2 < wr.heap.size := (Array.getElem?_eq_some_iff.1 h.res.e).1
  exact ⟨(g.block _ l0 (by intro e; have := Option.some.inj e; omega)).trans h.res.v, (g.block _ l1 (by intro e; have := Option.some.inj e; omega)).trans h.res.a, (g.block _ l2 (by intro e; have := Option.some.inj e; omega)).trans h.res.e⟩
/-- behind the reader, with a block or two more, and a token more in the row -/
theorem St.next {w : World} {n : Rg} {w1 : World} {R : Nat} {fs : Fs} {s : ByteArray} {k k' : Nat} {v v' : Value} {ts : List Tok} {t : Tok} {wr w2 w4 : World} {o1 o2 : Obj} (h : St w n w1 R fs s k v ts wr) (g : wr.grownBy w2 (some R)) (hrd : RdAt n w1 R fs s k' w2)
    (hown : w4.ownsRow (R + 1) TT 3 v' (ts.length + 1) (cellsT ts ++ [.int .i64 (t.kind : Int), .string ⟨t.text.toArray⟩, .int .i64 (t.place : Int)])) (hg : ((w2.alloc o1).alloc o2).grownBy w4 v.ownBlock) (hk : k' ≤ s.size) (hts : ts.length + 1 ≤ 2500) :
    St w n w1 R fs s k' v' (ts ++ [t]) (w4.setCell ⟨w.heap.size, 0, none⟩ v') := by
  have hb := h.big
  have r2 := h.res2 g
  have hR2 := hrd.lt
  have hz : ((w2.alloc o1).alloc o2).heap.size = w2.heap.size + 2 := by simp
  have old : ∀ i, i ≤ R → w4.heap[i]? = w2.heap[i]? := fun i hi => by
    rw [hg.block i (by rw [hz]; omega) (ne_own h.own hi), Lib.alloc_old _ _ _ (by simp; omega), Lib.alloc_old _ _ _ (by omega)]
  have hs4 : w2.heap.size ≤ w4.heap.size := by have := hg.size; rw [hz] at this; omega
  have b24 : Below (R + 1) w2 w4 := ⟨hg.os, hg.tape, hg.output, hs4, fun i hi => old i (by omega)⟩
  have nB : ∀ i, i ≠ w.heap.size → (w4.setCell ⟨w.heap.size, 0, none⟩ v').heap[i]? = w4.heap[i]? := fun i hi => heap_setCell_other _ ⟨w.heap.size, 0, none⟩ _ _ hi
  refine ⟨hb, h.lo, ?_, ⟨?_, ?_, ?_⟩, ?_, ?_, by simp; omega, hk⟩
  · refine ⟨hrd.ok, hrd.base, hrd.lh, hrd.nR, (hrd.bel.thenB b24 (by have := hrd.nR; omega)).set _ (.inr ⟨by rw [h.lo]; exact Nat.le_refl _, by rw [h.lo]; omega⟩), ?_⟩
    · rw [nB R (by omega), old R (Nat.le_refl _)]; exact hrd.blk
  · rw [heap_setCell_same _ w.heap.size 0 #[v] TS v' ((old _ (by omega)).trans r2.v)]; rfl
  · rw [nB _ (by omega), old _ (by omega)]; exact r2.a
  · rw [nB _ (by omega), old _ (by omega)]; exact r2.e
  · rw [List.length_append, cellsT_snoc]
    exact hown.kept (gb_set (R := w.heap.size) (i := 0) v') (.inr (fun e => by have := (hown.lt _ e).1; omega))
  · exact ((h.bel.grown g h.bel.size (fun k hk => by have := Option.some.inj hk; omega)).trans (b24.mono (by omega))).setCell (p := ⟨w.heap.size, 0, none⟩) (Nat.le_refl _) _
end LxC
end Go.Proofs.YtnlbhnmiekanfaaGreatDoor
