/-
  The word that package code makes of a form and an instruction, a contract. Conditions: the form is a row of the table, the instruction's numbers are of 64 bits.
-/
import Derived.Test.YtlmblfkcmhgdaaaCodeU
import Derived.Test.YtlmblfkcmhgdaaaCodeG
import Derived.Laws.CopyOwn
namespace Go.Proofs.Ytlmblfkcmhgdaaa
open Go.RowKit
set_option linter.unusedVariables false
set_option linter.unusedSimpArgs false
namespace CW
open CC
/-- one piece of a part, at its place -/
def pv (x f b t : Int) : Int := bits .and .u32 (x % 4294967296 / 2 ^ f.toNat) (2 ^ b.toNat - 1) * 2 ^ t.toNat % 4294967296
def accJ (u : Nat → Int) (x W : Int) (n : Nat) : Nat → Int
  | 0 => W
  | j + 1 => bits .or .u32 (accJ u x W n j) (pv x (u (15 * n + 3 + 3 * j)) (u (15 * n + 3 + (3 * j + 1))) (u (15 * n + 3 + (3 * j + 2))))
def part (rd rs1 rs2 imm : Int) : Nat → Int
  | 0 => rd
  | 1 => rs1
  | 2 => rs2
  | _ => imm
def accN (u : Nat → Int) (p : Nat → Int) (W : Int) : Nat → Int
  | 0 => W
  | n + 1 => accJ u (p n) (accN u p W n) n 4
def iv (op rd rs1 rs2 imm : Int) : Array Value := #[.int .i64 op, .int .i64 rd, .int .i64 rs1, .int .i64 rs2, .int .i64 imm]
theorem newAt (w : World) (o : Obj) (i : Nat) (hi : i = w.heap.size) : (w.alloc o).heap[i]? = some o := CG.newAt w o i hi
section
variable {ops : Array Oper} {rest : List Oper} {o : Oper} {a : Act} {w : World} {Q : Exit → Act → World → Prop}
theorem store60 (hgd : o.guard = none) (x y : Operand) (ho : o.op = .store 91 x y) (g : Nat) (k : Int) (hl : (CM.ul k.toNat).length = 60) (hx : a.eval x = .pointer (some ⟨g, 0, none⟩)) (hy : a.eval y = .agg (CM.uA k))
    (hg : w.heap[g]? = some (.cells CU.Z60 91 (0, 0))) (h : wpList Try.prog ops Q rest (a.put o.dst undef) (w.setRow g (CM.uA k))) : wpList Try.prog ops Q (o :: rest) a w :=
  wpList_store_row hgd 91 x y ho g (CM.uA k) hx hy 91 CU.Z60 hg (CU.size60 k hl) (CU.oldsize k hl) (CU.one60 k) h
end
/-- what a round leaves as it is: the instruction's cells, the kind's uses, all that was there -/
structure Gr (w wr : World) (bi bu : Nat) (k : Int) (I : Array Value) : Prop where
  hi : wr.heap[bi]? = some (.cells I 73 (0, 0))
  hu : wr.heap[bu]? = some (.cells (CM.uA k) 91 (0, 0))
  below : Below w.heap.size w wr
theorem lt_of_get {w : World} {b : Nat} {o : Obj} (h : w.heap[b]? = some o) : b < w.heap.size := (Array.getElem?_eq_some_iff.1 h).1
theorem Gr.trans {w wr wx : World} {bi bu : Nat} {k : Int} {I : Array Value} (g : Gr w wr bi bu k I) (hb : Below wr.heap.size wr wx) : Gr w wx bi bu k I :=
  ⟨(hb.block _ (lt_of_get g.hi)).trans g.hi, (hb.block _ (lt_of_get g.hu)).trans g.hu, g.below.trans (hb.mono g.below.size)⟩
theorem Gr.alloc {w wr : World} {bi bu : Nat} {k : Int} {I : Array Value} (g : Gr w wr bi bu k I) (o : Obj) : Gr w (wr.alloc o) bi bu k I := g.trans ((Below.refl _ _).alloc (Nat.le_refl _) _)
theorem Gr.drewN {w wr : World} {bi bu : Nat} {k : Int} {I : Array Value} (g : Gr w wr bi bu k I) (m : Nat) : Gr w (wr.drewN m) bi bu k I := ⟨g.hi, g.hu, ⟨g.below.os, g.below.tape, g.below.output, g.below.size, g.below.block⟩⟩
theorem gr_start {w w1 w2 : World} {k : Int} {I : Array Value} {f : Obj} (hb1 : Below ((w.alloc f).alloc (.cells I 73)).heap.size ((w.alloc f).alloc (.cells I 73)) w1)
    (hb2 : Below ((w1.alloc (.cells CU.Z60 91)).setRow w1.heap.size (CM.uA k)).heap.size ((w1.alloc (.cells CU.Z60 91)).setRow w1.heap.size (CM.uA k)) w2) : Gr w w2 (w.heap.size + 1) w1.heap.size k I := by
  have s1 := hb1.size
  simp only [World.size_alloc] at s1
  have e1 : w1.heap[w.heap.size + 1]? = some (.cells I 73 (0, 0)) := by
    rw [hb1.block _ (by simp only [World.size_alloc]; omega)]
    exact newAt _ _ _ (by simp)
  have e2 : ((w1.alloc (.cells CU.Z60 91)).setRow w1.heap.size (CM.uA k)).heap[w.heap.size + 1]? = some (.cells I 73 (0, 0)) := by
    rw [setRow_other _ _ _ _ (by omega), Below.heap_alloc _ _ _ (by omega)]
    exact e1
  have e3 : ((w1.alloc (.cells CU.Z60 91)).setRow w1.heap.size (CM.uA k)).heap[w1.heap.size]? = some (.cells (CM.uA k) 91 (0, 0)) :=
    setRow_heap _ _ _ _ _ _ (newAt _ _ _ rfl)
  refine ⟨(hb2.block _ (lt_of_get e2)).trans e2, (hb2.block _ (lt_of_get e3)).trans e3, ?_⟩
  refine Below.trans (Below.trans ((((Below.refl _ _).alloc (Nat.le_refl _) _).alloc (by simp) _).trans (hb1.mono (by simp; omega))) ?_) (hb2.mono (by simp; omega))
  exact below_setRow ((Below.refl _ _).alloc (by omega) _) (by omega) _
/-- a part's four pieces, as they lie -/
def row12 (k : Int) (n : Nat) : List Value := [.int .i64 (CM.uv k (15 * n + 3)), .int .i64 (CM.uv k (15 * n + 3 + 1)), .int .i64 (CM.uv k (15 * n + 3 + 2)), .int .i64 (CM.uv k (15 * n + 3 + 3)), .int .i64 (CM.uv k (15 * n + 3 + 4)), .int .i64 (CM.uv k (15 * n + 3 + 5)), .int .i64 (CM.uv k (15 * n + 3 + 6)), .int .i64 (CM.uv k (15 * n + 3 + 7)), .int .i64 (CM.uv k (15 * n + 3 + 8)), .int .i64 (CM.uv k (15 * n + 3 + 9)), .int .i64 (CM.uv k (15 * n + 3 + 10)), .int .i64 (CM.uv k (15 * n + 3 + 11))]
theorem uA_at {k : Int} (hl : (CM.ul k.toNat).length = 60) (j : Nat) (hj : j < 60) : (CM.uA k)[j]? = some (.int .i64 (CM.uv k j)) := by
  simp [CM.uA, CM.uv, List.getElem?_eq_getElem (show j < (CM.ul k.toNat).length by omega)]
theorem row12_range {w : World} {bu : Nat} {k : Int} (hl : (CM.ul k.toNat).length = 60) (hu : w.heap[bu]? = some (.cells (CM.uA k) 91 (0, 0))) (n : Nat) (hn : n < 4) : w.rangeAt bu (n * 15 + 3) (row12 k n) := by
  intro j v hj
  have hj' : j < 12 := by
    have := (List.getElem?_eq_some_iff.1 hj).1
    simpa [row12] using this
  rw [cell_of_row w bu _ _ _ _ hu, uA_at hl _ (by omega)]
  rcases (show j = 0 ∨ j = 1 ∨ j = 2 ∨ j = 3 ∨ j = 4 ∨ j = 5 ∨ j = 6 ∨ j = 7 ∨ j = 8 ∨ j = 9 ∨ j = 10 ∨ j = 11 by omega) with h | h | h | h | h | h | h | h | h | h | h | h <;> subst h <;> rw [← hj] <;> simp [row12, Nat.mul_comm]
theorem pieces_all : ((List.range 11).all fun k => (List.range 4).all fun n => (List.range 12).all fun i => decide (0 ≤ CM.uv (k : Nat) (15 * n + 3 + i) ∧ CM.uv (k : Nat) (15 * n + 3 + i) ≤ 31)) = true := by decide +kernel
theorem pieces {k : Int} (h0 : 0 ≤ k) (h1 : k ≤ 10) (n : Nat) (hn : n < 4) (i : Nat) (hi : i < 12) : 0 ≤ CM.uv k (15 * n + 3 + i) ∧ CM.uv k (15 * n + 3 + i) ≤ 31 := by
  have h := List.all_eq_true.1 (List.all_eq_true.1 (List.all_eq_true.1 pieces_all k.toNat (List.mem_range.2 (by omega))) n (List.mem_range.2 hn)) i (List.mem_range.2 hi)
  rw [show ((k.toNat : Nat) : Int) = k by omega] at h
  exact of_decide_eq_true h
theorem size12 (k : Int) (n : Nat) : (Try.prog.info? 88).map (·.size) = some (row12 k n).length := by kernel_rfl
section
variable {ops : Array Oper} {rest : List Oper} {o : Oper} {a : Act} {w : World} {Q : Exit → Act → World → Prop}
theorem load12 (hgd : o.guard = none) (x : Operand) (ho : o.op = .load 88 x) (bu : Nat) (k : Int) (n : Nat) (hl : (CM.ul k.toNat).length = 60) (hn : n < 4) (hx : a.eval x = .pointer (some ⟨bu, n * 15 + 3, none⟩))
    (hu : w.heap[bu]? = some (.cells (CM.uA k) 91 (0, 0))) (h : wpList Try.prog ops Q rest (a.put o.dst (.agg (row12 k n).toArray)) w) : wpList Try.prog ops Q (o :: rest) a w :=
  wpList_load_mid hgd 88 x ho bu (n * 15 + 3) hx (row12 k n) _ (row12_range hl hu n hn) Try.underlying88 rfl (size12 k n) h
end
/-- one piece out of the four -/
theorem index12 (k : Int) (n j : Nat) (hj : j < 4) (w : World) : (Instr.index 88 (.agg (row12 k n).toArray) (.int .i64 j)).run Try.prog w = .ok (.agg #[.int .i64 (CM.uv k (15 * n + 3 + 3 * j)), .int .i64 (CM.uv k (15 * n + 3 + (3 * j + 1))), .int .i64 (CM.uv k (15 * n + 3 + (3 * j + 2)))]) w := by
  rcases (show j = 0 ∨ j = 1 ∨ j = 2 ∨ j = 3 by omega) with h | h | h | h <;> subst h <;> kernel_rfl
theorem part_cell {w wr : World} {bi bu : Nat} {k op rd rs1 rs2 imm : Int} (g : Gr w wr bi bu k (iv op rd rs1 rs2 imm)) (n : Nat) (hn : n < 4) : wr.cell? ⟨bi, n + 1, none⟩ = some (.int .i64 (part rd rs1 rs2 imm n)) := by
  rw [cell_of_row wr bi _ _ _ _ g.hi]
  rcases (show n = 0 ∨ n = 1 ∨ n = 2 ∨ n = 3 by omega) with h | h | h | h <;> subst h <;> rfl
set_option maxHeartbeats 1000000 in
theorem word_ (k o a b op rd rs1 rs2 imm : Int) (h0 : 0 ≤ k) (h1 : k ≤ 10) (hl : Hid ((CM.ul k.toNat).length = 60)) (w : World) :
    Calls Try.prog 35 #[.agg #[.int .i64 k, .int .u32 o, .int .u32 a, .int .u32 b], .agg (iv op rd rs1 rs2 imm)] w fun e w' =>
      e = .returned (.int .u32 (accN (CM.uv k) (part rd rs1 rs2 imm) (bits .or .u32 (bits .or .u32 o (a * 4096 % 4294967296)) (b * 33554432 % 4294967296)) 4)) ∧ Below w.heap.size w w' := by
  go_enter Try.func35, Try.ntmps35
  go_wp2_with (first
    | (go_at_call 36; refine (CU.uses_ _ h0 h1 _).mono ?_; rintro e w1 ⟨rfl, hb1⟩)
    | (with_reducible refine CU.wpList_allocZ rfl 91 rfl CU.Z60 CU.zero60 ?_)
    | ((with_reducible refine store60 rfl (.tmp 6) (.tmp 23) rfl w1.heap.size k hl.out ?xa ?xb ?xc ?_); (case xa => rfl); (case xb => simp [go_sem]); (case xc => exact newAt _ _ _ rfl))
    | (go_at_call 37; refine (CG.fields_ _ _).mono ?_; rintro e w2 ⟨rfl, hb2⟩))
  have g := gr_start hb1 hb2
  clear hb1 hb2
  generalize w1.heap.size = bu at *
  obtain ⟨bi, hbi⟩ : ∃ bi, bi = w.heap.size + 1 := ⟨_, rfl⟩
  rw [← hbi] at g ⊢
  have hbi' : w.heap.size ≤ bi := by omega
  clear hbi
  generalize hW : bits .or .u32 (bits .or .u32 o (a * 4096 % 4294967296)) (b * 33554432 % 4294967296) = W0
  have HW := Lib.hid hW
  clear hW
  go_loopw [5, 25] (fun s5 s25 wr => ∃ n : Nat, n ≤ 4 ∧ s25 = .int .i64 n ∧ s5 = .int .u32 (accN (CM.uv k) (part rd rs1 rs2 imm) W0 n) ∧ Gr w wr bi bu k (iv op rd rs1 rs2 imm)) (fun _ s25 _ => 4 - (intOf s25).toNat)
  case atStart => exact ⟨0, by omega, rfl, rfl, g⟩
  case round =>
    clear g
    obtain ⟨n, hn, rfl, rfl, g⟩ := hrel
    by_cases hlt : n < 4
    · have hix : ∀ w, (Instr.index 94 (.agg #[.pointer (some ⟨bi, 1, none⟩), .pointer (some ⟨bi, 2, none⟩), .pointer (some ⟨bi, 3, none⟩), .pointer (some ⟨bi, 4, none⟩)]) (.int .i64 n)).run Try.prog w = .ok (.pointer (some ⟨bi, n + 1, none⟩)) w := by
        rcases (show n = 0 ∨ n = 1 ∨ n = 2 ∨ n = 3 by omega) with h | h | h | h <;> subst h <;> intro w <;> kernel_rfl
      go_wp2_with ((with_reducible refine load12 rfl (.tmp 31) rfl bu k n hl.out hlt ?xd g.hu ?_); (case xd => simp [go_sem]))
      clear hix
      generalize hR : (row12 k n).toArray = R
      have HR := Lib.hid hR
      clear hR
      obtain ⟨wo, rfl⟩ : ∃ wo : World, wo = wr := ⟨_, rfl⟩
      go_loopw [5, 33] (fun s5 s33 wr => ∃ j : Nat, j ≤ 4 ∧ s33 = .int .i64 j ∧ s5 = .int .u32 (accJ (CM.uv k) (part rd rs1 rs2 imm n) (accN (CM.uv k) (part rd rs1 rs2 imm) W0 n) n j) ∧ Gr w wr bi bu k (iv op rd rs1 rs2 imm)) (fun _ s33 _ => 4 - (intOf s33).toNat)
      case atStart => exact ⟨0, by omega, rfl, rfl, g⟩
      case round =>
        clear g
        obtain ⟨j, hj, rfl, rfl, g⟩ := hrel
        by_cases hjt : j < 4
        · have hpx := index12 k n j hjt
          have hc := part_cell g n hlt
          have hbi := lt_of_get g.hi
          have p1 := pieces h0 h1 n hlt (3 * j) (by omega)
          have p2 := pieces h0 h1 n hlt (3 * j + 1) (by omega)
          have p3 := pieces h0 h1 n hlt (3 * j + 2) (by omega)
          have HA := Lib.hid (show accJ (CM.uv k) (part rd rs1 rs2 imm n) (accN (CM.uv k) (part rd rs1 rs2 imm) W0 n) n (j + 1) = bits .or .u32 (accJ (CM.uv k) (part rd rs1 rs2 imm n) (accN (CM.uv k) (part rd rs1 rs2 imm) W0 n) n j) (pv (part rd rs1 rs2 imm n) (CM.uv k (15 * n + 3 + 3 * j)) (CM.uv k (15 * n + 3 + (3 * j + 1))) (CM.uv k (15 * n + 3 + (3 * j + 2)))) from rfl)
          generalize CM.uv k (15 * n + 3 + 3 * j) = F at *
          generalize CM.uv k (15 * n + 3 + (3 * j + 1)) = B at *
          generalize CM.uv k (15 * n + 3 + (3 * j + 2)) = T at *
          obtain ⟨p1, q1⟩ := p1
          obtain ⟨p2, q2⟩ := p2
          obtain ⟨p3, q3⟩ := p3
          rw [HR.out] at hpx
          have ga := g.alloc (.cells #[.int .i64 F, .int .i64 B, .int .i64 T] 87)
          have hf : ∀ w, Calls Try.prog 33 #[.int .i64 B] w fun e w' => e = .returned (.int .u32 (2 ^ B.toNat - 1)) ∧ w' = w := fun w => (full B p2 q2 w).mono fun _ _ h => ⟨h.1, h.2.symm⟩
          go_wp2
          go_quiet ((go_at_call 33; exact Calls.quiet_of_same (hf _)))
          go_wp2
          go_roundw
          case rel => exact ⟨j + 1, by omega, by go_num, by rw [HA.out]; rfl, ga.drewN nq⟩
          case measure => simp [intOf]; omega
        · obtain rfl : j = 4 := by omega
          go_wp2
          go_roundw
          case rel => exact ⟨n + 1, by omega, by go_num, rfl, g⟩
          case measure => simp [intOf]; omega
    · obtain rfl : n = 4 := by omega
      go_wp2
      go_ret
      exact ⟨ret_int (by rw [← HW.out]), g.below⟩
end CW
end Go.Proofs.Ytlmblfkcmhgdaaa
