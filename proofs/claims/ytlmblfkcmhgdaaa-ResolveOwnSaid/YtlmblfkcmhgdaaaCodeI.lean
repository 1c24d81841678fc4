/-
  The instruction that package code takes out of a word for a form, a contract. Conditions: the form is a row of the table, the word is of 32 bits.
-/
import Derived.Test.YtlmblfkcmhgdaaaCodeW
import Derived.StillTailTactics
import Derived.Deep.RegionWith
namespace Go.Proofs.Ytlmblfkcmhgdaaa
open Go.RowKit
set_option linter.unusedVariables false
set_option linter.unusedSimpArgs false
namespace CI
open CC
theorem or64 (p q : Nat) (hp : p < 4294967296) (hq : q < 4294967296) : bits .or .i64 (p : Int) (q : Int) = ((p ||| q : Nat) : Int) := by
  have h := Nat.or_lt_two_pow (n := 32) (show p < 2 ^ 32 by omega) (show q < 2 ^ 32 by omega)
  show IntKind.i64.wrap ((BitVec.ofInt 64 (p : Int) ||| BitVec.ofInt 64 (q : Int)).toNat : Int) = _
  have e : ∀ a : Nat, a < 4294967296 → (BitVec.ofInt 64 (a : Int)).toNat = a := fun a ha => by
    rw [BitVec.ofInt_natCast, BitVec.toNat_ofNat]; exact Nat.mod_eq_of_lt (by omega)
  rw [BitVec.toNat_or, e p hp, e q hq]
  exact IntWalk.i64_in _ ⟨by omega, by omega⟩
/-- one piece out of a word, at its place in the part -/
def pc (x f b t : Int) : Int := bits .and .u32 (x / 2 ^ t.toNat) (2 ^ b.toNat - 1) * 2 ^ f.toNat % 4294967296
def insJ (u : Nat → Int) (x : Int) (n : Nat) : Nat → Int
  | 0 => 0
  | j + 1 => bits .or .i64 (insJ u x n j) (pc x (u (15 * n + 3 + 3 * j)) (u (15 * n + 3 + (3 * j + 1))) (u (15 * n + 3 + (3 * j + 2))))
def insF (u : Nat → Int) (x : Int) (n : Nat) : Int := CG.signed (u (15 * n)) (u (15 * n + 1)) (u (15 * n + 2)) (insJ u x n 4)
def Vn (u : Nat → Int) (x : Int) (n : Nat) (y : Int) (i : Nat) : Int := if i < n then insF u x i else if i = n then y else 0
def ia (op : Int) (V : Nat → Int) : Array Value := #[.int .i64 op, .int .i64 (V 0), .int .i64 (V 1), .int .i64 (V 2), .int .i64 (V 3)]
theorem ia_start (u : Nat → Int) (x op : Int) : ia op (Vn u x 0 0) = #[.int .i64 op, .int .i64 0, .int .i64 0, .int .i64 0, .int .i64 0] := by simp [ia, Vn]
theorem Vn_set (u : Nat → Int) (x : Int) (n : Nat) (y z : Int) : (fun i => if i = n then z else Vn u x n y i) = Vn u x n z := by
  funext i
  unfold Vn
  by_cases h : i < n
  · rw [if_neg (by omega), if_pos h, if_pos h]
  · rw [if_neg h, if_neg h]
    by_cases e : i = n
    · rw [if_pos e, if_pos e]
    · rw [if_neg e, if_neg e, if_neg e]
theorem Vn_next (u : Nat → Int) (x : Int) (n : Nat) : Vn u x n (insF u x n) = Vn u x (n + 1) 0 := by
  funext i
  unfold Vn
  by_cases h : i < n
  · rw [if_pos h, if_pos (by omega)]
  · rw [if_neg h]
    by_cases e : i = n
    · subst e; rw [if_pos rfl, if_pos (by omega)]
    · rw [if_neg e, if_neg (by omega)]; split <;> rfl
theorem Vn_at (u : Nat → Int) (x : Int) (n : Nat) (y : Int) : Vn u x n y n = y := by simp [Vn]
/-- what holds at every place of the walk: the result's zeros, the instruction's cells, the kind's uses -/
structure Gi (w wr : World) (br bi bu : Nat) (k : Int) (C : Array Value) : Prop where
  hr : wr.heap[br]? = some (.cells #[.int .i64 0, .int .i64 0, .int .i64 0, .int .i64 0, .int .i64 0] 73 (0, 0))
  hi : wr.heap[bi]? = some (.cells C 73 (0, 0))
  hu : wr.heap[bu]? = some (.cells (CM.uA k) 91 (0, 0))
  below : Below w.heap.size w wr
  nbi : w.heap.size ≤ bi
  nbr : w.heap.size ≤ br
  ibu : bu ≠ bi
  ibr : br ≠ bi
theorem Gi.trans {w wr wx : World} {br bi bu : Nat} {k : Int} {C : Array Value} (g : Gi w wr br bi bu k C) (hb : Below wr.heap.size wr wx) : Gi w wx br bi bu k C :=
  ⟨(hb.block _ (CW.lt_of_get g.hr)).trans g.hr, (hb.block _ (CW.lt_of_get g.hi)).trans g.hi, (hb.block _ (CW.lt_of_get g.hu)).trans g.hu, g.below.trans (hb.mono g.below.size), g.nbi, g.nbr, g.ibu, g.ibr⟩
theorem Gi.alloc {w wr : World} {br bi bu : Nat} {k : Int} {C : Array Value} (g : Gi w wr br bi bu k C) (o : Obj) : Gi w (wr.alloc o) br bi bu k C := g.trans ((Below.refl _ _).alloc (Nat.le_refl _) _)
theorem Gi.drewN {w wr : World} {br bi bu : Nat} {k : Int} {C : Array Value} (g : Gi w wr br bi bu k C) (m : Nat) : Gi w (wr.drewN m) br bi bu k C :=
  ⟨g.hr, g.hi, g.hu, ⟨g.below.os, g.below.tape, g.below.output, g.below.size, g.below.block⟩, g.nbi, g.nbr, g.ibu, g.ibr⟩
theorem Gi.drew {w wr : World} {br bi bu : Nat} {k : Int} {C : Array Value} (g : Gi w wr br bi bu k C) : Gi w wr.drew br bi bu k C :=
  ⟨g.hr, g.hi, g.hu, ⟨g.below.os, g.below.tape, g.below.output, g.below.size, g.below.block⟩, g.nbi, g.nbr, g.ibu, g.ibr⟩
theorem ia_set (op : Int) (V : Nat → Int) (n : Nat) (hn : n < 4) (x : Int) : (ia op V).setIfInBounds (n + 1) (.int .i64 x) = ia op (fun i => if i = n then x else V i) := by
  rcases (show n = 0 ∨ n = 1 ∨ n = 2 ∨ n = 3 by omega) with h | h | h | h <;> subst h <;> simp [ia]
theorem Gi.store {w wr : World} {br bi bu : Nat} {k op : Int} {V : Nat → Int} (g : Gi w wr br bi bu k (ia op V)) (n : Nat) (hn : n < 4) (x : Int) : Gi w (wr.setCell ⟨bi, n + 1, none⟩ (.int .i64 x)) br bi bu k (ia op (fun i => if i = n then x else V i)) :=
  ⟨(heap_setCell_other _ _ _ _ g.ibr).trans g.hr, (heap_setCell_same _ _ _ _ _ _ g.hi).trans (by rw [ia_set op V n hn x]), (heap_setCell_other _ _ _ _ g.ibu).trans g.hu, g.below.setCell g.nbi _, g.nbi, g.nbr, g.ibu, g.ibr⟩
theorem ia_cell {w wr : World} {br bi bu : Nat} {k op : Int} {V : Nat → Int} (g : Gi w wr br bi bu k (ia op V)) (n : Nat) (hn : n < 4) : wr.cell? ⟨bi, n + 1, none⟩ = some (.int .i64 (V n)) := by
  rw [cell_of_row wr bi _ _ _ _ g.hi]
  rcases (show n = 0 ∨ n = 1 ∨ n = 2 ∨ n = 3 by omega) with h | h | h | h <;> subst h <;> rfl
theorem ia_free {w wr : World} {br bi bu : Nat} {k : Int} {C : Array Value} (g : Gi w wr br bi bu k C) (j : Nat) : wr.frozen? ⟨bi, j, none⟩ = false := by simp [World.frozen?, g.hi]
theorem gi_start {w w1 w2 : World} {k op : Int} {f : Obj} {C : Array Value}
    (hb1 : Below (((w.alloc f).alloc (.cells #[.int .i64 0, .int .i64 0, .int .i64 0, .int .i64 0, .int .i64 0] 73)).alloc (.cells C 73)).heap.size (((w.alloc f).alloc (.cells #[.int .i64 0, .int .i64 0, .int .i64 0, .int .i64 0, .int .i64 0] 73)).alloc (.cells C 73)) w1)
    (hb2 : Below ((w1.alloc (.cells CU.Z60 91)).setRow w1.heap.size (CM.uA k)).heap.size ((w1.alloc (.cells CU.Z60 91)).setRow w1.heap.size (CM.uA k)) w2) : Gi w w2 (w.heap.size + 1) (w.heap.size + 1 + 1) w1.heap.size k C := by
  have s1 := hb1.size
  simp only [World.size_alloc] at s1
  have up : ∀ (i : Nat) (x : Obj), i < w1.heap.size → w1.heap[i]? = some x → w2.heap[i]? = some x := fun i x hi hx => by
    rw [hb2.block _ (by simp only [setRow_size, World.size_alloc]; omega), setRow_other _ _ _ _ (by omega), Below.heap_alloc _ _ _ hi]
    exact hx
  have e1 : w1.heap[w.heap.size + 1]? = some (.cells #[.int .i64 0, .int .i64 0, .int .i64 0, .int .i64 0, .int .i64 0] 73 (0, 0)) := by
    rw [hb1.block _ (by simp only [World.size_alloc]; omega), Below.heap_alloc _ _ _ (by simp only [World.size_alloc]; omega)]
    exact CW.newAt _ _ _ (by simp)
  have e2 : w1.heap[w.heap.size + 1 + 1]? = some (.cells C 73 (0, 0)) := by
    rw [hb1.block _ (by simp only [World.size_alloc]; omega)]
    exact CW.newAt _ _ _ (by simp)
  have e3 : ((w1.alloc (.cells CU.Z60 91)).setRow w1.heap.size (CM.uA k)).heap[w1.heap.size]? = some (.cells (CM.uA k) 91 (0, 0)) :=
    setRow_heap _ _ _ _ _ _ (CW.newAt _ _ _ rfl)
  refine ⟨up _ _ (by omega) e1, up _ _ (by omega) e2, (hb2.block _ (CW.lt_of_get e3)).trans e3, ?_, by omega, by omega, by omega, by omega⟩
  refine Below.trans (Below.trans (((((Below.refl _ _).alloc (Nat.le_refl _) _).alloc (by simp) _).alloc (by simp; omega) _).trans (hb1.mono (by simp; omega))) ?_) (hb2.mono (by simp; omega))
  exact below_setRow ((Below.refl _ _).alloc (by omega) _) (by omega) _
theorem pc_bd (x f b t : Int) : 0 ≤ pc x f b t ∧ pc x f b t < 4294967296 := by unfold pc; omega
theorem insJ_bd (u : Nat → Int) (x : Int) (n j : Nat) : 0 ≤ insJ u x n j ∧ insJ u x n j < 4294967296 := by
  induction j with
  | zero => simp [insJ]
  | succ j ih =>
    have h := pc_bd x (u (15 * n + 3 + 3 * j)) (u (15 * n + 3 + (3 * j + 1))) (u (15 * n + 3 + (3 * j + 2)))
    rw [insJ]
    generalize pc x (u (15 * n + 3 + 3 * j)) (u (15 * n + 3 + (3 * j + 1))) (u (15 * n + 3 + (3 * j + 2))) = q at *
    generalize insJ u x n j = p at *
    obtain ⟨p', rfl⟩ : ∃ p' : Nat, p = p' := ⟨p.toNat, by omega⟩
    obtain ⟨q', rfl⟩ : ∃ q' : Nat, q = q' := ⟨q.toNat, by omega⟩
    rw [or64 p' q' (by omega) (by omega)]
    have := Nat.or_lt_two_pow (n := 32) (show p' < 2 ^ 32 by omega) (show q' < 2 ^ 32 by omega)
    omega
theorem use_cell {wr : World} {bu : Nat} {k : Int} (hl : (CM.ul k.toNat).length = 60) (hu : wr.heap[bu]? = some (.cells (CM.uA k) 91 (0, 0))) (n : Nat) (hn : n < 4) (i : Nat) (hi : i < 15) : wr.cell? ⟨bu, n * 15 + i, none⟩ = some (.int .i64 (CM.uv k (15 * n + i))) := by
  rw [cell_of_row wr bu _ _ _ _ hu, CW.uA_at hl _ (by omega), Nat.mul_comm]
theorem uses_all : ((List.range 11).all fun k => (List.range 4).all fun n => decide (0 ≤ CM.uv (k : Nat) (15 * n + 2) ∧ CM.uv (k : Nat) (15 * n + 2) ≤ 2 ∧ -2097152 ≤ CM.uv (k : Nat) (15 * n) ∧ CM.uv (k : Nat) (15 * n) ≤ 0 ∧ 0 ≤ CM.uv (k : Nat) (15 * n + 1) ∧ CM.uv (k : Nat) (15 * n + 1) ≤ 2097152)) = true := by decide +kernel
theorem use_bd {k : Int} (h0 : 0 ≤ k) (h1 : k ≤ 10) (n : Nat) (hn : n < 4) : 0 ≤ CM.uv k (15 * n + 2) ∧ CM.uv k (15 * n + 2) ≤ 2 ∧ -2097152 ≤ CM.uv k (15 * n) ∧ CM.uv k (15 * n) ≤ 0 ∧ 0 ≤ CM.uv k (15 * n + 1) ∧ CM.uv k (15 * n + 1) ≤ 2097152 := by
  have h := List.all_eq_true.1 (List.all_eq_true.1 uses_all k.toNat (List.mem_range.2 (by omega))) n (List.mem_range.2 hn)
  rw [show ((k.toNat : Nat) : Int) = k by omega] at h
  exact of_decide_eq_true h
theorem size5 (op : Int) (V : Nat → Int) : (Try.prog.info? 73).map (·.size) = some (ia op V).size := by kernel_rfl
theorem one5 (op : Int) (V : Nat → Int) : (ia op V).all (·.oneCell') = true := by simp [ia, Value.oneCell']
section
variable {ops : Array Oper} {rest : List Oper} {o : Oper} {a : Act} {w : World} {Q : Exit → Act → World → Prop}
theorem load5 (hgd : o.guard = none) (x : Operand) (ho : o.op = .load 73 x) (g : Nat) (op : Int) (V : Nat → Int) (hx : a.eval x = .pointer (some ⟨g, 0, none⟩)) (hg : w.heap[g]? = some (.cells (ia op V) 73 (0, 0)))
    (h : wpList Try.prog ops Q rest (a.put o.dst (.agg (ia op V))) w) : wpList Try.prog ops Q (o :: rest) a w :=
  wpList_load_row hgd 73 x ho g hx 73 (ia op V) (0, 0) _ hg Try.underlying73 rfl (size5 op V) h
theorem store5 (hgd : o.guard = none) (x y : Operand) (ho : o.op = .store 73 x y) (g : Nat) (op : Int) (V : Nat → Int) (hx : a.eval x = .pointer (some ⟨g, 0, none⟩)) (hy : a.eval y = .agg (ia op V))
    (hg : w.heap[g]? = some (.cells #[.int .i64 0, .int .i64 0, .int .i64 0, .int .i64 0, .int .i64 0] 73 (0, 0))) (h : wpList Try.prog ops Q rest (a.put o.dst undef) (w.setRow g (ia op V))) : wpList Try.prog ops Q (o :: rest) a w :=
  wpList_store_row hgd 73 x y ho g (ia op V) hx hy 73 _ hg (size5 op V) rfl (one5 op V) h
end
theorem fin_ {Q : Ending → World → Prop} (op : Int) (V : Nat → Int) {tmps : Array Value} {n : Nat} {w : World}
    (hp : tmps.getD 6 undef = .pointer (some ⟨n, 0, none⟩)) (hg : w.heap[n]? = some (.cells #[.int .i64 0, .int .i64 0, .int .i64 0, .int .i64 0, .int .i64 0] 73 (0, 0))) (hQ : Q (.returned (.agg (ia op V))) (w.setRow n (ia op V))) :
    bodyPost Try.prog Try.f34 Q .ret { tmps := tmps, defers := [] } (w.setRow n (ia op V)) :=
  bodyPost_ret (v := .agg (ia op V)) (results_cell_row Try.results34 tmps _ n 73 (ia op V) (0, 0) _ hp (setRow_heap _ _ _ _ _ _ hg) Try.underlying73 rfl (size5 op V)) rfl hQ
set_option maxRecDepth 100000 in
set_option maxHeartbeats 1000000 in
theorem instr_ (k o a b op x : Int) (h0 : 0 ≤ k) (h1 : k ≤ 10) (hx0 : 0 ≤ x) (hx1 : x < 4294967296) (hl : Hid ((CM.ul k.toNat).length = 60)) (w : World) :
    Calls Try.prog 34 #[.agg #[.int .i64 k, .int .u32 o, .int .u32 a, .int .u32 b], .int .i64 op, .int .u32 x] w fun e w' =>
      e = .returned (.agg (ia op (Vn (CM.uv k) x 4 0))) ∧ Below w.heap.size w w' := by
  go_enter Try.func34, Try.ntmps34
  go_wp2_with (first
    | (go_at_call 36; refine (CU.uses_ _ h0 h1 _).mono ?_; rintro e w1 ⟨rfl, hb1⟩)
    | (with_reducible refine CU.wpList_allocZ rfl 91 rfl CU.Z60 CU.zero60 ?_)
    | ((with_reducible refine CW.store60 rfl (.tmp 8) (.tmp 17) rfl w1.heap.size k hl.out ?xa ?xb ?xc ?_); (case xa => rfl); (case xb => simp [go_sem]); (case xc => exact CW.newAt _ _ _ rfl))
    | (go_at_call 37; refine (CG.fields_ _ _).mono ?_; rintro e w2 ⟨rfl, hb2⟩))
  rw [← ia_start (CM.uv k) x op] at hb1
  have g := gi_start (op := op) hb1 hb2
  clear hb1 hb2
  generalize w1.heap.size = bu at *
  obtain ⟨br, hbr⟩ : ∃ br, br = w.heap.size + 1 := ⟨_, rfl⟩
  rw [← hbr] at g ⊢
  obtain ⟨bi, hbi⟩ : ∃ bi, bi = br + 1 := ⟨_, rfl⟩
  rw [← hbi] at g ⊢
  clear hbi hbr
  go_loopw [19] (fun s19 wr => ∃ n : Nat, n ≤ 4 ∧ s19 = .int .i64 n ∧ Gi w wr br bi bu k (ia op (Vn (CM.uv k) x n 0))) (fun s19 _ => 4 - (intOf s19).toNat)
  case atStart => exact ⟨0, by omega, rfl, g⟩
  case round =>
    clear g
    obtain ⟨n, hn, rfl, g⟩ := hrel
    by_cases hlt : n < 4
    · have hix : ∀ w, (Instr.index 94 (.agg #[.pointer (some ⟨bi, 1, none⟩), .pointer (some ⟨bi, 2, none⟩), .pointer (some ⟨bi, 3, none⟩), .pointer (some ⟨bi, 4, none⟩)]) (.int .i64 n)).run Try.prog w = .ok (.pointer (some ⟨bi, n + 1, none⟩)) w := by
        rcases (show n = 0 ∨ n = 1 ∨ n = 2 ∨ n = 3 by omega) with h | h | h | h <;> subst h <;> intro w <;> kernel_rfl
      go_wp2_with ((with_reducible refine CW.load12 rfl (.tmp 25) rfl bu k n hl.out hlt ?xd g.hu ?_); (case xd => simp [go_sem]))
      clear hix
      generalize hR : (CW.row12 k n).toArray = R
      have HR := Lib.hid hR
      clear hR
      obtain ⟨wo, rfl⟩ : ∃ wo : World, wo = wr := ⟨_, rfl⟩
      go_loopw [27] (fun s27 wr => ∃ j : Nat, j ≤ 4 ∧ s27 = .int .i64 j ∧ Gi w wr br bi bu k (ia op (Vn (CM.uv k) x n (insJ (CM.uv k) x n j)))) (fun s27 _ => 4 - (intOf s27).toNat)
      case atStart => exact ⟨0, by omega, rfl, g⟩
      case round =>
        clear g
        obtain ⟨j, hj, rfl, g⟩ := hrel
        by_cases hjt : j < 4
        · have hpx := CW.index12 k n j hjt
          have hc := ia_cell g n hlt
          rw [Vn_at] at hc
          have hfz := ia_free g (n + 1)
          have hbi := CW.lt_of_get g.hi
          have p1 := CW.pieces h0 h1 n hlt (3 * j) (by omega)
          have p2 := CW.pieces h0 h1 n hlt (3 * j + 1) (by omega)
          have p3 := CW.pieces h0 h1 n hlt (3 * j + 2) (by omega)
          have HA := Lib.hid (show insJ (CM.uv k) x n (j + 1) = bits .or .i64 (insJ (CM.uv k) x n j) (pc x (CM.uv k (15 * n + 3 + 3 * j)) (CM.uv k (15 * n + 3 + (3 * j + 1))) (CM.uv k (15 * n + 3 + (3 * j + 2)))) from rfl)
          generalize CM.uv k (15 * n + 3 + 3 * j) = F at *
          generalize CM.uv k (15 * n + 3 + (3 * j + 1)) = B at *
          generalize CM.uv k (15 * n + 3 + (3 * j + 2)) = T at *
          obtain ⟨p1, q1⟩ := p1
          obtain ⟨p2, q2⟩ := p2
          obtain ⟨p3, q3⟩ := p3
          rw [HR.out] at hpx
          have ga := g.alloc (.cells #[.int .i64 F, .int .i64 B, .int .i64 T] 87)
          have hf : ∀ w, Calls Try.prog 33 #[.int .i64 B] w fun e w' => e = .returned (.int .u32 (2 ^ B.toNat - 1)) ∧ w' = w := fun w => (full B p2 q2 w).mono fun _ _ h => ⟨h.1, h.2.symm⟩
          go_wp2
          refine wp_region_still_tail 17 (by kernel_rfl) (by kernel_rfl) ?_
          simp only [List.take_succ_cons, List.take_zero, List.drop_succ_cons, List.drop_zero]
          change wpStill _ _ ((wr.alloc (.cells #[.int .i64 F, .int .i64 B, .int .i64 T] 87)).drew) _ _ _
          repeat still_step
          still_call (hf _)
          repeat still_step
          refine wpStill_nil ?_
          change wpList _ _ _ _ _ ((wr.alloc (.cells #[.int .i64 F, .int .i64 B, .int .i64 T] 87)).drew)
          have HG := ((g.store n hlt (insJ (CM.uv k) x n (j + 1))).alloc (.cells #[.int .i64 F, .int .i64 B, .int .i64 T] 87)).drew
          rw [Vn_set, HA.out] at HG
          have hq := pc_bd x F B T
          go_wp2
          go_roundw
          case rel => exact ⟨j + 1, by omega, by go_num, by rw [HA.out, show wrap64 (bits .and .u32 (x / 2 ^ T.toNat) (2 ^ B.toNat - 1) * 2 ^ F.toNat % 4294967296) = pc x F B T from IntWalk.wrap64_in _ ⟨by omega, by omega⟩]; exact HG⟩
          case measure => simp [intOf]; omega
        · obtain rfl : j = 4 := by omega
          have hc := ia_cell g n hlt
          rw [Vn_at] at hc
          have hfz := ia_free g (n + 1)
          have hbi := CW.lt_of_get g.hi
          have u0 := use_cell hl.out g.hu n hlt 0 (by omega)
          have u1 := use_cell hl.out g.hu n hlt 1 (by omega)
          have u2 := use_cell hl.out g.hu n hlt 2 (by omega)
          have u3 := use_cell hl.out g.hu n hlt 3 (by omega)
          have u4 := use_cell hl.out g.hu n hlt 4 (by omega)
          have u5 := use_cell hl.out g.hu n hlt 5 (by omega)
          have u6 := use_cell hl.out g.hu n hlt 6 (by omega)
          have u7 := use_cell hl.out g.hu n hlt 7 (by omega)
          have u8 := use_cell hl.out g.hu n hlt 8 (by omega)
          have u9 := use_cell hl.out g.hu n hlt 9 (by omega)
          have u10 := use_cell hl.out g.hu n hlt 10 (by omega)
          have u11 := use_cell hl.out g.hu n hlt 11 (by omega)
          have u12 := use_cell hl.out g.hu n hlt 12 (by omega)
          have u13 := use_cell hl.out g.hu n hlt 13 (by omega)
          have u14 := use_cell hl.out g.hu n hlt 14 (by omega)
          simp only [Nat.add_zero] at u0
          obtain ⟨s0, s1, l0, l1, m0, m1⟩ := use_bd h0 h1 n hlt
          have hJ := insJ_bd (CM.uv k) x n 4
          have HF := Lib.hid (show insF (CM.uv k) x n = CG.signed (CM.uv k (15 * n)) (CM.uv k (15 * n + 1)) (CM.uv k (15 * n + 2)) (insJ (CM.uv k) x n 4) from rfl)
          generalize CM.uv k (15 * n) = L at *
          generalize CM.uv k (15 * n + 1) = M at *
          generalize CM.uv k (15 * n + 2) = S at *
          go_wp2
          go_region_with (first | (go_at_call 38; refine (CG.signed' _ L M S _ rfl rfl rfl ⟨s0, s1⟩ ⟨l0, l1⟩ ⟨m0, m1⟩ ⟨hJ.1, by omega⟩ _).mono ?_; rintro e w' ⟨rfl, rfl⟩))
          all_goals
            have HG := ((g.store n hlt (CG.signed L M S (insJ (CM.uv k) x n 4))).alloc (.cells #[.int .i64 L, .int .i64 M, .int .i64 S, .int .i64 (CM.uv k (15 * n + 3)), .int .i64 (CM.uv k (15 * n + 4)), .int .i64 (CM.uv k (15 * n + 5)), .int .i64 (CM.uv k (15 * n + 6)), .int .i64 (CM.uv k (15 * n + 7)), .int .i64 (CM.uv k (15 * n + 8)), .int .i64 (CM.uv k (15 * n + 9)), .int .i64 (CM.uv k (15 * n + 10)), .int .i64 (CM.uv k (15 * n + 11)), .int .i64 (CM.uv k (15 * n + 12)), .int .i64 (CM.uv k (15 * n + 13)), .int .i64 (CM.uv k (15 * n + 14))] 90)).drew
            rw [← HF.out, Vn_set, Vn_next, HF.out] at HG
            go_wp2
            go_roundw
            case rel => exact ⟨n + 1, by omega, by go_num, HG⟩
            case measure => simp [intOf]; omega
    · obtain rfl : n = 4 := by omega
      go_wp2_with (first
        | ((with_reducible refine load5 rfl (.tmp 7) rfl bi op (Vn (CM.uv k) x 4 0) ?za g.hi ?_); (case za => simp [go_sem]))
        | ((with_reducible refine store5 rfl (.tmp 6) (.tmp 58) rfl br op (Vn (CM.uv k) x 4 0) ?zb ?zc g.hr ?_); (case zb => simp [go_sem]); (case zc => simp [go_sem])))
      go_simp
      refine fin_ op (Vn (CM.uv k) x 4 0) ?_ g.hr ?_
      · rfl
      · exact ⟨rfl, below_setRow g.below g.nbr _⟩
end CI
end Go.Proofs.Ytlmblfkcmhgdaaa
