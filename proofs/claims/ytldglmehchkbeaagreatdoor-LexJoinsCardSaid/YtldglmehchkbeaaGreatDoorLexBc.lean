/-
  The small functions of Go's scaled reading of decimals, told. Condition: Go's own tables lie.
-/
import Derived.Test.YtldglmehchkbeaaGreatDoorLexAb
import Derived.Test.YtldglmehchkbeaaGreatDoorLexSh
import Derived.Laws.Bits128
namespace Go.Proofs.YtldglmehchkbeaaGreatDoor
open Go.RowKit
set_option linter.unusedVariables false
set_option linter.unusedSimpArgs false
namespace LxC
open Lx
/-- the table of powers of ten in two parts lies -/
def Tab (w : World) : Prop := ∀ i, i < 696 → ∃ x y : Nat, x < 18446744073709551616 ∧ y < 18446744073709551616 ∧ w.cell? ⟨11, i * 2, none⟩ = some (.int .u64 (x : Int)) ∧ w.cell? ⟨11, i * 2 + 1, none⟩ = some (.int .u64 (y : Int))
theorem tab_of {w : World} {d : DataW Unit} (h : Lib.VarReads Tryz.prog w "internal/strconv.pow10Tab" d) : Tab w := by
  obtain ⟨g, t, cs, fuel, p, hg, ht, hv, hd⟩ := h
  obtain rfl := Option.some.inj ((show Tryz.prog.globalNamed "internal/strconv.pow10Tab" = some 11 by kernel_rfl).symm.trans hg)
  obtain rfl := Option.some.inj ((show (Tryz.prog.globals[11]?).map (·.type) = some 218 by kernel_rfl).symm.trans ht)
  obtain ⟨xs, n, rfl, hx, hl, hxl, hall⟩ := DataW.trod_array Tryz.underlying218 hd
  have hc : Tryz.prog.cellsOf 217 = 2 := by kernel_rfl
  have hc1 : Tryz.prog.cellsOf 55 = 1 := by kernel_rfl
  intro i hi
  have h0 := hall i hi
  rw [hc] at h0
  obtain ⟨y, hy⟩ : ∃ y, xs[i]? = some y := ⟨xs[i]'(by rw [hxl]; exact hi), List.getElem?_eq_getElem _⟩
  rw [hy] at h0
  obtain ⟨zs, m, rfl, hz, hzl, hzz, hfs⟩ := DataW.trod_struct Tryz.underlying217 h0
  have f0 := hfs 0 _ rfl
  have f1 := hfs 1 _ rfl
  simp only [List.getElem_toArray, List.getElem_cons_zero, List.getElem_cons_succ, hc1] at f0 f1
  obtain ⟨z0, hz0⟩ : ∃ z, zs[0]? = some z := ⟨zs[0]'(by rw [hzz]; decide), List.getElem?_eq_getElem _⟩
  obtain ⟨z1, hz1⟩ : ∃ z, zs[1]? = some z := ⟨zs[1]'(by rw [hzz]; decide), List.getElem?_eq_getElem _⟩
  rw [hz0] at f0
  rw [hz1] at f1
  obtain ⟨a, ha, -, wa⟩ := DataW.trod_int Tryz.underlying55 f0
  obtain ⟨b, hb, -, wb⟩ := DataW.trod_int Tryz.underlying55 f1
  have ba := bounds_u64 wa
  have bb := bounds_u64 wb
  refine ⟨a.toNat, b.toNat, by omega, by omega, ?_, ?_⟩
  · rw [World.var?_cell hg hv (i * 2), ← Array.getElem?_toList, show ((a.toNat : Nat) : Int) = a by omega]
    have := congrArg (·[0]?) ha
    simpa [List.getElem?_take, List.getElem?_drop] using this
  · rw [World.var?_cell hg hv (i * 2 + 1), ← Array.getElem?_toList, show ((b.toNat : Nat) : Int) = b by omega]
    have := congrArg (·[0]?) hb
    simpa [List.getElem?_take, List.getElem?_drop] using this
theorem bool2i_ (b : Bool) (w : World) : Calls Tryz.prog 166 #[.bool b] w fun e w' => e = .returned (.int .i64 (b.toNat : Int)) ∧ w = w' := by
  cases b
  all_goals
    go_enter Tryz.func166, Tryz.ntmps166
    go_wp2
    go_ret
    exact ⟨rfl, rfl⟩
theorem bool2u_ (b : Bool) (w : World) : Calls Tryz.prog 151 #[.bool b] w fun e w' => e = .returned (.int .u64 (b.toNat : Int)) ∧ w = w' := by
  cases b
  all_goals
    go_enter Tryz.func151, Tryz.ntmps151
    go_wp2
    go_ret
    exact ⟨rfl, rfl⟩
theorem log2_ (p : Int) (w : World) : Calls Tryz.prog 163 #[.int .i64 p] w fun e w' => (∃ x : Int, e = .returned (.int .i64 x)) ∧ w = w' := by
  go_enter Tryz.func163, Tryz.ntmps163
  go_wp2
  go_ret
  exact ⟨⟨_, rfl⟩, rfl⟩
theorem unmin_ (w : World) : Calls Tryz.prog 167 #[.int .u64 9007199254740992] w fun e w' => (∃ x : Int, e = .returned (.int .u64 x)) ∧ w = w' := by
  go_enter Tryz.func167, Tryz.ntmps167
  go_wp2
  go_ret
  exact ⟨⟨_, rfl⟩, rfl⟩
theorem round_ (u : Int) (w : World) : Calls Tryz.prog 169 #[.int .u64 u] w fun e w' => (∃ x : Int, e = .returned (.int .u64 x)) ∧ w = w' := by
  go_enter Tryz.func169, Tryz.ntmps169
  go_wp2
  go_ret
  exact ⟨⟨_, rfl⟩, rfl⟩
attribute [local go_sem] run_from run_bits
theorem pack64_ (m e : Int) (w : World) : Calls Tryz.prog 172 #[.int .u64 m, .int .i64 e] w fun r w' => (∃ (f : Nat) (v : Value), (v = .nilIface ∨ ∃ t x, v = .iface t x) ∧ r = .returned (.tuple #[.float .f64 f, v])) ∧ w = w' := by
  go_enter Tryz.func172, Tryz.ntmps172
  go_wp2
  all_goals
    go_ret2
    first
      | exact ⟨⟨_, _, .inl rfl, rfl⟩, rfl⟩
      | exact ⟨⟨_, _, .inr ⟨_, _, rfl⟩, rfl⟩, rfl⟩
theorem len64_ (x : Int) (w : World) (h0 : 0 ≤ x) (h1 : x ≤ 18446744073709551615) : Calls Tryz.prog 162 #[.int .u64 x] w fun e w' => (∃ b : Nat, b ≤ 64 ∧ e = .returned (.int .i64 (b : Int))) ∧ w = w' := by
  have e : (2 : Nat) ^ 64 = 18446744073709551616 := by decide
  have hb : Lib.bitLen x.toNat ≤ 64 := Lib.bitLen_le _ 64 (by omega) (by rw [e]; omega)
  exact (Tryz.bits_Len64 x w h0 h1).mono fun e w' ⟨h, h2⟩ => ⟨⟨_, hb, h⟩, h2.symm⟩
theorem i64_and63 (n : Int) : bits .and .i64 n 63 = n % 64 := by
  have h127 : (BitVec.ofInt 64 63).toNat = 2 ^ 6 - 1 := by decide
  have key : (BitVec.ofInt 64 n &&& BitVec.ofInt 64 63).toNat = (n % ((2 ^ 64 : Nat) : Int)).toNat % 2 ^ 6 := by
    rw [BitVec.toNat_and, BitVec.toNat_ofInt, h127, Nat.and_two_pow_sub_one_eq_mod]
  show IntKind.i64.wrap ((BitVec.ofInt 64 n &&& BitVec.ofInt 64 63).toNat : Nat) = n % 64
  rw [key, IntKind.wrap_i64]
  omega
/-- a scale in memory -/
structure ScaleAt (w : World) (g : Nat) (x y : Nat) (s : Int) : Prop where
  blk : w.heap[g]? = some (.cells #[.int .u64 (x : Int), .int .u64 (y : Int), .int .i64 s] 199 (0, 0))
  x64 : x < 18446744073709551616
  y64 : y < 18446744073709551616
set_option maxRecDepth 100000 in
set_option maxHeartbeats 4000000 in
theorem prescale_ (g : Nat) (e p lp : Int) (w : World) (hT : Tab w) (hp1 : -345 ≤ p) (hp2 : p ≤ 310) (hne : g ≠ 11)
    (hb : w.heap[g]? = some (.cells #[.int .u64 0, .int .u64 0, .int .i64 0] 199 (0, 0))) :
    Calls Tryz.prog 164 #[.pointer (some ⟨g, 0, none⟩), .int .i64 e, .int .i64 p, .int .i64 lp] w fun r w' => r = .returned (.tuple #[]) ∧ (∃ x y s, ScaleAt w' g x y s) ∧ Below g w w' := by
  obtain ⟨q, hq⟩ : ∃ q : Nat, p = (q : Int) - 348 := ⟨(p + 348).toNat, by omega⟩
  subst hq
  have hq1 : q < 696 := by omega
  obtain ⟨x, y, hx, hy, hcx, hcy⟩ := hT q hq1
  have k0 : w.cell? ⟨g, 0, none⟩ = some (.int .u64 0) := Lib.cell_of_heap hb 0
  have k1 : w.cell? ⟨g, 1, none⟩ = some (.int .u64 0) := Lib.cell_of_heap hb 1
  have k2 : w.cell? ⟨g, 2, none⟩ = some (.int .i64 0) := Lib.cell_of_heap hb 2
  have f0 : w.frozen? ⟨g, 0, none⟩ = false := Lib.frozen_of_heap hb _
  have h1 := heap_setCell_same w g 0 _ _ (.int .u64 (x : Int)) hb
  have f1 : (w.setCell ⟨g, 0, none⟩ (.int .u64 (x : Int))).frozen? ⟨g, 1, none⟩ = false := Lib.frozen_of_heap h1 _
  have h2 := heap_setCell_same _ g 1 _ _ (.int .u64 (y : Int)) h1
  have f2 : ((w.setCell ⟨g, 0, none⟩ (.int .u64 (x : Int))).setCell ⟨g, 1, none⟩ (.int .u64 (y : Int))).frozen? ⟨g, 2, none⟩ = false := Lib.frozen_of_heap h2 _
  have HQ : Hid (∀ s : Int, (∃ (x' y' : Nat) (s' : Int), ScaleAt (((w.setCell ⟨g, 0, none⟩ (.int .u64 (x : Int))).setCell ⟨g, 1, none⟩ (.int .u64 (y : Int))).setCell ⟨g, 2, none⟩ (.int .i64 s)) g x' y' s') ∧ Below g w (((w.setCell ⟨g, 0, none⟩ (.int .u64 (x : Int))).setCell ⟨g, 1, none⟩ (.int .u64 (y : Int))).setCell ⟨g, 2, none⟩ (.int .i64 s))) := fun s =>
    ⟨⟨x, y, s, ⟨by rw [heap_setCell_same _ g 2 _ _ (.int .i64 s) h2]; simp, hx, hy⟩⟩, (((Below.refl g w).setCell (p := ⟨g, 0, none⟩) (Nat.le_refl _) _).setCell (p := ⟨g, 1, none⟩) (Nat.le_refl _) _).setCell (p := ⟨g, 2, none⟩) (Nat.le_refl _) _⟩
  clear hT hb hx hy h1 h2
  go_enter Tryz.func164, Tryz.ntmps164
  go_wp2
  go_end0
  exact ⟨rfl, HQ.out _⟩
end LxC
end Go.Proofs.YtldglmehchkbeaaGreatDoor
