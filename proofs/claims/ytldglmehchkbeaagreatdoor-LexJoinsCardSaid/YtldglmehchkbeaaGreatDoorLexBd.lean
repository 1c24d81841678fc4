/-
  Go's scaled reading of decimals, told. Condition: Go's own tables lie.
-/
import Derived.Test.YtldglmehchkbeaaGreatDoorLexBc
import Derived.Deep.RegionHeld3
import Derived.Deep.DeepMust
import Derived.BigRegion
import Derived.BigQuiet
namespace Go.Proofs.YtldglmehchkbeaaGreatDoor
open Go.RowKit
set_option linter.unusedVariables false
set_option linter.unusedSimpArgs false
namespace LxC
open Lx
set_option maxRecDepth 100000 in
set_option maxHeartbeats 8000000 in
theorem uscale_ (X g x y : Nat) (s : Int) (w : World) (hX : X < 18446744073709551616) (hS : ScaleAt w g x y s) :
    Calls Tryz.prog 165 #[.int .u64 (X : Int), .pointer (some ⟨g, 0, none⟩)] w fun e w' => (∃ r : Int, e = .returned (.int .u64 r)) ∧ ∃ k, w' = w.drewN k := by
  have k0 : w.cell? ⟨g, 0, none⟩ = some (.int .u64 (x : Int)) := Lib.cell_of_heap hS.blk 0
  have k1 : w.cell? ⟨g, 1, none⟩ = some (.int .u64 (y : Int)) := Lib.cell_of_heap hS.blk 1
  have k2 : w.cell? ⟨g, 2, none⟩ = some (.int .i64 s) := Lib.cell_of_heap hS.blk 2
  have c1 := Tryz.bits_Mul64 X x hX hS.x64 w
  have c2 := Tryz.bits_Mul64 X y hX hS.y64 w
  obtain ⟨t, ht, ht2⟩ : ∃ t : Nat, bits .and .i64 s 63 = (t : Int) ∧ t < 64 := ⟨(s % 64).toNat, by rw [i64_and63]; omega, by omega⟩
  generalize X * x / 18446744073709551616 = h1 at *
  generalize X * x % 18446744073709551616 = l1 at *
  generalize X * y / 18446744073709551616 = h2 at *
  generalize X * y % 18446744073709551616 = l2 at *
  have HT := Lib.hid ht
  clear hS hX ht
  go_enter Tryz.func165, Tryz.ntmps165
  go_upto_region 3 with ((first | with_reducible refine c1.mono ?_ | with_reducible refine c2.mono ?_); rintro e w' ⟨rfl, rfl⟩)
  rw [HT.out]
  go_wp2_with (first
    | ((first | with_reducible refine c1.mono ?_ | with_reducible refine c2.mono ?_); rintro e w' ⟨rfl, rfl⟩)
    | (go_at_call 151; refine (bool2u_ _ _).mono ?_; rintro e w' ⟨rfl, rfl⟩))
  · go_ret
    exact ⟨⟨_, rfl⟩, 0, rfl⟩
  · go_region_with (go_at_call 151; refine (bool2u_ _ _).mono ?_; rintro e w'' ⟨rfl, rfl⟩)
    go_wp2
    go_ret
    exact ⟨⟨_, rfl⟩, 1, rfl⟩
theorem wrap_u64_bd (n : Int) : 0 ≤ IntKind.u64.wrap n ∧ IntKind.u64.wrap n < 18446744073709551616 := by
  simp [IntKind.wrap, IntKind.bits, IntKind.signed]; omega
theorem uscale_i (X : Int) (g x y : Nat) (s : Int) (w : World) (hX : 0 ≤ X ∧ X < 18446744073709551616) (hS : ScaleAt w g x y s) :
    Calls Tryz.prog 165 #[.int .u64 X, .pointer (some ⟨g, 0, none⟩)] w fun e w' => (∃ r : Int, e = .returned (.int .u64 r)) ∧ ∃ k, w' = w.drewN k := by
  obtain ⟨n, rfl⟩ : ∃ n : Nat, X = n := ⟨X.toNat, by omega⟩
  exact uscale_ n g x y s w (by omega) hS
attribute [local go_sem] run_from run_bits
theorem scalerZero : (Tryz.prog.info? 199).map (fun i => (i.zero, i.size)) = some (some (.agg #[.int .u64 0, .int .u64 0, .int .i64 0]), 3) := by kernel_rfl
set_option maxRecDepth 100000 in
set_option maxHeartbeats 8000000 in
theorem parseFloat64_ (d : Nat) (p sg : Int) (w : World) (hd : d < 18446744073709551616) (hp1 : -345 ≤ p) (hp2 : p ≤ 310) (hT : Tab w) (hg : 11 < w.heap.size) :
    Calls Tryz.prog 154 #[.int .u64 (d : Int), .int .i64 p, .int .u64 sg] w fun e w' => (∃ (f : Nat) (v : Value), (v = .nilIface ∨ ∃ t x, v = .iface t x) ∧ e = .returned (.tuple #[.float .f64 f, v])) ∧ Below w.heap.size w w' := by
  have c1 := len64_ (d : Int) w (by omega) (by omega)
  have hx := heap_alloc_new w (.cells #[.int .u64 0, .int .u64 0, .int .i64 0] 199)
  have hb0 : Below w.heap.size w (w.alloc (.cells #[.int .u64 0, .int .u64 0, .int .i64 0] 199)) := (Below.refl _ _).alloc (Nat.le_refl _) _
  have hT2 : Tab (w.alloc (.cells #[.int .u64 0, .int .u64 0, .int .i64 0] 199)) := by
    intro i hi
    obtain ⟨x, y, h1, h2, h3, h4⟩ := hT i hi
    exact ⟨x, y, h1, h2, (hb0.cell hg).trans h3, (hb0.cell hg).trans h4⟩
  have c3 := fun e lp => prescale_ w.heap.size e p lp (w.alloc (.cells #[.int .u64 0, .int .u64 0, .int .i64 0] 199)) hT2 hp1 hp2 (by omega) hx
  have HB0 := Lib.hid hb0
  clear hx hb0 hT2 hT hp1 hp2 hd
  go_enter Tryz.func154, Tryz.ntmps154
  go_wp2_with (first
    | ((with_reducible refine c1.mono ?_); rintro e w1 ⟨⟨b, hb, rfl⟩, rfl⟩; have hb1 : (0 : Int) ≤ 64 - (b : Int) := by omega)
    | (go_at_call 163; refine (log2_ _ _).mono ?_; rintro e w1 ⟨⟨lp, rfl⟩, rfl⟩)
    | ((with_reducible refine (c3 _ _).mono ?_); rintro e w2 ⟨rfl, ⟨x, y, s, hS⟩, hb2⟩; have k2 : w2.cell? ⟨w.heap.size, 2, none⟩ = some (.int .i64 s) := Lib.cell_of_heap hS.blk 2; have HS := Lib.hid hS; have HB2 := Lib.hid (HB0.out.trans hb2); clear hS hb2)
    | (go_at_call 165; refine (uscale_i _ _ x y s _ (wrap_u64_bd _) HS.out).mono ?_; rintro e w3 ⟨⟨u, rfl⟩, k, rfl⟩)
    | (go_at_call 167; refine (unmin_ _).mono ?_; rintro e w4 ⟨⟨um, rfl⟩, rfl⟩)
    | (go_at_call 166; refine (bool2i_ _ _).mono ?_; rintro e w5 ⟨rfl, rfl⟩)
    | (go_at_call 169; refine (round_ _ _).mono ?_; rintro e w6 ⟨⟨rd, rfl⟩, rfl⟩)
    | (go_at_call 172; refine (pack64_ _ _ _).mono ?_; rintro e w7 ⟨⟨f, v, hv, rfl⟩, rfl⟩))
  · go_ret2
    exact ⟨⟨_, _, .inl rfl, rfl⟩, HB2.out⟩
  · go_ret2
    exact ⟨⟨f, v, hv, rfl⟩, below_draws HB2.out k⟩
end LxC
end Go.Proofs.YtldglmehchkbeaaGreatDoor
