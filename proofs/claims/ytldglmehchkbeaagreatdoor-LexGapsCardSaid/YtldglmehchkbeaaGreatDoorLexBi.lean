/-
  Go's own tables of decimals that are moved, out of the row's list. Condition: the row's list of variables.
-/
import Derived.Test.YtldglmehchkbeaaGreatDoorLexBh
namespace Go.Proofs.YtldglmehchkbeaaGreatDoor
open Go.RowKit
set_option linter.unusedVariables false
set_option linter.unusedSimpArgs false
namespace LxC
open Lx
/-- the table of what a move to the left adds lies -/
def Cheats (w : World) : Prop := ∃ p o c : Nat, w.cell? ⟨12, 0, none⟩ = some (.slice (some ⟨p, o, none⟩) 61 c) ∧ ∀ k, k < 61 → ∃ (d : Nat) (S : ByteArray), w.cell? ⟨p, o + k * 2, none⟩ = some (.int .i64 (d : Int)) ∧ w.cell? ⟨p, o + (k * 2 + 1), none⟩ = some (.string S) ∧ d ≤ 19 ∧ S.size ≤ 50 ∧ (∀ i (h : i < S.size), 48 ≤ S[i].toNat) ∧ (1 ≤ k → Dc.Cheat k d (digsOf S) ∧ 1 ≤ d)
def cheatAll : Bool := (List.range 61).all fun k => match Go.Pinned.cheatRows[k]? with
  | some (d, l) => decide (d ≤ 19) && decide (l.length ≤ 50) && l.all (fun b => decide (48 ≤ b.toNat)) && (k == 0 || (Dc.cheatB k d (l.map fun b => b.toNat - 48) && decide (1 ≤ d)))
  | none => false
theorem cheatAll_ : cheatAll = true := by decide +kernel
theorem cheatLen : Go.Pinned.cheatRows.length = 61 := by decide +kernel
set_option maxRecDepth 100000 in
theorem cheats_of {w : World} (h : Lib.VarReads Tryz.prog w "internal/strconv.leftcheats" Rows.laid_internal_strconv_leftcheats) : Cheats w := by
  obtain ⟨g', t', cs, fuel, p, hg, hty, hvar, hd⟩ := h
  obtain rfl := Option.some.inj ((show Tryz.prog.globalNamed "internal/strconv.leftcheats" = some 12 by kernel_rfl).symm.trans hg)
  obtain rfl := Option.some.inj ((show (Tryz.prog.globals[12]?).map (·.type) = some 226 by kernel_rfl).symm.trans hty)
  have hc : Tryz.prog.cellsOf 225 = 2 := by kernel_rfl
  have hc1 : Tryz.prog.cellsOf 3 = 1 := by kernel_rfl
  have hc2 : Tryz.prog.cellsOf 9 = 1 := by kernel_rfl
  rcases DataW.trod_slice Tryz.underlying226 hd with ⟨_, hx⟩ | ⟨a, len, cap, el, rs, m, rfl, hcs, hx, _, hlc, _, hel, helem, hsp, _⟩
  · cases hx
  have e0 := congrArg Prod.fst hx
  have e1 : ∃ l r, (Rows.laid_internal_strconv_leftcheats : DataW Unit) = .slice l r ∧ l = Go.Pinned.cheatRows.map (fun x => .agg [.lit (.int .i64 x.1), .lit (.string x.2)]) := ⟨_, _, rfl, rfl⟩
  obtain ⟨l, r, el1, hl⟩ := e1
  rw [el1] at e0
  injection e0 with e0 _
  have hlen : len = 61 := by
    have := congrArg List.length e0
    rw [hl, List.length_map, List.length_map, cheatLen, hel] at this
    exact this.symm
  have hk : ∀ k, k < 61 → ∃ (d : Nat) (S : ByteArray), w.cell? (a.add (k * 2)) = some (.int .i64 (d : Int)) ∧ w.cell? ((a.add (k * 2)).add 1) = some (.string S) ∧ d ≤ 19 ∧ S.size ≤ 50 ∧ (∀ i (h : i < S.size), 48 ≤ S[i].toNat) ∧ (1 ≤ k → Dc.Cheat k d (digsOf S) ∧ 1 ≤ d) := by
    intro k hk
    have h1 := helem k (by omega)
    rw [hc] at h1
    obtain ⟨b, hb⟩ : ∃ b, el[k]? = some b := ⟨el[k]'(by omega), List.getElem?_eq_getElem (by omega)⟩
    have hb1 : (el.map (·.1))[k]? = some b.1 := by rw [List.getElem?_map, hb]; rfl
    rw [← e0, hl, List.getElem?_map] at hb1
    obtain ⟨⟨d, bs⟩, hx1, hx2⟩ := Option.map_eq_some_iff.1 hb1
    rw [hb] at h1
    obtain ⟨ce, hce, hte⟩ := Option.bind_eq_some_iff.1 h1
    obtain ⟨zs, m2, rfl, hz, hzl, hzz, hfs⟩ := DataW.trod_struct Tryz.underlying225 hte
    have f0 := hfs 0 _ rfl
    have f1 := hfs 1 _ rfl
    simp only [List.getElem_toArray, List.getElem_cons_zero, List.getElem_cons_succ, hc1, hc2] at f0 f1
    obtain ⟨z0, hz0⟩ : ∃ z, zs[0]? = some z := ⟨zs[0]'(by rw [hzz]; decide), List.getElem?_eq_getElem _⟩
    obtain ⟨z1, hz1⟩ : ∃ z, zs[1]? = some z := ⟨zs[1]'(by rw [hzz]; decide), List.getElem?_eq_getElem _⟩
    rw [hz0] at f0
    rw [hz1] at f1
    obtain ⟨x, hx, rfl, wx⟩ := DataW.trod_int Tryz.underlying3 f0
    obtain ⟨S, hS, rfl, wS⟩ := DataW.trod_string Tryz.underlying9 f1
    obtain ⟨_, _, hcc⟩ := World.cells?_some hce
    have c0 := hcc 0 (by omega)
    have c1 := hcc 1 (by omega)
    have ek := List.all_eq_true.1 cheatAll_ k (List.mem_range.2 hk)
    rw [hx1] at ek
    have hy : b.1 = .agg (zs.map (·.1)) := by rw [hz]
    have hz2 : zs.map (·.1) = [.lit (.int .i64 (d : Int)), .lit (.string bs)] := by
      rw [← hx2] at hy
      injection hy with hy
      exact hy.symm
    have g0 : (zs.map (·.1))[0]? = some (DataW.lit (Lit.int .i64 x)) := by rw [List.getElem?_map, hz0]; rfl
    have g1 : (zs.map (·.1))[1]? = some (DataW.lit (Lit.string S.data.toList)) := by rw [List.getElem?_map, hz1]; rfl
    rw [hz2] at g0 g1
    simp only [List.getElem?_cons_zero, List.getElem?_cons_succ, Option.some.injEq, DataW.lit.injEq, Lit.int.injEq, Lit.string.injEq, true_and] at g0 g1
    have d0 : ce[0]? = some (.int .i64 x) := by
      have := congrArg (·[0]?) hx
      simpa [List.getElem?_take, List.getElem?_drop] using this
    have d1 : ce[1]? = some (.string S) := by
      have := congrArg (·[0]?) hS
      simpa [List.getElem?_take, List.getElem?_drop] using this
    rw [d0] at c0
    rw [d1] at c1
    have a0 : (a.add (k * 2)).add 0 = a.add (k * 2) := by simp [Addr.add]
    rw [a0] at c0
    simp only [Bool.and_eq_true, decide_eq_true_eq, List.all_eq_true, Bool.or_eq_true, beq_iff_eq] at ek
    obtain ⟨⟨⟨k1, k2⟩, k3⟩, k4⟩ := ek
    refine ⟨d, S, by rw [c0, g0], c1, k1, by rw [g1, Array.length_toList] at k2; exact k2, fun i hi => ?_, fun hk1 => ?_⟩
    · refine k3 S[i] ?_
      rw [g1]
      exact Array.mem_toList_iff.2 (Array.getElem_mem _)
    · rcases k4 with k4 | ⟨k4, k5⟩
      · omega
      · refine ⟨?_, k5⟩
        have := Dc.cheat_of k4
        rw [g1] at this
        exact this
  obtain ⟨R, o, sR⟩ := a
  obtain rfl : sR = none := by
    obtain ⟨d, S, h00, -⟩ := hk 0 (by omega)
    rw [show (Addr.add ⟨R, o, sR⟩ (0 * 2)) = ⟨R, o, sR⟩ by simp [Addr.add]] at h00
    exact Go.Proofs.cell_spot h00
  refine ⟨R, o, cap, ?_, fun j hj => ?_⟩
  · rw [World.var?_cell hg hvar 0, ← Array.getElem?_toList, hcs, hlen]
    rfl
  · obtain ⟨d, S, h1, h2, h3⟩ := hk j hj
    rw [Addr.add_lit] at h1
    rw [Addr.add_lit, Addr.add_lit, Nat.add_assoc] at h2
    exact ⟨d, S, h1, h2, h3⟩
def pws : List Int := [1, 3, 6, 9, 13, 16, 19, 23, 26]
/-- the table of powers of two lies -/
def Pows (w : World) : Prop := ∃ p o c : Nat, w.cell? ⟨8, 0, none⟩ = some (.slice (some ⟨p, o, none⟩) 9 c) ∧ ∀ i, i < 9 → ∃ x : Nat, 1 ≤ x ∧ x ≤ 26 ∧ w.cell? ⟨p, o + i, none⟩ = some (.int .i64 (x : Int))
set_option maxRecDepth 100000 in
theorem pows_of {w : World} (h : Lib.VarReads Tryz.prog w "internal/strconv.powtab" Rows.laid_internal_strconv_powtab) : Pows w := by
  obtain ⟨g', t', cs, fuel, p, hg, hty, hvar, hd⟩ := h
  obtain rfl := Option.some.inj ((show Tryz.prog.globalNamed "internal/strconv.powtab" = some 8 by kernel_rfl).symm.trans hg)
  obtain rfl := Option.some.inj ((show (Tryz.prog.globals[8]?).map (·.type) = some 209 by kernel_rfl).symm.trans hty)
  have hc : Tryz.prog.cellsOf 3 = 1 := by kernel_rfl
  rcases DataW.trod_slice Tryz.underlying209 hd with ⟨_, hx⟩ | ⟨a, len, cap, el, rs, m, rfl, hcs, hx, _, hlc, _, hel, helem, hsp, _⟩
  · cases hx
  have e0 := congrArg Prod.fst hx
  have e1 : ∃ l r, (Rows.laid_internal_strconv_powtab : DataW Unit) = .slice l r ∧ l = pws.map (fun x => .lit (.int .i64 x)) := ⟨_, _, rfl, rfl⟩
  obtain ⟨l, r, el1, hl⟩ := e1
  rw [el1] at e0
  injection e0 with e0 _
  have hlen : len = 9 := by
    have := congrArg List.length e0
    rw [hl, List.length_map, List.length_map, hel] at this
    exact this.symm
  have hcell : ∀ i, i < 9 → ∃ x : Nat, 1 ≤ x ∧ x ≤ 26 ∧ w.cell? (a.add i) = some (.int .i64 (x : Int)) := by
    intro i hi
    have h1 := helem i (by omega)
    rw [hc] at h1
    obtain ⟨b, hb⟩ : ∃ b, el[i]? = some b := ⟨el[i]'(by omega), List.getElem?_eq_getElem (by omega)⟩
    have hb1 : (el.map (·.1))[i]? = some b.1 := by rw [List.getElem?_map, hb]; rfl
    rw [← e0, hl, List.getElem?_map] at hb1
    obtain ⟨y, hx1, hx2⟩ := Option.map_eq_some_iff.1 hb1
    rw [hb] at h1
    obtain ⟨ce, hce, hte⟩ := Option.bind_eq_some_iff.1 h1
    obtain ⟨z, hz, rfl, _⟩ := DataW.trod_int Tryz.underlying3 hte
    obtain ⟨_, _, hcc⟩ := World.cells?_some hce
    have := hcc 0 (by omega)
    rw [hz] at this
    simp only [Nat.mul_one] at this
    have e1 : (a.add i).add 0 = a.add i := by simp [Addr.add]
    rw [e1] at this
    simp only [DataW.lit.injEq, Lit.int.injEq, true_and] at hx2
    subst hx2
    have hr : 1 ≤ y ∧ y ≤ 26 := by
      have : ∀ z ∈ pws, 1 ≤ z ∧ z ≤ 26 := by decide
      exact this y (List.mem_of_getElem? hx1)
    refine ⟨y.toNat, by omega, by omega, ?_⟩
    rw [show ((y.toNat : Nat) : Int) = y by omega]
    exact this
  obtain ⟨R, o, sR⟩ := a
  obtain rfl : sR = none := by
    obtain ⟨x, _, _, h00⟩ := hcell 0 (by omega)
    have : (Addr.add ⟨R, o, sR⟩ 0) = ⟨R, o, sR⟩ := by simp [Addr.add]
    rw [this] at h00
    exact Go.Proofs.cell_spot h00
  refine ⟨R, o, cap, ?_, fun j hj => ?_⟩
  · rw [World.var?_cell hg hvar 0, ← Array.getElem?_toList, hcs, hlen]
    rfl
  · obtain ⟨x, h1, h2, hx⟩ := hcell j hj
    rw [Addr.add_lit] at hx
    exact ⟨x, h1, h2, hx⟩
/-- a double's shape lies -/
structure Info (w : World) : Prop where
  mant : w.cell? ⟨6, 0, none⟩ = some (.int .u64 52)
  exp : w.cell? ⟨6, 1, none⟩ = some (.int .u64 11)
  bias : w.cell? ⟨6, 2, none⟩ = some (.int .i64 (-1023))
theorem infos_of {w : World} (h : Lib.VarReads Tryz.prog w "internal/strconv.float64info" Rows.laid_internal_strconv_float64info) : Info w := by
  obtain ⟨g, t, cs, fuel, p, hg, ht, hv, hd⟩ := h
  obtain rfl := Option.some.inj ((show Tryz.prog.globalNamed "internal/strconv.float64info" = some 6 by kernel_rfl).symm.trans hg)
  obtain rfl := Option.some.inj ((show (Tryz.prog.globals[6]?).map (·.type) = some 173 by kernel_rfl).symm.trans ht)
  obtain ⟨xs, n, rfl, hx, hl, hxl, hall⟩ := DataW.trod_struct Tryz.underlying173 hd
  have hxs : xs.map (·.1) = [.lit (.int .u64 52), .lit (.int .u64 11), .lit (.int .i64 (-1023))] := by
    have := congrArg Prod.fst hx
    simpa [Rows.laid_internal_strconv_float64info] using this.symm
  have hcu : Tryz.prog.cellsOf 43 = 1 := by kernel_rfl
  have hci : Tryz.prog.cellsOf 3 = 1 := by kernel_rfl
  have g0 := congrArg (·[0]?) hxs
  have g1 := congrArg (·[1]?) hxs
  have g2 := congrArg (·[2]?) hxs
  simp only [List.getElem?_map, List.getElem?_cons_zero, List.getElem?_cons_succ] at g0 g1 g2
  obtain ⟨y0, hy0, hy0'⟩ := Option.map_eq_some_iff.1 g0
  obtain ⟨y1, hy1, hy1'⟩ := Option.map_eq_some_iff.1 g1
  obtain ⟨y2, hy2, hy2'⟩ := Option.map_eq_some_iff.1 g2
  have h0 := hall 0 _ rfl
  have h1 := hall 1 _ rfl
  have h2 := hall 2 _ rfl
  simp only [List.getElem_toArray, List.getElem_cons_zero, List.getElem_cons_succ] at h0 h1 h2
  rw [hy0] at h0
  rw [hy1] at h1
  rw [hy2] at h2
  obtain ⟨z0, c0, rfl, _⟩ := DataW.trod_int Tryz.underlying43 h0
  obtain ⟨z1, c1, rfl, _⟩ := DataW.trod_int Tryz.underlying43 h1
  obtain ⟨z2, c2, rfl, _⟩ := DataW.trod_int Tryz.underlying3 h2
  simp only [DataW.lit.injEq, Lit.int.injEq, true_and] at hy0' hy1' hy2'
  subst hy0' hy1' hy2'
  rw [hcu] at c0 c1
  rw [hci] at c2
  refine ⟨?_, ?_, ?_⟩
  · rw [World.var?_cell hg hv 0, ← Array.getElem?_toList]
    have := congrArg (·[0]?) c0
    simpa [List.getElem?_take, List.getElem?_drop] using this
  · rw [World.var?_cell hg hv 1, ← Array.getElem?_toList]
    have := congrArg (·[0]?) c1
    simpa [List.getElem?_take, List.getElem?_drop] using this
  · rw [World.var?_cell hg hv 2, ← Array.getElem?_toList]
    have := congrArg (·[0]?) c2
    simpa [List.getElem?_take, List.getElem?_drop] using this
end LxC
end Go.Proofs.YtldglmehchkbeaaGreatDoor
