/-
  Package rels' At, and Check's isPatched: contracts. Conditions: the word is of 32 bits.
  Check's isRelocation: a contract, over the answer of isPatched. Conditions: the words lie in memory, and lengths are such as memory holds.
  What an object is, plainly: chk: its names known so far as a set; its symbols and relocations one by one. It speaks of no program but for the keys' type.
  The program's check of what has too much, or a length that is no multiple of 8: it throws a flaw. No condition.
  The program's check of an object: it comes back where there is one, and else throws a flaw: a contract. No condition but that the object lies in memory.
  The program's Check: an error where there is no object: a contract. No condition but that the object lies in memory.
-/
import Derived.Test.YtlmblfkcmhgdaaaGreatObjQb
import Derived.Test.YtlmblfkcmhgdaaaGreatCodeQd
import Derived.BigQuiet
import Derived.WalkSpells
import Derived.Maps.OwnSet
import Derived.Deep.DeepCutAuto
namespace Go.Proofs.YtlmblfkcmhgdaaaGreat
open Go.RowKit
set_option linter.unusedVariables false
set_option linter.unusedSimpArgs false
namespace OPt
open OO OJ OU
def patB (k x : Int) : Bool := decide (CD.dE x = 0) && (decide (CD.dImm x = 0) && kindB k (CD.dOp x))
def inI (b : Bool) (o p q r s : Int) : Array Value := bif b then #[.int .i64 o, .int .i64 p, .int .i64 q, .int .i64 r, .int .i64 s] else #[.int .i64 0, .int .i64 0, .int .i64 0, .int .i64 0, .int .i64 0]
/-- the instruction that At answers -/
def atI (k x : Int) : Array Value := inI (patB k x) (CD.dOp x) (CD.dRd x) (CD.dRs1 x) (CD.dRs2 x) (CD.dImm x)
theorem dec_ (x : Int) (h0 : 0 ≤ x) (h1 : x < 4294967296) (w : World) : Calls Tryz.prog 116 #[.int .u32 x] w fun e w' =>
    e = .returned (.tuple #[.agg #[.int .i64 (CD.dOp x), .int .i64 (CD.dRd x), .int .i64 (CD.dRs1 x), .int .i64 (CD.dRs2 x), .int .i64 (CD.dImm x)], .int .i64 (CD.dE x)]) ∧ Below w.heap.size w w' := CD.decode_ x h0 h1 w
abbrev ZI : Obj := .cells #[.int .i64 0, .int .i64 0, .int .i64 0, .int .i64 0, .int .i64 0] 54
theorem up5 {W W1 : World} {b : Nat} (h : W.heap[b]? = some ZI) (hb : Below W.heap.size W W1) (o : Obj) :
    ((W1.alloc o).cell? ⟨b, 0, none⟩ = some (.int .i64 0) ∧ (W1.alloc o).cell? ⟨b, 1, none⟩ = some (.int .i64 0) ∧ (W1.alloc o).cell? ⟨b, 2, none⟩ = some (.int .i64 0) ∧ (W1.alloc o).cell? ⟨b, 3, none⟩ = some (.int .i64 0) ∧ (W1.alloc o).cell? ⟨b, 4, none⟩ = some (.int .i64 0)) ∧
    ((W1.alloc o).frozen? ⟨b, 0, none⟩ = false ∧ (W1.alloc o).frozen? ⟨b, 1, none⟩ = false ∧ (W1.alloc o).frozen? ⟨b, 2, none⟩ = false ∧ (W1.alloc o).frozen? ⟨b, 3, none⟩ = false ∧ (W1.alloc o).frozen? ⟨b, 4, none⟩ = false) := by
  have hl := (Array.getElem?_eq_some_iff.1 h).1
  have h1 : W1.heap[b]? = some ZI := (hb.block _ hl).trans h
  have h2 : (W1.alloc o).heap[b]? = some ZI := (Lib.alloc_old _ _ _ (Array.getElem?_eq_some_iff.1 h1).1).trans h1
  refine ⟨⟨Lib.cell_of_heap h2 0, Lib.cell_of_heap h2 1, Lib.cell_of_heap h2 2, Lib.cell_of_heap h2 3, Lib.cell_of_heap h2 4⟩, ?_⟩
  refine ⟨?_, ?_, ?_, ?_, ?_⟩ <;> simp [World.frozen?, h2]
set_option maxRecDepth 100000 in
set_option maxHeartbeats 4000000 in
theorem at_ (k x : Int) (h0 : 0 ≤ x) (h1 : x < 4294967296) (w : World) :
    Calls Tryz.prog 123 #[.int .i64 k, .int .u32 x] w fun e w' => e = .returned (.tuple #[.agg (atI k x), .bool (patB k x)]) ∧ Below w.heap.size w w' := by
  have c1 := fun w => dec_ x h0 h1 w
  have HA := Lib.hid (show atI k x = inI (patB k x) (CD.dOp x) (CD.dRd x) (CD.dRs1 x) (CD.dRs2 x) (CD.dImm x) from rfl)
  have HP := Lib.hid (show patB k x = (decide (CD.dE x = 0) && (decide (CD.dImm x = 0) && kindB k (CD.dOp x))) from rfl)
  generalize atI k x = ai at *
  generalize patB k x = b at *
  generalize CD.dOp x = op at *
  generalize CD.dImm x = im at *
  generalize CD.dE x = er at *
  generalize CD.dRd x = r0 at *
  generalize CD.dRs1 x = r1 at *
  generalize CD.dRs2 x = r2 at *
  have c2 := fun w => kind_ k op w
  generalize hkb : kindB k op = kb at *
  have HK := Lib.hid hkb
  clear h0 h1 hkb
  have hu := fun (W W1 : World) (h : W.heap[w.heap.size]? = some ZI) (hb : Below W.heap.size W W1) => up5 h hb (.cells #[.int .i64 op, .int .i64 r0, .int .i64 r1, .int .i64 r2, .int .i64 im] 54)
  by_cases e1 : er = 0
  all_goals by_cases e2 : im = 0
  all_goals cases kb
  all_goals
    have HE := Lib.hid (⟨e1, e2⟩ : _ ∧ _)
    try subst e1
    try subst e2
    go_enter Tryz.func123, Tryz.ntmps123
    go_upto_region 1 with fail
    have HX0 := Lib.hid (heap_alloc_new w ZI)
    have HB0 := Lib.hid (((Below.refl w.heap.size w).alloc (Nat.le_refl _) ZI : Below w.heap.size w (w.alloc ZI)))
    generalize w.alloc ZI = W0 at *
    go_wp2_with (first
      | (go_at_call 116; (with_reducible refine (c1 _).mono ?_); rintro e w1 ⟨rfl, hb⟩; obtain ⟨⟨k0, k1, k2, k3, k4⟩, z0, z1, z2, z3, z4⟩ := hu _ _ HX0.out hb; have HB := Lib.hid (HB0.out.trans (hb.mono HB0.out.size)); clear hb)
      | (go_at_call 147; (with_reducible refine (c2 _).mono ?_); rintro e w2 ⟨rfl, rfl⟩))
    refine bodyPost_ret (v := .tuple #[.agg ai, .bool b]) ?_ rfl ⟨rfl, ?_⟩
    · have ha := HA.out
      have hp := HP.out
      have he := HE.out
      simp only [he.1, he.2, decide_true, decide_false, Bool.true_and, Bool.false_and, Bool.and_false, Bool.and_true] at hp
      subst hp
      subst ha
      simp [results, Tryz.results123, go_sem, k0, k1, k2, k3, k4, inI, he.2]
    · exact (((((HB.out.alloc HB.out.size _).setCell (p := ⟨_, 0, none⟩) (Nat.le_refl _) _).setCell (p := ⟨_, 1, none⟩) (Nat.le_refl _) _).setCell (p := ⟨_, 2, none⟩) (Nat.le_refl _) _).setCell (p := ⟨_, 3, none⟩) (Nat.le_refl _) _).setCell (p := ⟨_, 4, none⟩) (Nat.le_refl _) _
set_option maxRecDepth 100000 in
set_option maxHeartbeats 4000000 in
theorem patched_ (k x : Int) (h0 : 0 ≤ x) (h1 : x < 4294967296) (w : World) :
    Calls Tryz.prog 173 #[.int .i64 k, .int .u32 x] w fun e w' => e = .returned (.bool (patB k x)) ∧ Below w.heap.size w w' := by
  have c1 := at_ k x h0 h1 w
  unfold atI at c1
  generalize patB k x = b at *
  generalize CD.dOp x = op at *
  generalize CD.dImm x = im at *
  generalize CD.dRd x = r0 at *
  generalize CD.dRs1 x = r1 at *
  generalize CD.dRs2 x = r2 at *
  clear h0 h1
  cases b
  all_goals
    simp only [inI, cond_true, cond_false] at c1
    go_enter Tryz.func173, Tryz.ntmps173
    go_wp2_with (go_at_call 123; (with_reducible refine c1.mono ?_); rintro e w1 ⟨rfl, hb⟩; have HB := Lib.hid hb; clear hb)
    go_ret
    exact ⟨rfl, HB.out.alloc HB.out.size _⟩
end OPt
end Go.Proofs.YtlmblfkcmhgdaaaGreat
namespace Go.Proofs.YtlmblfkcmhgdaaaGreat
open Go.RowKit
set_option linter.unusedVariables false
set_option linter.unusedSimpArgs false
namespace ORl
open OO OJ OU OPt OI
def relOk (ws : List Int) (nd ns : Nat) (r : RelV) : Bool :=
  decide (0 ≤ r.sym ∧ r.sym ≤ (ns : Int) - 1) && (decide (-2147483648 ≤ r.add ∧ r.add ≤ 2147483647) &&
    (if r.sect = 1 then decide (0 ≤ r.place ∧ r.place ≤ (ws.length : Int) - 1) && patB r.kind (ws.getD r.place.toNat 0)
     else if r.sect = 2 then decide (r.kind = 6) && (decide (0 ≤ r.place ∧ r.place ≤ (nd : Int) - 4) && decide (r.place % 4 = 0)) else false))
def dst (i : Nat) : Nat := if i = 18 then 4 else 23 + i
theorem dst_inj (i j : Nat) (hi : i < 19) (hj : j < 19) (h : dst i = dst j) : i = j := by
  unfold dst at h
  split at h <;> split at h <;> omega
def val (N b o l q : Nat) (k kd x : Int) (p : Bool) : Nat → Value
  | 0 => .pointer (some ⟨N + 1, 1, none⟩) | 1 => .int .i64 k | 2 => .pointer (some ⟨N, 0, none⟩) | 3 => .slice (some ⟨b, o, none⟩) l q | 4 => .int .i64 l | 5 => .int .i64 ((l : Int) - 1) | 6 => .bool true | 7 => .bool true
  | 8 => .pointer (some ⟨N + 1, 2, none⟩) | 9 => .int .i64 kd | 10 => .pointer (some ⟨N, 0, none⟩) | 11 => .slice (some ⟨b, o, none⟩) l q | 12 => .pointer (some ⟨N + 1, 1, none⟩) | 13 => .int .i64 k | 14 => .pointer (some ⟨b, o + k.toNat, none⟩) | 15 => .int .u32 x | _ => .bool p
set_option maxRecDepth 100000 in
set_option maxHeartbeats 8000000 in
theorem relocation_ {n₀ nd ns n3 q1 q2 q3 : Nat} {v0 : Value} {p1 p2 p3 : Option Addr} {ws : List Int} (r : RelV) (w : World) (hwf : ∀ x ∈ ws, 0 ≤ x ∧ x ≤ 4294967295) (hw : Nums8 .u32 n₀ w v0 ws) (hn : n₀ ≤ w.heap.size) (h1 : nd ≤ maxLen) (h2 : ns ≤ maxLen) :
    Calls Tryz.prog 168 #[.agg #[v0, .slice p1 nd q1, .slice p2 ns q2, .slice p3 n3 q3], .agg #[.int .i64 r.sect, .int .i64 r.place, .int .i64 r.kind, .int .i64 r.sym, .int .i64 r.add]] w fun e w' => e = .returned (.bool (relOk ws nd ns r)) ∧ Below w.heap.size w w' := by
  have hB := fun (x y : Obj) => (((Below.refl w.heap.size w).alloc (Nat.le_refl _) x).alloc (by simp) y : Below w.heap.size w ((w.alloc x).alloc y))
  have HB := Lib.hid hB
  have HW := Lib.hid hw
  have HN := Lib.hid hn
  obtain ⟨p0, q0, rfl, hw0⟩ := hw
  have h0 : ws.length ≤ maxLen := by
    by_cases hz : 0 < ws.length
    · obtain ⟨b, o, -, -, k1, k2, -⟩ := hw0 hz; exact Nat.le_trans k1 k2
    · omega
  obtain ⟨sc, pl, kd, sy, ad⟩ := r
  simp only
  unfold maxLen at h0 h1 h2
  have HP := Lib.hid hwf
  clear hB hw0 hn hwf
  by_cases b1 : 0 ≤ sy ∧ sy ≤ (ns : Int) - 1
  · have c1 := fromto_yes b1
    by_cases b2 : (-2147483648 : Int) ≤ ad ∧ ad ≤ 2147483647
    · have c2 := fromto_yes b2
      by_cases e1 : sc = 1
      · subst e1
        by_cases b3 : 0 ≤ pl ∧ pl ≤ (ws.length : Int) - 1
        · have c3 := fromto_yes b3
          obtain ⟨k, rfl⟩ : ∃ k : Nat, pl = (k : Int) := ⟨pl.toNat, by omega⟩
          have hk : k < ws.length := by omega
          obtain ⟨pp, qq, ee, hh⟩ := HW.out
          cases ee
          obtain ⟨b, o, rfl, hb0, -, -, hr⟩ := hh (by omega)
          have hbl : b < w.heap.size := Nat.lt_of_lt_of_le hb0 HN.out
          have hc := fun (x y : Obj) => row_below hr (HB.out x y) hbl k _ (List.getElem?_eq_getElem hk)
          have hx := HP.out ws[k] (List.getElem_mem hk)
          have hpx := fun W => patched_ kd ws[k] hx.1 (by omega) W
          have hgx : ws.getD k 0 = ws[k] := by rw [List.getD_eq_getElem?_getD, List.getElem?_eq_getElem hk]; rfl
          have HG := Lib.hid hgx
          have hn1 : (0 : Int) ≤ (k : Int) := by omega
          have HE := Lib.hid (⟨b1, b2, b3⟩ : _ ∧ _ ∧ _)
          have HK := Lib.hid hk
          clear b1 b2 b3 hr hh hgx hx
          generalize ws[k] = x at *
          generalize hpb : patB kd x = p at *
          have HPB := Lib.hid hpb
          clear hpb
          have hc1 := hc (.cells #[.slice (some ⟨b, o, none⟩) ws.length q0, .slice p1 nd q1, .slice p2 ns q2, .slice p3 n3 q3] 30) (.cells #[.int .i64 1, .int .i64 (k : Int), .int .i64 kd, .int .i64 sy, .int .i64 ad] 59)
          have hB1 := HB.out (.cells #[.slice (some ⟨b, o, none⟩) ws.length q0, .slice p1 nd q1, .slice p2 ns q2, .slice p3 n3 q3] 30) (.cells #[.int .i64 1, .int .i64 (k : Int), .int .i64 kd, .int .i64 sy, .int .i64 ad] 59)
          have y1 : ((w.alloc (.cells #[.slice (some ⟨b, o, none⟩) ws.length q0, .slice p1 nd q1, .slice p2 ns q2, .slice p3 n3 q3] 30)).alloc (.cells #[.int .i64 1, .int .i64 (k : Int), .int .i64 kd, .int .i64 sy, .int .i64 ad] 59)).heap[w.heap.size]? = some (.cells #[.slice (some ⟨b, o, none⟩) ws.length q0, .slice p1 nd q1, .slice p2 ns q2, .slice p3 n3 q3] 30 (0, 0)) := (Lib.alloc_old _ _ _ (by simp)).trans (heap_alloc_new w _)
          have y2 : ((w.alloc (.cells #[.slice (some ⟨b, o, none⟩) ws.length q0, .slice p1 nd q1, .slice p2 ns q2, .slice p3 n3 q3] 30)).alloc (.cells #[.int .i64 1, .int .i64 (k : Int), .int .i64 kd, .int .i64 sy, .int .i64 ad] 59)).heap[w.heap.size + 1]? = some (.cells #[.int .i64 1, .int .i64 (k : Int), .int .i64 kd, .int .i64 sy, .int .i64 ad] 59 (0, 0)) := by
            have := heap_alloc_new (w.alloc (.cells #[.slice (some ⟨b, o, none⟩) ws.length q0, .slice p1 nd q1, .slice p2 ns q2, .slice p3 n3 q3] 30)) (.cells #[.int .i64 1, .int .i64 (k : Int), .int .i64 kd, .int .i64 sy, .int .i64 ad] 59)
            rwa [World.size_alloc] at this
          have hsz : w.heap.size + 2 ≤ ((w.alloc (.cells #[.slice (some ⟨b, o, none⟩) ws.length q0, .slice p1 nd q1, .slice p2 ns q2, .slice p3 n3 q3] 30)).alloc (.cells #[.int .i64 1, .int .i64 (k : Int), .int .i64 kd, .int .i64 sy, .int .i64 ad] 59)).heap.size := by simp
          have HB1 := Lib.hid hB1
          clear hc hB1
          go_enter Tryz.func168, Tryz.ntmps168
          go_upto_region 5 with (first
            | (go_at_call 172; (with_reducible refine (c1 _).mono ?_); rintro e w1 ⟨rfl, rfl⟩)
            | (go_at_call 172; (with_reducible refine (c2 _).mono ?_); rintro e w1 ⟨rfl, rfl⟩)
            | (go_at_call 172; (with_reducible refine (c3 _).mono ?_); rintro e w1 ⟨rfl, rfl⟩))
          generalize (w.alloc (.cells #[.slice (some ⟨b, o, none⟩) ws.length q0, .slice p1 nd q1, .slice p2 ns q2, .slice p3 n3 q3] 30)).alloc (.cells #[.int .i64 1, .int .i64 (k : Int), .int .i64 kd, .int .i64 sy, .int .i64 ad] 59) = W at *
          have KC := Lib.hid (fun (W' : World) (hb : Below W.heap.size W W') => (⟨Lib.cell_of_heap ((hb.block _ (by omega)).trans y1) 0, Lib.cell_of_heap ((hb.block _ (by omega)).trans y2) 1, Lib.cell_of_heap ((hb.block _ (by omega)).trans y2) 2, (hb.cell (p := ⟨b, o + k, none⟩) (show b < W.heap.size by omega)).trans hc1⟩ :
            W'.cell? ⟨w.heap.size, 0, none⟩ = some (.slice (some ⟨b, o, none⟩) ws.length q0) ∧ W'.cell? ⟨w.heap.size + 1, 1, none⟩ = some (.int .i64 k) ∧ W'.cell? ⟨w.heap.size + 1, 2, none⟩ = some (.int .i64 kd) ∧ W'.cell? ⟨b, o + k, none⟩ = some (.int .u32 x)))
          clear y1 y2 hc1
          refine facts_ (n := 19) (dst := dst) (F := fun i v _ => v = val w.heap.size b o ws.length q0 k kd x p i) (by kernel_rfl) (ahead_of (by kernel_rfl)) rfl dst_inj (fun _ _ _ _ h _ => h) ?step ?done
          case step =>
            intro i op hop a W1 hM hF
            have hi : i < 19 := (Array.getElem?_eq_some_iff.1 hop).1
            match i, hi with
              | 0, _ =>
                cases hop
                refine op_ rfl rfl ?_
                have t3 : a.tmps[3]?.getD undef = .pointer (some ⟨w.heap.size + 1, 0, none⟩) := (Array.getD_eq_getD_getElem?).symm.trans ((hM.oth 3 (by intro i hi; unfold dst; split <;> omega)).trans rfl)
                have HM := Lib.hid hM
                clear hM hF
                go_simp
                exact did_put _ (by rw [HM.out.sz]; exact (by decide : dst 0 < 61)) (Below.refl _ _) (by rfl)
              | 1, _ =>
                cases hop
                refine op_ rfl rfl ?_
                have t23 : a.tmps[23]?.getD undef = .pointer (some ⟨w.heap.size + 1, 1, none⟩) := (Array.getD_eq_getD_getElem?).symm.trans (hF ⟨0, .data⟩ (by simp) rfl)
                obtain ⟨f0, f1, f2, f3⟩ := KC.out W1 hM.bel
                have HM := Lib.hid hM
                clear hM hF
                go_simp
                exact did_put _ (by rw [HM.out.sz]; exact (by decide : dst 1 < 61)) (Below.refl _ _) (by rfl)
              | 2, _ =>
                cases hop
                refine op_ rfl rfl ?_
                have t2 : a.tmps[2]?.getD undef = .pointer (some ⟨w.heap.size, 0, none⟩) := (Array.getD_eq_getD_getElem?).symm.trans ((hM.oth 2 (by intro i hi; unfold dst; split <;> omega)).trans rfl)
                have HM := Lib.hid hM
                clear hM hF
                go_simp
                exact did_put _ (by rw [HM.out.sz]; exact (by decide : dst 2 < 61)) (Below.refl _ _) (by rfl)
              | 3, _ =>
                cases hop
                refine op_ rfl rfl ?_
                have t25 : a.tmps[25]?.getD undef = .pointer (some ⟨w.heap.size, 0, none⟩) := (Array.getD_eq_getD_getElem?).symm.trans (hF ⟨2, .data⟩ (by simp) rfl)
                obtain ⟨f0, f1, f2, f3⟩ := KC.out W1 hM.bel
                have HM := Lib.hid hM
                clear hM hF
                go_simp
                exact did_put _ (by rw [HM.out.sz]; exact (by decide : dst 3 < 61)) (Below.refl _ _) (by rfl)
              | 4, _ =>
                cases hop
                refine op_ rfl rfl ?_
                have t26 : a.tmps[26]?.getD undef = .slice (some ⟨b, o, none⟩) ws.length q0 := (Array.getD_eq_getD_getElem?).symm.trans (hF ⟨3, .data⟩ (by simp) rfl)
                have HM := Lib.hid hM
                clear hM hF
                go_simp
                exact did_put _ (by rw [HM.out.sz]; exact (by decide : dst 4 < 61)) (Below.refl _ _) (by rfl)
              | 5, _ =>
                cases hop
                refine op_ rfl rfl ?_
                have t27 : a.tmps[27]?.getD undef = .int .i64 ws.length := (Array.getD_eq_getD_getElem?).symm.trans (hF ⟨4, .data⟩ (by simp) rfl)
                have HM := Lib.hid hM
                clear hM hF
                go_simp
                exact did_put _ (by rw [HM.out.sz]; exact (by decide : dst 5 < 61)) (Below.refl _ _) (by show Value.int IntKind.i64 (IntKind.i64.wrap ((ws.length : Int) - 1)) = .int .i64 ((ws.length : Int) - 1); rw [IntWalk.i64_in _ (by omega)])
              | 6, _ =>
                cases hop
                refine op_ rfl rfl ?_
                have t24 : a.tmps[24]?.getD undef = .int .i64 k := (Array.getD_eq_getD_getElem?).symm.trans (hF ⟨1, .data⟩ (by simp) rfl)
                have t28 : a.tmps[28]?.getD undef = .int .i64 ((ws.length : Int) - 1) := (Array.getD_eq_getD_getElem?).symm.trans (hF ⟨5, .data⟩ (by simp) rfl)
                have HM := Lib.hid hM
                clear hM hF
                go_simp
                (with_reducible refine (c3 _).mono ?_)
                rintro e W2 ⟨rfl, rfl⟩
                exact did_put _ (by rw [HM.out.sz]; exact (by decide : dst 6 < 61)) (Below.refl _ _) rfl
              | 7, _ =>
                cases hop
                refine op_ rfl rfl ?_
                have t29 : a.tmps[29]?.getD undef = .bool true := (Array.getD_eq_getD_getElem?).symm.trans (hF ⟨6, .data⟩ (by simp) rfl)
                have HM := Lib.hid hM
                clear hM hF
                go_simp
                exact did_put _ (by rw [HM.out.sz]; exact (by decide : dst 7 < 61)) (Below.refl _ _) (by rfl)
              | 8, _ =>
                cases hop
                have tg : a.tmps[30]?.getD undef = .bool true := (Array.getD_eq_getD_getElem?).symm.trans (hF ⟨7, .guard⟩ (by simp) rfl)
                refine op_g rfl (by simp [Region.wanted, yielded, got tg]) ?_
                clear tg
                have t3 : a.tmps[3]?.getD undef = .pointer (some ⟨w.heap.size + 1, 0, none⟩) := (Array.getD_eq_getD_getElem?).symm.trans ((hM.oth 3 (by intro i hi; unfold dst; split <;> omega)).trans rfl)
                have HM := Lib.hid hM
                clear hM hF
                go_simp
                exact did_put _ (by rw [HM.out.sz]; exact (by decide : dst 8 < 61)) (Below.refl _ _) (by rfl)
              | 9, _ =>
                cases hop
                have tg : a.tmps[30]?.getD undef = .bool true := (Array.getD_eq_getD_getElem?).symm.trans (hF ⟨7, .guard⟩ (by simp) rfl)
                refine op_g rfl (by simp [Region.wanted, yielded, got tg]) ?_
                clear tg
                have t31 : a.tmps[31]?.getD undef = .pointer (some ⟨w.heap.size + 1, 2, none⟩) := (Array.getD_eq_getD_getElem?).symm.trans (hF ⟨8, .data⟩ (by simp) rfl)
                obtain ⟨f0, f1, f2, f3⟩ := KC.out W1 hM.bel
                have HM := Lib.hid hM
                clear hM hF
                go_simp
                exact did_put _ (by rw [HM.out.sz]; exact (by decide : dst 9 < 61)) (Below.refl _ _) (by rfl)
              | 10, _ =>
                cases hop
                have tg : a.tmps[30]?.getD undef = .bool true := (Array.getD_eq_getD_getElem?).symm.trans (hF ⟨7, .guard⟩ (by simp) rfl)
                refine op_g rfl (by simp [Region.wanted, yielded, got tg]) ?_
                clear tg
                have t2 : a.tmps[2]?.getD undef = .pointer (some ⟨w.heap.size, 0, none⟩) := (Array.getD_eq_getD_getElem?).symm.trans ((hM.oth 2 (by intro i hi; unfold dst; split <;> omega)).trans rfl)
                have HM := Lib.hid hM
                clear hM hF
                go_simp
                exact did_put _ (by rw [HM.out.sz]; exact (by decide : dst 10 < 61)) (Below.refl _ _) (by rfl)
              | 11, _ =>
                cases hop
                have tg : a.tmps[30]?.getD undef = .bool true := (Array.getD_eq_getD_getElem?).symm.trans (hF ⟨7, .guard⟩ (by simp) rfl)
                refine op_g rfl (by simp [Region.wanted, yielded, got tg]) ?_
                clear tg
                have t33 : a.tmps[33]?.getD undef = .pointer (some ⟨w.heap.size, 0, none⟩) := (Array.getD_eq_getD_getElem?).symm.trans (hF ⟨10, .data⟩ (by simp) rfl)
                obtain ⟨f0, f1, f2, f3⟩ := KC.out W1 hM.bel
                have HM := Lib.hid hM
                clear hM hF
                go_simp
                exact did_put _ (by rw [HM.out.sz]; exact (by decide : dst 11 < 61)) (Below.refl _ _) (by rfl)
              | 12, _ =>
                cases hop
                have tg : a.tmps[30]?.getD undef = .bool true := (Array.getD_eq_getD_getElem?).symm.trans (hF ⟨7, .guard⟩ (by simp) rfl)
                refine op_g rfl (by simp [Region.wanted, yielded, got tg]) ?_
                clear tg
                have t3 : a.tmps[3]?.getD undef = .pointer (some ⟨w.heap.size + 1, 0, none⟩) := (Array.getD_eq_getD_getElem?).symm.trans ((hM.oth 3 (by intro i hi; unfold dst; split <;> omega)).trans rfl)
                have HM := Lib.hid hM
                clear hM hF
                go_simp
                exact did_put _ (by rw [HM.out.sz]; exact (by decide : dst 12 < 61)) (Below.refl _ _) (by rfl)
              | 13, _ =>
                cases hop
                have tg : a.tmps[30]?.getD undef = .bool true := (Array.getD_eq_getD_getElem?).symm.trans (hF ⟨7, .guard⟩ (by simp) rfl)
                refine op_g rfl (by simp [Region.wanted, yielded, got tg]) ?_
                clear tg
                have t35 : a.tmps[35]?.getD undef = .pointer (some ⟨w.heap.size + 1, 1, none⟩) := (Array.getD_eq_getD_getElem?).symm.trans (hF ⟨12, .data⟩ (by simp) rfl)
                obtain ⟨f0, f1, f2, f3⟩ := KC.out W1 hM.bel
                have HM := Lib.hid hM
                clear hM hF
                go_simp
                exact did_put _ (by rw [HM.out.sz]; exact (by decide : dst 13 < 61)) (Below.refl _ _) (by rfl)
              | 14, _ =>
                cases hop
                have tg : a.tmps[30]?.getD undef = .bool true := (Array.getD_eq_getD_getElem?).symm.trans (hF ⟨7, .guard⟩ (by simp) rfl)
                refine op_g rfl (by simp [Region.wanted, yielded, got tg]) ?_
                clear tg
                have t34 : a.tmps[34]?.getD undef = .slice (some ⟨b, o, none⟩) ws.length q0 := (Array.getD_eq_getD_getElem?).symm.trans (hF ⟨11, .data⟩ (by simp) rfl)
                have t36 : a.tmps[36]?.getD undef = .int .i64 k := (Array.getD_eq_getD_getElem?).symm.trans (hF ⟨13, .data⟩ (by simp) rfl)
                have HM := Lib.hid hM
                clear hM hF
                go_simp
                exact did_put _ (by rw [HM.out.sz]; exact (by decide : dst 14 < 61)) (Below.refl _ _) (by rfl)
              | 15, _ =>
                cases hop
                have tg : a.tmps[30]?.getD undef = .bool true := (Array.getD_eq_getD_getElem?).symm.trans (hF ⟨7, .guard⟩ (by simp) rfl)
                refine op_g rfl (by simp [Region.wanted, yielded, got tg]) ?_
                clear tg
                have t37 : a.tmps[37]?.getD undef = .pointer (some ⟨b, o + k, none⟩) := (Array.getD_eq_getD_getElem?).symm.trans (hF ⟨14, .data⟩ (by simp) rfl)
                obtain ⟨f0, f1, f2, f3⟩ := KC.out W1 hM.bel
                have HM := Lib.hid hM
                clear hM hF
                go_simp
                exact did_put _ (by rw [HM.out.sz]; exact (by decide : dst 15 < 61)) (Below.refl _ _) (by rfl)
              | 16, _ =>
                cases hop
                have tg : a.tmps[30]?.getD undef = .bool true := (Array.getD_eq_getD_getElem?).symm.trans (hF ⟨7, .guard⟩ (by simp) rfl)
                refine op_g rfl (by simp [Region.wanted, yielded, got tg]) ?_
                clear tg
                have t32 : a.tmps[32]?.getD undef = .int .i64 kd := (Array.getD_eq_getD_getElem?).symm.trans (hF ⟨9, .data⟩ (by simp) rfl)
                have t38 : a.tmps[38]?.getD undef = .int .u32 x := (Array.getD_eq_getD_getElem?).symm.trans (hF ⟨15, .data⟩ (by simp) rfl)
                have HM := Lib.hid hM
                clear hM hF
                go_simp
                (with_reducible refine (hpx _).mono ?_)
                rintro e W2 ⟨rfl, hb⟩
                exact did_put _ (by rw [HM.out.sz]; exact (by decide : dst 16 < 61)) hb rfl
              | 17, _ =>
                cases hop
                refine op_ rfl rfl ?_
                have t30 : a.tmps[30]?.getD undef = .bool true := (Array.getD_eq_getD_getElem?).symm.trans (hF ⟨7, .data⟩ (by simp) rfl)
                have t39 : a.tmps[39]?.getD undef = .bool p := (Array.getD_eq_getD_getElem?).symm.trans (hF ⟨16, .data⟩ (by simp) rfl)
                have HM := Lib.hid hM
                clear hM hF
                go_simp
                exact did_put _ (by rw [HM.out.sz]; exact (by decide : dst 17 < 61)) (Below.refl _ _) (by rfl)
              | 18, _ =>
                cases hop
                refine op_ rfl rfl ?_
                have t40 : a.tmps[40]?.getD undef = .bool p := (Array.getD_eq_getD_getElem?).symm.trans (hF ⟨17, .data⟩ (by simp) rfl)
                have HM := Lib.hid hM
                clear hM hF
                go_simp
                exact did_put _ (by rw [HM.out.sz]; exact (by decide : dst 18 < 61)) (Below.refl _ _) (by rfl)
              | i + 19, h => exact absurd h (by omega)
          case done =>
            intro a W1 hM hF
            have t4 : a.tmps[4]?.getD undef = .bool p := (Array.getD_eq_getD_getElem?).symm.trans (hF 18 (by decide))
            have hd := hM.d
            have HB2 := Lib.hid hM.bel
            clear hM hF
            go_wp2
            refine bodyPost_ret (v := .bool p) (by simp [results, Tryz.results168, go_sem, t4]) hd ⟨ret_bool ?_, HB1.out.trans (HB2.out.mono (by omega))⟩
            unfold relOk
            have := HE.out
            have := HK.out
            simp only [Int.toNat_natCast, HG.out, HPB.out]
            cases p <;> simp <;> omega
        · have c3 := fromto_no b3
          have HE := Lib.hid (⟨b1, b2, b3⟩ : _ ∧ _ ∧ _)
          clear b1 b2 b3
          go_enter Tryz.func168, Tryz.ntmps168
          go_upto_region 5 with (first
            | (go_at_call 172; (with_reducible refine (c1 _).mono ?_); rintro e w1 ⟨rfl, rfl⟩)
            | (go_at_call 172; (with_reducible refine (c2 _).mono ?_); rintro e w1 ⟨rfl, rfl⟩)
            | (go_at_call 172; (with_reducible refine (c3 _).mono ?_); rintro e w1 ⟨rfl, rfl⟩))
          have hln : (1 : Int) ≤ ((ws.length : Int)) ∨ True := .inr trivial
          go_quiet ((go_at_call 172; exact Calls.quiet_of_same ((c3 _).mono fun e w' h => ⟨h.1, h.2.symm⟩)))
          go_wp2
          go_ret
          exact ⟨ret_bool (by unfold relOk; have := HE.out; simp; first | omega | (rw [Bool.eq_iff_iff]; simp; omega)), (HB.out _ _).trans ⟨rfl, rfl, rfl, Nat.le_refl _, fun _ _ => rfl⟩⟩
      · by_cases e2 : sc = 2
        · subst e2
          by_cases b4 : kd = 6
          · subst b4
            by_cases b3 : 0 ≤ pl ∧ pl ≤ (nd : Int) - 4
            · have c3 := fromto_yes b3
              have ht := Int.tmod_eq_emod_of_nonneg (b := 4) b3.1
              by_cases hm : pl.tmod 4 = 0
              all_goals
                have HE := Lib.hid (⟨b1, b2, b3, ht, hm⟩ : _ ∧ _ ∧ _ ∧ _ ∧ _)
                clear b1 b2 b3 ht
                go_enter Tryz.func168, Tryz.ntmps168
                go_wp2_with (first
                  | (go_at_call 172; (with_reducible refine (c1 _).mono ?_); rintro e w1 ⟨rfl, rfl⟩)
                  | (go_at_call 172; (with_reducible refine (c2 _).mono ?_); rintro e w1 ⟨rfl, rfl⟩)
                  | (go_at_call 172; (with_reducible refine (c3 _).mono ?_); rintro e w1 ⟨rfl, rfl⟩))
                go_ret
                exact ⟨ret_bool (by unfold relOk; have := HE.out; simp; first | omega | (rw [Bool.eq_iff_iff]; simp; omega) | (rw [Bool.eq_iff_iff]; simp only [beq_iff_eq, Bool.and_eq_true, decide_eq_true_eq]; omega)), HB.out _ _⟩
            · have c3 := fromto_no b3
              have HE := Lib.hid (⟨b1, b2, b3⟩ : _ ∧ _ ∧ _)
              clear b1 b2 b3
              go_enter Tryz.func168, Tryz.ntmps168
              go_wp2_with (first
                | (go_at_call 172; (with_reducible refine (c1 _).mono ?_); rintro e w1 ⟨rfl, rfl⟩)
                | (go_at_call 172; (with_reducible refine (c2 _).mono ?_); rintro e w1 ⟨rfl, rfl⟩)
                | (go_at_call 172; (with_reducible refine (c3 _).mono ?_); rintro e w1 ⟨rfl, rfl⟩))
              go_ret
              exact ⟨ret_bool (by unfold relOk; have := HE.out; simp; first | omega | (rw [Bool.eq_iff_iff]; simp; omega) | (rw [Bool.eq_iff_iff]; simp only [beq_iff_eq, Bool.and_eq_true, decide_eq_true_eq]; omega)), HB.out _ _⟩
          · have c3 := c1
            have HE := Lib.hid (⟨b1, b2, b4⟩ : _ ∧ _ ∧ _)
            clear b1 b2
            go_enter Tryz.func168, Tryz.ntmps168
            go_wp2_with (first
              | (go_at_call 172; (with_reducible refine (c1 _).mono ?_); rintro e w1 ⟨rfl, rfl⟩)
              | (go_at_call 172; (with_reducible refine (c2 _).mono ?_); rintro e w1 ⟨rfl, rfl⟩)
              | (go_at_call 172; (with_reducible refine (c3 _).mono ?_); rintro e w1 ⟨rfl, rfl⟩))
            go_ret
            exact ⟨ret_bool (by unfold relOk; have := HE.out; simp; first | omega | (rw [Bool.eq_iff_iff]; simp; omega) | (rw [Bool.eq_iff_iff]; simp only [beq_iff_eq, Bool.and_eq_true, decide_eq_true_eq]; omega)), HB.out _ _⟩
        · have c3 := c1
          have HE := Lib.hid (⟨b1, b2, e1, e2⟩ : _ ∧ _ ∧ _ ∧ _)
          clear b1 b2
          go_enter Tryz.func168, Tryz.ntmps168
          go_wp2_with (first
            | (go_at_call 172; (with_reducible refine (c1 _).mono ?_); rintro e w1 ⟨rfl, rfl⟩)
            | (go_at_call 172; (with_reducible refine (c2 _).mono ?_); rintro e w1 ⟨rfl, rfl⟩)
            | (go_at_call 172; (with_reducible refine (c3 _).mono ?_); rintro e w1 ⟨rfl, rfl⟩))
          go_ret
          exact ⟨ret_bool (by unfold relOk; have := HE.out; simp [this.2.2.1, this.2.2.2]; try first | omega | (rw [Bool.eq_iff_iff]; simp; omega) | (rw [Bool.eq_iff_iff]; simp only [beq_iff_eq, Bool.and_eq_true, decide_eq_true_eq]; omega)), HB.out _ _⟩
    · have c2 := fromto_no b2
      have c3 := c1
      have HE := Lib.hid (⟨b1, b2⟩ : _ ∧ _)
      clear b1 b2
      go_enter Tryz.func168, Tryz.ntmps168
      go_wp2_with (first
        | (go_at_call 172; (with_reducible refine (c1 _).mono ?_); rintro e w1 ⟨rfl, rfl⟩)
        | (go_at_call 172; (with_reducible refine (c2 _).mono ?_); rintro e w1 ⟨rfl, rfl⟩)
        | (go_at_call 172; (with_reducible refine (c3 _).mono ?_); rintro e w1 ⟨rfl, rfl⟩))
      go_ret
      exact ⟨ret_bool (by unfold relOk; have := HE.out; simp; first | omega | (rw [Bool.eq_iff_iff]; simp; omega) | (rw [Bool.eq_iff_iff]; simp only [beq_iff_eq, Bool.and_eq_true, decide_eq_true_eq]; omega)), HB.out _ _⟩
  · have c1 := fromto_no b1
    have c2 := c1
    have c3 := c1
    have HE := Lib.hid b1
    clear b1
    go_enter Tryz.func168, Tryz.ntmps168
    go_wp2_with (first
      | (go_at_call 172; (with_reducible refine (c1 _).mono ?_); rintro e w1 ⟨rfl, rfl⟩)
      | (go_at_call 172; (with_reducible refine (c2 _).mono ?_); rintro e w1 ⟨rfl, rfl⟩)
      | (go_at_call 172; (with_reducible refine (c3 _).mono ?_); rintro e w1 ⟨rfl, rfl⟩))
    go_ret
    exact ⟨ret_bool (by unfold relOk; have := HE.out; simp; first | omega | (rw [Bool.eq_iff_iff]; simp; omega) | (rw [Bool.eq_iff_iff]; simp only [beq_iff_eq, Bool.and_eq_true, decide_eq_true_eq]; omega)), HB.out _ _⟩
end ORl
end Go.Proofs.YtlmblfkcmhgdaaaGreat
namespace Go.Proofs.YtlmblfkcmhgdaaaGreat
open Go.RowKit Go.Maps
set_option linter.unusedVariables false
set_option linter.unusedSimpArgs false
namespace OCk
open OO OJ OU ORl
def key (s : SymV) : Lit := .string s.name.data.toList
def symAt (nt nd : Nat) (ss : List SymV) (k : Nat) : Bool := match ss[k]? with
  | none => false
  | some s => !((ss.take k).any fun t => decide (t.name = s.name)) && symOk nt nd s
def symsTo (nt nd : Nat) (ss : List SymV) (k : Nat) : Bool := (List.range k).all (symAt nt nd ss)
def relAt (ws : List Int) (nd ns : Nat) (rs : List RelV) (k : Nat) : Bool := match rs[k]? with
  | none => false
  | some r => (decide (k = 0) || (match rs[k - 1]? with | none => false | some q => riseB q r)) && relOk ws nd ns r
def relsTo (ws : List Int) (nd ns : Nat) (rs : List RelV) (k : Nat) : Bool := (List.range k).all (relAt ws nd ns rs)
def lensB (o : ObjV) : Bool := decide (o.ws.length ≤ 65536 ∧ o.ds.length ≤ 65536 ∧ o.ds.length % 8 = 0) && decide (o.ss.length ≤ 600 ∧ o.rs.length ≤ 65536)
/-- is it an object? -/
def chk (o : ObjV) : Bool := lensB o && (symsTo o.ws.length o.ds.length o.ss o.ss.length && relsTo o.ws o.ds.length o.ss.length o.rs o.rs.length)
theorem all_succ (f : Nat → Bool) (k : Nat) : (List.range (k + 1)).all f = ((List.range k).all f && f k) := by
  rw [List.range_succ, List.all_append]; simp
theorem all_no {f : Nat → Bool} {k n : Nat} (hk : k < n) (h : f k = false) : (List.range n).all f = false := by
  rw [List.all_eq_false]
  exact ⟨k, List.mem_range.2 hk, by simp [h]⟩
theorem symsTo_succ (nt nd : Nat) (ss : List SymV) (k : Nat) : symsTo nt nd ss (k + 1) = (symsTo nt nd ss k && symAt nt nd ss k) := all_succ _ _
theorem relsTo_succ (ws : List Int) (nd ns : Nat) (rs : List RelV) (k : Nat) : relsTo ws nd ns rs (k + 1) = (relsTo ws nd ns rs k && relAt ws nd ns rs k) := all_succ _ _
theorem chk_lens {o : ObjV} (h : lensB o = false) : chk o = false := by unfold chk; rw [h]; rfl
theorem chk_sym {o : ObjV} {k : Nat} (hk : k < o.ss.length) (h : symAt o.ws.length o.ds.length o.ss k = false) : chk o = false := by
  unfold chk
  rw [show symsTo o.ws.length o.ds.length o.ss o.ss.length = false from all_no hk h]
  simp
theorem chk_rel {o : ObjV} {k : Nat} (hk : k < o.rs.length) (h : relAt o.ws o.ds.length o.ss.length o.rs k = false) : chk o = false := by
  unfold chk
  rw [show relsTo o.ws o.ds.length o.ss.length o.rs o.rs.length = false from all_no hk h]
  simp
theorem chk_yes {o : ObjV} (h0 : lensB o = true) (h1 : symsTo o.ws.length o.ds.length o.ss o.ss.length = true) (h2 : relsTo o.ws o.ds.length o.ss.length o.rs o.rs.length = true) : chk o = true := by
  unfold chk; rw [h0, h1, h2]; rfl
theorem symAt_eq {nt nd : Nat} {ss : List SymV} {k : Nat} (hk : k < ss.length) : symAt nt nd ss k = (!((ss.take k).any fun t => decide (t.name = ss[k].name)) && symOk nt nd ss[k]) := by
  unfold symAt; rw [List.getElem?_eq_getElem hk]
theorem relAt_zero {ws : List Int} {nd ns : Nat} {rs : List RelV} (hk : 0 < rs.length) : relAt ws nd ns rs 0 = relOk ws nd ns rs[0] := by
  unfold relAt; rw [List.getElem?_eq_getElem hk]; simp
theorem relAt_succ {ws : List Int} {nd ns : Nat} {rs : List RelV} {k : Nat} (hk : k + 1 < rs.length) : relAt ws nd ns rs (k + 1) = (riseB rs[k] rs[k + 1] && relOk ws nd ns rs[k + 1]) := by
  unfold relAt; rw [List.getElem?_eq_getElem hk]
  simp only [Nat.add_sub_cancel, List.getElem?_eq_getElem (Nat.lt_of_succ_lt hk)]
  rfl
/-! ### the names so far -/
def names (ss : List SymV) (k : Nat) : DataW Unit := (ss.take k).foldl (fun D s => D.put (key s) (.agg [])) (.map [])
theorem names_succ (ss : List SymV) (k : Nat) (h : k < ss.length) : names ss (k + 1) = (names ss k).put (key ss[k]) (.agg []) := by
  unfold names
  rw [List.take_succ_eq_append_getElem h, List.foldl_append]; rfl
theorem key_ne {s t : SymV} (h : t.name ≠ s.name) : key s ≠ key t := by
  intro e
  unfold key at e
  injection e with e
  exact h (ByteArray.ext (Array.toList_inj.1 e)).symm
theorem has_fold (s : SymV) (l : List SymV) : ∀ D : DataW Unit, IsMap D → Maps.has (l.foldl (fun D s => D.put (key s) (.agg [])) D) (key s) = (l.any (fun t => decide (t.name = s.name)) || Maps.has D (key s)) := by
  induction l with
  | nil => intro D h; simp
  | cons t l ih =>
    intro D h
    rw [List.foldl_cons, ih _ (h.put _ _), List.any_cons]
    by_cases e : t.name = s.name
    · have hk : key t = key s := by unfold key; rw [e]
      rw [hk, has_put_same h (by unfold key; exact trivial)]
      simp [e]
    · rw [has_put_other (key_ne e)]
      simp [e]
theorem has_names (ss : List SymV) (k : Nat) (s : SymV) : Maps.has (names ss k) (key s) = (ss.take k).any fun t => decide (t.name = s.name) := by
  unfold names
  rw [has_fold s _ _ isMap_empty]
  simp [Maps.has]
end OCk
end Go.Proofs.YtlmblfkcmhgdaaaGreat
namespace Go.Proofs.YtlmblfkcmhgdaaaGreat
open Go.RowKit
set_option linter.unusedVariables false
set_option linter.unusedSimpArgs false
namespace OCh
open OO OJ OF
abbrev TO : TypeId := 30
def CkEnd (b : Bool) (w : World) (e : Ending) (w' : World) : Prop := e = (if b then .returned (.tuple #[]) else thrown) ∧ Below w.heap.size w w'
theorem demand_t (b : Bool) (h : b = true) (w : World) : Calls Tryz.prog 165 #[.bool b] w fun e w' => e = .returned (.tuple #[]) ∧ w = w' := by
  rw [h]; exact demand_yes w
theorem demand_f (b : Bool) (h : b = false) (w : World) : Calls Tryz.prog 165 #[.bool b] w fun e w' => e = thrown ∧ w = w' := by
  rw [h]; exact demand_no w
set_option maxRecDepth 100000 in
set_option maxHeartbeats 4000000 in
theorem lens_no {n0 n1 n2 n3 q0 q1 q2 q3 : Nat} {p0 p1 p2 p3 : Option Addr} (w : World) (m0 : n0 ≤ maxLen) (m1 : n1 ≤ maxLen) (m2 : n2 ≤ maxLen) (m3 : n3 ≤ maxLen)
    (h : ¬ (n0 ≤ 65536 ∧ n1 ≤ 65536 ∧ n1 % 8 = 0 ∧ n2 ≤ 600 ∧ n3 ≤ 65536)) :
    Calls Tryz.prog 142 #[.agg #[.slice p0 n0 q0, .slice p1 n1 q1, .slice p2 n2 q2, .slice p3 n3 q3]] w (CkEnd false w) := by
  unfold maxLen at m0 m1 m2 m3
  by_cases h0 : (n0 : Int) ≤ 65536
  all_goals by_cases h1 : (n1 : Int) ≤ 65536
  all_goals by_cases h8 : (n1 : Int) % 8 = 0
  all_goals by_cases h2 : (n2 : Int) ≤ 600
  all_goals by_cases h3 : (n3 : Int) ≤ 65536
  all_goals first
    | (exfalso; omega)
    | skip
  all_goals
    first
      | (have d0 : decide ((n0 : Int) ≤ 65536) = true := decide_eq_true h0)
      | (have d0 : decide ((n0 : Int) ≤ 65536) = false := decide_eq_false (by omega))
  all_goals
    first
      | (have d1 : decide ((n1 : Int) ≤ 65536) = true := decide_eq_true h1)
      | (have d1 : decide ((n1 : Int) ≤ 65536) = false := decide_eq_false (by omega))
  all_goals
    first
      | (have d2 : decide ((n2 : Int) ≤ 600) = true := decide_eq_true h2)
      | (have d2 : decide ((n2 : Int) ≤ 600) = false := decide_eq_false (by omega))
  all_goals
    first
      | (have d3 : decide ((n3 : Int) ≤ 65536) = true := decide_eq_true h3)
      | (have d3 : decide ((n3 : Int) ≤ 65536) = false := decide_eq_false (by omega))
  all_goals first
    | (clear h
       go_enter Tryz.func142, Tryz.ntmps142
       go_wp2_with (first
         | (go_at_call 165; (with_reducible refine (demand_t _ ?_ _).mono ?_); (focus first | rfl | (simp; done) | (simp; omega)); rintro e w1 ⟨rfl, rfl⟩)
         | (go_at_call 165; (with_reducible refine (demand_f _ ?_ _).mono ?_); (focus first | rfl | (simp; done) | (simp; omega)); rintro e w1 ⟨rfl, rfl⟩))
       exact ⟨rfl, (⟨rfl, (Below.refl _ _).alloc (Nat.le_refl _) _⟩ : CkEnd false w thrown _)⟩)
end OCh
end Go.Proofs.YtlmblfkcmhgdaaaGreat
namespace Go.Proofs.YtlmblfkcmhgdaaaGreat
open Go.RowKit Go.Maps Go.WideMaps
set_option linter.unusedVariables false
set_option linter.unusedSimpArgs false
namespace OCh
open OO OJ OU ORl OCk OF OI
theorem box0 (w : World) (x : Obj) : Below w.heap.size w (w.alloc x) := (Below.refl _ _).alloc (Nat.le_refl _) _
theorem law9 : Keyed Tryz.prog 9 := string_keyed Tryz.underlying9
theorem zeroU (w : World) : (zeroValue 244).run Tryz.prog w = .ok (.agg #[]) w := by kernel_rfl
def dst (i : Nat) : Nat := 74 + i
theorem dst_inj (i j : Nat) (hi : i < 18) (hj : j < 18) (h : dst i = dst j) : i = j := by unfold dst at h; omega
set_option maxRecDepth 100000 in
set_option maxHeartbeats 8000000 in
theorem check_lens {w : World} {n₀ : Nat} {v0 v1 v2 v3 : Value} {o : ObjV} (hn : n₀ ≤ w.heap.size) (ho : ObjAt n₀ w v0 v1 v2 v3 o) (hw : o.Wf) (hl : lensB o = true) :
    Calls Tryz.prog 142 #[.agg #[v0, v1, v2, v3]] w (CkEnd (chk o) w) := by
  have hmm := @run_makeMap Tryz.prog
  obtain ⟨p0, q0, rfl, -⟩ := ho.ws
  obtain ⟨p1, q1, rfl, -⟩ := ho.ds
  obtain ⟨p2, q2, rfl, -⟩ := ho.ss
  obtain ⟨p3, q3, rfl, -⟩ := ho.rs
  have hl' := hl
  unfold lensB at hl'
  simp only [Bool.and_eq_true, decide_eq_true_eq] at hl'
  obtain ⟨⟨h0, h1, h8⟩, h2, h3⟩ := hl'
  have h8' : (o.ds.length : Int) % 8 = 0 := by omega
  have HL := Lib.hid hl
  have HO := Lib.hid ho
  have HW := Lib.hid hw
  clear ho hw hl h8
  go_enter Tryz.func142, Tryz.ntmps142
  have d0 : decide ((o.ws.length : Int) ≤ 65536) = true := decide_eq_true (by omega)
  have d1 : decide ((o.ds.length : Int) ≤ 65536) = true := decide_eq_true (by omega)
  have d2 : decide ((o.ss.length : Int) ≤ 600) = true := decide_eq_true (by omega)
  have d3 : decide ((o.rs.length : Int) ≤ 65536) = true := decide_eq_true (by omega)
  have d8 : ((o.ds.length : Int) % 8 == 0) = true := by simpa using h8'
  go_upto_region 4 with (go_at_call 165; (with_reducible refine (demand_t _ ?_ _).mono ?_); (focus first | rfl | (simp; done) | (simp; omega)); rintro e w1 ⟨rfl, rfl⟩)
  clear d0 d1 d2 d3 d8 h8'
  have hbx0 := heap_alloc_new w (.cells #[.slice p0 o.ws.length q0, .slice p1 o.ds.length q1, .slice p2 o.ss.length q2, .slice p3 o.rs.length q3] TO)
  have hB0 : Below w.heap.size w ((w.alloc (.cells #[.slice p0 o.ws.length q0, .slice p1 o.ds.length q1, .slice p2 o.ss.length q2, .slice p3 o.rs.length q3] TO)).alloc (.map #[] 0)) := ((Below.refl _ _).alloc (Nat.le_refl _) _).alloc (by simp) _
  have hbx : ((w.alloc (.cells #[.slice p0 o.ws.length q0, .slice p1 o.ds.length q1, .slice p2 o.ss.length q2, .slice p3 o.rs.length q3] TO)).alloc (.map #[] 0)).heap[w.heap.size]? = some (.cells #[.slice p0 o.ws.length q0, .slice p1 o.ds.length q1, .slice p2 o.ss.length q2, .slice p3 o.rs.length q3] TO (0, 0)) := (Lib.alloc_old _ _ _ (by simp)).trans hbx0
  have hmp : ((w.alloc (.cells #[.slice p0 o.ws.length q0, .slice p1 o.ds.length q1, .slice p2 o.ss.length q2, .slice p3 o.rs.length q3] TO)).alloc (.map #[] 0)).ownsMap Tryz.prog 9 unitElem (w.heap.size + 1) 0 (names o.ss 0) := by
    have := World.ownsMap_made (H := Unit) (w.alloc (.cells #[.slice p0 o.ws.length q0, .slice p1 o.ds.length q1, .slice p2 o.ss.length q2, .slice p3 o.rs.length q3] TO)) Tryz.prog 9 unitElem
    rwa [World.size_alloc] at this
  have HB0 := Lib.hid hB0
  have HX0 := Lib.hid hbx
  have HM0 := Lib.hid hmp
  clear hbx0 hbx hB0 hmp
  generalize (w.alloc (.cells #[.slice p0 o.ws.length q0, .slice p1 o.ds.length q1, .slice p2 o.ss.length q2, .slice p3 o.rs.length q3] TO)).alloc (.map #[] 0) = W0 at *
  have HX0c := HX0.out
  have y2 : W0.cell? ⟨w.heap.size, 2, none⟩ = some (.slice p2 o.ss.length q2) := Lib.cell_of_heap HX0c 2
  clear HX0c
  go_wp2_with fail
  go_loopw [42] (fun i wr => ∃ k : Nat, k ≤ o.ss.length ∧ i = .int .i64 k ∧ Hid (symsTo o.ws.length o.ds.length o.ss k = true) ∧ wr.ownsMap Tryz.prog 9 unitElem (w.heap.size + 1) k (names o.ss k) ∧ Below w.heap.size w wr ∧ wr.heap[w.heap.size]? = some (.cells #[.slice p0 o.ws.length q0, .slice p1 o.ds.length q1, .slice p2 o.ss.length q2, .slice p3 o.rs.length q3] TO (0, 0))) (fun i _ => o.ss.length - (intOf i).toNat)
  case atStart => exact ⟨0, Nat.zero_le _, rfl, Lib.hid rfl, HM0.out, HB0.out, HX0.out⟩
  case round =>
    clear y2 HB0 HX0 HM0
    obtain ⟨k, hk, rfl, hq, hown, hbl, hbx⟩ := hrel
    by_cases hlt : k < o.ss.length
    · obtain ⟨p, c, hv, hh⟩ := HO.out.ss
      cases hv
      obtain ⟨xb, xo, rfl, hxb, -, -, hrow⟩ := hh (by omega)
      obtain ⟨s0, s1, s2, s3, s4⟩ := (hrow k _ (List.getElem?_eq_getElem hlt)).below (hbl.mono hn) hxb
      have hnm := (HW.out.ss _ (List.getElem_mem hlt)).name
      have hkey : keyOf Tryz.prog 9 (.string o.ss[k].name) = some (key o.ss[k]) := keyOf_string_mk Tryz.underlying9 hnm
      have HA := Lib.hid ((symAt_eq (nt := o.ws.length) (nd := o.ds.length) hlt).trans (by rw [← has_names]))
      have HNS := Lib.hid (names_succ o.ss k hlt)
      have hsz := hbl.size
      have hN := lt_heap hbx
      have hN1 := hown.lt
      have hxw : xb < wr.heap.size := by omega
      have c1 := fun w' => symbol_ (nt := o.ws.length) (nd := o.ds.length) (n2 := o.ss.length) (n3 := o.rs.length) (q0 := q0) (q1 := q1) (q2 := q2) (q3 := q3) (p0 := p0) (p1 := p1) (p2 := some ⟨xb, xo, none⟩) (p3 := p3) o.ss[k] w' hnm (by unfold maxLen; omega) (by unfold maxLen; omega)
      obtain ⟨f0, f1, f2, f3⟩ : wr.cell? ⟨w.heap.size, 0, none⟩ = some (.slice p0 o.ws.length q0) ∧ wr.cell? ⟨w.heap.size, 1, none⟩ = some (.slice p1 o.ds.length q1) ∧ wr.cell? ⟨w.heap.size, 2, none⟩ = some (.slice (some ⟨xb, xo, none⟩) o.ss.length q2) ∧ wr.cell? ⟨w.heap.size, 3, none⟩ = some (.slice p3 o.rs.length q3) :=
        ⟨Lib.cell_of_heap hbx 0, Lib.cell_of_heap hbx 1, Lib.cell_of_heap hbx 2, Lib.cell_of_heap hbx 3⟩
      have HQ := hq
      have HLT := Lib.hid hlt
      have HBX := Lib.hid hbx
      have HBL := Lib.hid hbl
      clear hrow hnm hh hq hbx hbl
      generalize o.ss[k] = x at *
      cases hb1 : Maps.has (names o.ss k) (key x) with
      | true =>
        have HC := Lib.hid (show chk o = false from chk_sym HLT.out (by rw [HA.out, hb1]; rfl))
        clear HA
        go_wp2_with (first
          | (at_lookup; refine wpList_lookup_own_unit _ rfl _ _ 247 rfl 9 244 law9 Tryz.underlying247 (zeroU _) (w.heap.size + 1) k _ rfl (hown.alloc _) _ _ rfl hkey ?_)
          | (go_at_call 166; (with_reducible refine (c1 _).mono ?_); rintro e w2 ⟨rfl, hb3⟩; have HB3 := Lib.hid hb3; clear hb3)
          | (go_at_call 165; (with_reducible refine (demand_f _ ?_ _).mono ?_); (focus first | rfl | (simp; done) | (simp; omega)); rintro e w3 ⟨rfl, rfl⟩))
        exact ⟨rfl, (⟨by rw [HC.out]; rfl, (HBL.out.alloc HBL.out.size _).alloc (by simp; omega) _⟩ : CkEnd (chk o) w thrown _)⟩
      | false =>
        cases hb2 : symOk o.ws.length o.ds.length x with
        | false =>
          have HC := Lib.hid (show chk o = false from chk_sym HLT.out (by rw [HA.out, hb1, hb2]; rfl))
          rw [hb2] at c1
          clear HA hb2
          go_wp2_with (first
            | (at_lookup; refine wpList_lookup_own_unit _ rfl _ _ 247 rfl 9 244 law9 Tryz.underlying247 (zeroU _) (w.heap.size + 1) k _ rfl (hown.alloc _) _ _ rfl hkey ?_)
            | (go_at_call 166; (with_reducible refine (c1 _).mono ?_); rintro e w2 ⟨rfl, hb3⟩; have HB3 := Lib.hid hb3; clear hb3)
            | (go_at_call 165; (with_reducible refine (demand_f _ ?_ _).mono ?_); (focus first | rfl | (simp; done) | (simp; omega)); rintro e w3 ⟨rfl, rfl⟩))
          exact ⟨rfl, (⟨by rw [HC.out]; rfl, ((HBL.out.alloc HBL.out.size _).alloc (by simp; omega) _).trans (HB3.out.mono (by simp; omega))⟩ : CkEnd (chk o) w thrown _)⟩
        | true =>
          have HC := Lib.hid (show symsTo o.ws.length o.ds.length o.ss (k + 1) = true by rw [symsTo_succ, HQ.out, HA.out, hb1, hb2]; rfl)
          rw [hb2] at c1
          clear HA hb2
          go_wp2_with (first
            | (at_lookup; refine wpList_lookup_own_unit _ rfl _ _ 247 rfl 9 244 law9 Tryz.underlying247 (zeroU _) (w.heap.size + 1) k _ rfl (hown.alloc _) _ _ rfl hkey ?_)
            | (go_at_call 166; (with_reducible refine (c1 _).mono ?_); rintro e w2 ⟨rfl, hb3⟩; have hown2 := ((hown.alloc _).alloc _).kept (CD.grown_of hb3) (by simp); have hs2 := hb3.size; simp only [World.size_alloc] at hs2; have g0 := (hb3.cell (p := ⟨wr.heap.size, 0, none⟩) (by simp only [World.size_alloc]; omega)).trans (Lib.cell_of_heap ((Lib.alloc_old _ _ _ (by simp)).trans (heap_alloc_new wr _)) 0); simp only [List.getElem?_toArray, List.getElem?_cons_zero] at g0; have HB3 := Lib.hid hb3; clear hb3)
            | (go_at_call 165; (with_reducible refine (demand_t _ ?_ _).mono ?_); (focus first | rfl | (simp; done) | (simp; omega)); rintro e w3 ⟨rfl, rfl⟩)
            | (at_mapUpdate; refine wpList_mapUpdate_own _ rfl _ _ _ 247 rfl 9 244 law9 Tryz.underlying247 (unitElem (H := Unit)) (w.heap.size + 1) k _ rfl hown2 (by unfold maxLen; omega) _ _ _ rfl rfl hkey _ [] unitElem_mk ?_; intro w5 hown5 hgrow5))
          have hb2 : Below wr.heap.size wr w2 := ((box0 wr _).alloc (by simp) _).trans (HB3.out.mono (by simp only [World.size_alloc]; omega))
          have s5 := hgrow5.size
          go_roundw
          case rel =>
            exact ⟨k + 1, by omega, by go_num, HC, by rw [HNS.out]; exact hown5, ((HBL.out.trans (hb2.mono HBL.out.size)).grown hgrow5 (by omega) (fun j hj => by cases hj; omega)),
              (hgrow5.block _ (by omega) (by simp)).trans ((hb2.block _ hN).trans HBX.out)⟩
          case measure => simp [intOf]; omega
    · obtain rfl : k = o.ss.length := by omega
      have HQ := hq
      have y3 : wr.cell? ⟨w.heap.size, 3, none⟩ = some (.slice p3 o.rs.length q3) := Lib.cell_of_heap hbx 3
      have HB0 := Lib.hid hbl
      have HX0 := Lib.hid hbx
      clear hq hbl hbx hown
      obtain ⟨wo, rfl⟩ : ∃ wo : World, wo = wr := ⟨_, rfl⟩
      go_wp2_with fail
      go_loopw [69] (fun i wr => ∃ k : Nat, k ≤ o.rs.length ∧ i = .int .i64 k ∧ Hid (relsTo o.ws o.ds.length o.ss.length o.rs k = true) ∧ Below w.heap.size w wr ∧ wr.heap[w.heap.size]? = some (.cells #[.slice p0 o.ws.length q0, .slice p1 o.ds.length q1, .slice p2 o.ss.length q2, .slice p3 o.rs.length q3] TO (0, 0))) (fun i _ => o.rs.length - (intOf i).toNat)
      case atStart => exact ⟨0, Nat.zero_le _, rfl, Lib.hid rfl, HB0.out, HX0.out⟩
      case round =>
        clear y3 HB0 HX0
        obtain ⟨k, hk, rfl, hq, hbl, hbx⟩ := hrel
        by_cases hlt : k < o.rs.length
        · obtain ⟨p, c, hv, hh⟩ := HO.out.rs
          cases hv
          obtain ⟨rb, ro, rfl, hrb, -, -, hrow⟩ := hh (by omega)
          have hr0 := hrow k _ (List.getElem?_eq_getElem hlt)
          have HLT := Lib.hid hlt
          have hN := lt_heap hbx
          have hsz := hbl.size
          have hrw : rb < wr.heap.size := by omega
          obtain ⟨s0, s1, s2, s3, s4⟩ := hr0.below (hbl.mono hn) hrb
          have HBX := Lib.hid hbx
          have HBL := Lib.hid hbl
          have HQ2 := hq
          have hk1 : (0 : Int) ≤ (k : Int) := by omega
          have HR0 := Lib.hid hr0
          by_cases hz0 : k = 0
          · have HA := Lib.hid (show relAt o.ws o.ds.length o.ss.length o.rs k = relOk o.ws o.ds.length o.ss.length o.rs[k] by subst hz0; exact relAt_zero hlt)
            have HS := Lib.hid (show relsTo o.ws o.ds.length o.ss.length o.rs (k + 1) = relAt o.ws o.ds.length o.ss.length o.rs k by rw [relsTo_succ, hq.out]; rfl)
            have hz : ((k : Int) == 0) = true := by simpa using hz0
            clear hrow hh hq hbx hbl hr0 hz0
            generalize o.rs[k] = r at *
            cases hp : relOk o.ws o.ds.length o.ss.length r with
            | true =>
              have HC := Lib.hid (show relsTo o.ws o.ds.length o.ss.length o.rs (k + 1) = true by rw [HS.out, HA.out, hp])
              go_upto_region 14 with (fail)
              have KC := Lib.hid (fun (W' : World) (hb : Below (wr.alloc (.cells #[.int .i64 r.sect, .int .i64 r.place, .int .i64 r.kind, .int .i64 r.sym, .int .i64 r.add] 59)).heap.size (wr.alloc (.cells #[.int .i64 r.sect, .int .i64 r.place, .int .i64 r.kind, .int .i64 r.sym, .int .i64 r.add] 59)) W') =>
                (⟨Lib.cell_of_heap ((hb.block _ (by simp; omega)).trans ((Lib.alloc_old _ _ _ hN).trans HBX.out)) 0, Lib.cell_of_heap ((hb.block _ (by simp; omega)).trans ((Lib.alloc_old _ _ _ hN).trans HBX.out)) 1, Lib.cell_of_heap ((hb.block _ (by simp; omega)).trans ((Lib.alloc_old _ _ _ hN).trans HBX.out)) 2, Lib.cell_of_heap ((hb.block _ (by simp; omega)).trans ((Lib.alloc_old _ _ _ hN).trans HBX.out)) 3,
                 Lib.cell_of_heap ((hb.block _ (by simp)).trans (heap_alloc_new _ _)) 0, Lib.cell_of_heap ((hb.block _ (by simp)).trans (heap_alloc_new _ _)) 1, Lib.cell_of_heap ((hb.block _ (by simp)).trans (heap_alloc_new _ _)) 2, Lib.cell_of_heap ((hb.block _ (by simp)).trans (heap_alloc_new _ _)) 3, Lib.cell_of_heap ((hb.block _ (by simp)).trans (heap_alloc_new _ _)) 4⟩ :
                W'.cell? ⟨w.heap.size, 0, none⟩ = some (.slice p0 o.ws.length q0) ∧ W'.cell? ⟨w.heap.size, 1, none⟩ = some (.slice p1 o.ds.length q1) ∧ W'.cell? ⟨w.heap.size, 2, none⟩ = some (.slice p2 o.ss.length q2) ∧ W'.cell? ⟨w.heap.size, 3, none⟩ = some (.slice (some ⟨rb, ro, none⟩) o.rs.length q3) ∧
                W'.cell? ⟨wr.heap.size, 0, none⟩ = some (.int .i64 r.sect) ∧ W'.cell? ⟨wr.heap.size, 1, none⟩ = some (.int .i64 r.place) ∧ W'.cell? ⟨wr.heap.size, 2, none⟩ = some (.int .i64 r.kind) ∧ W'.cell? ⟨wr.heap.size, 3, none⟩ = some (.int .i64 r.sym) ∧ W'.cell? ⟨wr.heap.size, 4, none⟩ = some (.int .i64 r.add)))
              have KR := Lib.hid (fun (W' : World) (hb : Below (wr.alloc (.cells #[.int .i64 r.sect, .int .i64 r.place, .int .i64 r.kind, .int .i64 r.sym, .int .i64 r.add] 59)).heap.size (wr.alloc (.cells #[.int .i64 r.sect, .int .i64 r.place, .int .i64 r.kind, .int .i64 r.sym, .int .i64 r.add] 59)) W') =>
                relocation_ (n₀ := n₀) (nd := o.ds.length) (ns := o.ss.length) (n3 := o.rs.length) (q1 := q1) (q2 := q2) (q3 := q3) (p1 := p1) (p2 := p2) (p3 := some ⟨rb, ro, none⟩) r W' HW.out.ws (HO.out.below ((HBL.out.trans (((box0 wr _).trans (hb.mono (by simp))).mono HBL.out.size)).mono hn)).ws (Nat.le_trans hn (Nat.le_trans hsz (by have := hb.size; simp only [World.size_alloc] at this; omega))) (by unfold maxLen; omega) (by unfold maxLen; omega))
              rw [hp] at KR
              clear HR0 hrw s0 s1 s2 s3 s4
              refine facts2_ (n := 18) (dst := dst) (F := Fv (fun i => match i with | 0 => some (some (.int .i64 (k : Int))) | 1 => some (some (.bool true)) | 2 => some (some (.bool true)) | 3 => none | 4 => none | 5 => none | 6 => none | 7 => none | 8 => none | 9 => none | 10 => none | 11 => some (some (.bool true)) | 12 => some (some (.bool true)) | 13 => some (some (.agg #[.slice p0 o.ws.length q0, .slice p1 o.ds.length q1, .slice p2 o.ss.length q2, .slice (some ⟨rb, ro, none⟩) o.rs.length q3])) | 14 => some (some (.agg #[.int .i64 r.sect, .int .i64 r.place, .int .i64 r.kind, .int .i64 r.sym, .int .i64 r.add])) | 15 => some (some (.bool true)) | 16 => some (some (.bool true)) | 17 => some (some (.tuple #[])) | _ => none)) (by kernel_rfl) (ahead_of (by kernel_rfl)) rfl dst_inj (fun _ _ _ _ h _ => h) ?step ?done
              case step =>
                intro i op hop a W1 hM hF
                have hi : i < 18 := (Array.getElem?_eq_some_iff.1 hop).1
                match i, hi with
                  | 0, _ =>
                    cases hop
                    refine op_ rfl rfl ?_
                    have t7 : a.tmps[7]?.getD undef = .int .i64 (k : Int) := (Array.getD_eq_getD_getElem?).symm.trans ((hM.oth 7 (by intro i hi; show 74 + i ≠ _; omega)).trans rfl)
                    have HM := Lib.hid hM
                    clear hM hF
                    go_simp
                    exact did_put _ (by rw [HM.out.sz]; exact (by decide : dst 0 < 93)) (Below.refl _ _) (by exact rfl)
                  | 1, _ =>
                    cases hop
                    refine op_ rfl rfl ?_
                    have t74 : a.tmps[74]?.getD undef = .int .i64 (k : Int) := (Array.getD_eq_getD_getElem?).symm.trans (hF ⟨0, .data⟩ (by simp) rfl)
                    have HM := Lib.hid hM
                    clear hM hF
                    go_simp
                    exact did_put _ (by rw [HM.out.sz]; exact (by decide : dst 1 < 93)) (Below.refl _ _) (by exact rfl)
                  | 2, _ =>
                    cases hop
                    refine op_ rfl rfl ?_
                    have t75 : a.tmps[75]?.getD undef = .bool true := (Array.getD_eq_getD_getElem?).symm.trans (hF ⟨1, .data⟩ (by simp) rfl)
                    have HM := Lib.hid hM
                    clear hM hF
                    go_simp
                    exact did_put _ (by rw [HM.out.sz]; exact (by decide : dst 2 < 93)) (Below.refl _ _) (by exact rfl)
                  | 3, _ =>
                    cases hop
                    have tg : a.tmps[76]?.getD undef = .bool true := (Array.getD_eq_getD_getElem?).symm.trans (hF ⟨2, .guard⟩ (by simp) rfl)
                    refine op_n rfl (by simp [Region.wanted, yielded, got tg]) ?_
                    exact did_put _ (by rw [hM.sz]; exact (by decide : dst 3 < 93)) (Below.refl _ _) trivial
                  | 4, _ =>
                    cases hop
                    have tg : a.tmps[76]?.getD undef = .bool true := (Array.getD_eq_getD_getElem?).symm.trans (hF ⟨2, .guard⟩ (by simp) rfl)
                    refine op_n rfl (by simp [Region.wanted, yielded, got tg]) ?_
                    exact did_put _ (by rw [hM.sz]; exact (by decide : dst 4 < 93)) (Below.refl _ _) trivial
                  | 5, _ =>
                    cases hop
                    have tg : a.tmps[76]?.getD undef = .bool true := (Array.getD_eq_getD_getElem?).symm.trans (hF ⟨2, .guard⟩ (by simp) rfl)
                    refine op_n rfl (by simp [Region.wanted, yielded, got tg]) ?_
                    exact did_put _ (by rw [hM.sz]; exact (by decide : dst 5 < 93)) (Below.refl _ _) trivial
                  | 6, _ =>
                    cases hop
                    have tg : a.tmps[76]?.getD undef = .bool true := (Array.getD_eq_getD_getElem?).symm.trans (hF ⟨2, .guard⟩ (by simp) rfl)
                    refine op_n rfl (by simp [Region.wanted, yielded, got tg]) ?_
                    exact did_put _ (by rw [hM.sz]; exact (by decide : dst 6 < 93)) (Below.refl _ _) trivial
                  | 7, _ =>
                    cases hop
                    have tg : a.tmps[76]?.getD undef = .bool true := (Array.getD_eq_getD_getElem?).symm.trans (hF ⟨2, .guard⟩ (by simp) rfl)
                    refine op_n rfl (by simp [Region.wanted, yielded, got tg]) ?_
                    exact did_put _ (by rw [hM.sz]; exact (by decide : dst 7 < 93)) (Below.refl _ _) trivial
                  | 8, _ =>
                    cases hop
                    have tg : a.tmps[76]?.getD undef = .bool true := (Array.getD_eq_getD_getElem?).symm.trans (hF ⟨2, .guard⟩ (by simp) rfl)
                    refine op_n rfl (by simp [Region.wanted, yielded, got tg]) ?_
                    exact did_put _ (by rw [hM.sz]; exact (by decide : dst 8 < 93)) (Below.refl _ _) trivial
                  | 9, _ =>
                    cases hop
                    have tg : a.tmps[76]?.getD undef = .bool true := (Array.getD_eq_getD_getElem?).symm.trans (hF ⟨2, .guard⟩ (by simp) rfl)
                    refine op_n rfl (by simp [Region.wanted, yielded, got tg]) ?_
                    exact did_put _ (by rw [hM.sz]; exact (by decide : dst 9 < 93)) (Below.refl _ _) trivial
                  | 10, _ =>
                    cases hop
                    have tg : a.tmps[76]?.getD undef = .bool true := (Array.getD_eq_getD_getElem?).symm.trans (hF ⟨2, .guard⟩ (by simp) rfl)
                    refine op_n rfl (by simp [Region.wanted, yielded, got tg]) ?_
                    exact did_put _ (by rw [hM.sz]; exact (by decide : dst 10 < 93)) (Below.refl _ _) trivial
                  | 11, _ =>
                    cases hop
                    refine op_ rfl rfl ?_
                    have t76 : a.tmps[76]?.getD undef = .bool true := (Array.getD_eq_getD_getElem?).symm.trans (hF ⟨2, .data⟩ (by simp) rfl)
                    have HM := Lib.hid hM
                    clear hM hF
                    go_simp
                    exact did_put _ (by rw [HM.out.sz]; exact (by decide : dst 11 < 93)) (Below.refl _ _) (by exact rfl)
                  | 12, _ =>
                    cases hop
                    refine op_ rfl rfl ?_
                    have t85 : a.tmps[85]?.getD undef = .bool true := (Array.getD_eq_getD_getElem?).symm.trans (hF ⟨11, .data⟩ (by simp) rfl)
                    have HM := Lib.hid hM
                    clear hM hF
                    go_simp
                    exact did_put _ (by rw [HM.out.sz]; exact (by decide : dst 12 < 93)) (Below.refl _ _) (by exact rfl)
                  | 13, _ =>
                    cases hop
                    have tg : a.tmps[86]?.getD undef = .bool true := (Array.getD_eq_getD_getElem?).symm.trans (hF ⟨12, .guard⟩ (by simp) rfl)
                    refine op_g rfl (by simp [Region.wanted, yielded, got tg]) ?_
                    clear tg
                    have t1 : a.tmps[1]?.getD undef = .pointer (some ⟨w.heap.size, 0, none⟩) := (Array.getD_eq_getD_getElem?).symm.trans ((hM.oth 1 (by intro i hi; show 74 + i ≠ _; omega)).trans rfl)
                    obtain ⟨f0, f1, f2, f3, g0, g1, g2, g3, g4⟩ := KC.out W1 hM.bel
                    have HM := Lib.hid hM
                    clear hM hF
                    go_simp
                    exact did_put _ (by rw [HM.out.sz]; exact (by decide : dst 13 < 93)) (Below.refl _ _) (by exact rfl)
                  | 14, _ =>
                    cases hop
                    have tg : a.tmps[86]?.getD undef = .bool true := (Array.getD_eq_getD_getElem?).symm.trans (hF ⟨12, .guard⟩ (by simp) rfl)
                    refine op_g rfl (by simp [Region.wanted, yielded, got tg]) ?_
                    clear tg
                    have t8 : a.tmps[8]?.getD undef = .pointer (some ⟨wr.heap.size, 0, none⟩) := (Array.getD_eq_getD_getElem?).symm.trans ((hM.oth 8 (by intro i hi; show 74 + i ≠ _; omega)).trans rfl)
                    obtain ⟨f0, f1, f2, f3, g0, g1, g2, g3, g4⟩ := KC.out W1 hM.bel
                    have HM := Lib.hid hM
                    clear hM hF
                    go_simp
                    exact did_put _ (by rw [HM.out.sz]; exact (by decide : dst 14 < 93)) (Below.refl _ _) (by exact rfl)
                  | 15, _ =>
                    cases hop
                    have tg : a.tmps[86]?.getD undef = .bool true := (Array.getD_eq_getD_getElem?).symm.trans (hF ⟨12, .guard⟩ (by simp) rfl)
                    refine op_g rfl (by simp [Region.wanted, yielded, got tg]) ?_
                    clear tg
                    have t87 : a.tmps[87]?.getD undef = .agg #[.slice p0 o.ws.length q0, .slice p1 o.ds.length q1, .slice p2 o.ss.length q2, .slice (some ⟨rb, ro, none⟩) o.rs.length q3] := (Array.getD_eq_getD_getElem?).symm.trans (hF ⟨13, .data⟩ (by simp) rfl)
                    have t88 : a.tmps[88]?.getD undef = .agg #[.int .i64 r.sect, .int .i64 r.place, .int .i64 r.kind, .int .i64 r.sym, .int .i64 r.add] := (Array.getD_eq_getD_getElem?).symm.trans (hF ⟨14, .data⟩ (by simp) rfl)
                    have HM := Lib.hid hM
                    have cc := KR.out W1 hM.bel
                    clear hM hF
                    go_simp
                    (with_reducible refine cc.mono ?_)
                    rintro e W2 ⟨rfl, hb⟩
                    exact did_put _ (by rw [HM.out.sz]; exact (by decide : dst 15 < 93)) hb (by exact rfl)
                  | 16, _ =>
                    cases hop
                    refine op_ rfl rfl ?_
                    have t86 : a.tmps[86]?.getD undef = .bool true := (Array.getD_eq_getD_getElem?).symm.trans (hF ⟨12, .data⟩ (by simp) rfl)
                    have t89 : a.tmps[89]?.getD undef = .bool true := (Array.getD_eq_getD_getElem?).symm.trans (hF ⟨15, .data⟩ (by simp) rfl)
                    have HM := Lib.hid hM
                    clear hM hF
                    go_simp
                    exact did_put _ (by rw [HM.out.sz]; exact (by decide : dst 16 < 93)) (Below.refl _ _) (by exact rfl)
                  | 17, _ =>
                    cases hop
                    refine op_ rfl rfl ?_
                    have t90 : a.tmps[90]?.getD undef = .bool true := (Array.getD_eq_getD_getElem?).symm.trans (hF ⟨16, .data⟩ (by simp) rfl)
                    have HM := Lib.hid hM
                    clear hM hF
                    go_simp
                    (with_reducible refine (demand_yes _).mono ?_)
                    rintro e W2 ⟨rfl, rfl⟩
                    exact did_put _ (by rw [HM.out.sz]; exact (by decide : dst 17 < 93)) (Below.refl _ _) (by exact rfl)
                  | i + 18, h => exact absurd h (by omega)
              case done =>
                intro u W1 hbz hF
                have u0 : u 0 = .int .i64 (k : Int) := hF 0 (by decide)
                have u1 : u 1 = .bool true := hF 1 (by decide)
                have u2 : u 2 = .bool true := hF 2 (by decide)
                have u11 : u 11 = .bool true := hF 11 (by decide)
                have u12 : u 12 = .bool true := hF 12 (by decide)
                have u13 : u 13 = .agg #[.slice p0 o.ws.length q0, .slice p1 o.ds.length q1, .slice p2 o.ss.length q2, .slice (some ⟨rb, ro, none⟩) o.rs.length q3] := hF 13 (by decide)
                have u14 : u 14 = .agg #[.int .i64 r.sect, .int .i64 r.place, .int .i64 r.kind, .int .i64 r.sym, .int .i64 r.add] := hF 14 (by decide)
                have u15 : u 15 = .bool true := hF 15 (by decide)
                have u16 : u 16 = .bool true := hF 16 (by decide)
                have u17 : u 17 = .tuple #[] := hF 17 (by decide)
                simp only [putAll, dst, Nat.reduceAdd, u0, u1, u2, u11, u12, u13, u14, u15, u16, u17]
                clear hF u0 u1 u2 u11 u12 u13 u14 u15 u16 u17
                go_wp2_with fail
                go_roundw
                case rel =>
                  exact ⟨k + 1, by omega, by go_num, HC, HBL.out.trans (((box0 wr _).trans (hbz.mono (by simp))).mono HBL.out.size), (hbz.block _ (by simp; omega)).trans ((Lib.alloc_old _ _ _ hN).trans HBX.out)⟩
                case measure => simp [intOf]; omega
            | false =>
              have HC := Lib.hid (show chk o = false from chk_rel HLT.out (by rw [HA.out, hp]))
              go_upto_region 14 with (fail)
              have KC := Lib.hid (fun (W' : World) (hb : Below (wr.alloc (.cells #[.int .i64 r.sect, .int .i64 r.place, .int .i64 r.kind, .int .i64 r.sym, .int .i64 r.add] 59)).heap.size (wr.alloc (.cells #[.int .i64 r.sect, .int .i64 r.place, .int .i64 r.kind, .int .i64 r.sym, .int .i64 r.add] 59)) W') =>
                (⟨Lib.cell_of_heap ((hb.block _ (by simp; omega)).trans ((Lib.alloc_old _ _ _ hN).trans HBX.out)) 0, Lib.cell_of_heap ((hb.block _ (by simp; omega)).trans ((Lib.alloc_old _ _ _ hN).trans HBX.out)) 1, Lib.cell_of_heap ((hb.block _ (by simp; omega)).trans ((Lib.alloc_old _ _ _ hN).trans HBX.out)) 2, Lib.cell_of_heap ((hb.block _ (by simp; omega)).trans ((Lib.alloc_old _ _ _ hN).trans HBX.out)) 3,
                 Lib.cell_of_heap ((hb.block _ (by simp)).trans (heap_alloc_new _ _)) 0, Lib.cell_of_heap ((hb.block _ (by simp)).trans (heap_alloc_new _ _)) 1, Lib.cell_of_heap ((hb.block _ (by simp)).trans (heap_alloc_new _ _)) 2, Lib.cell_of_heap ((hb.block _ (by simp)).trans (heap_alloc_new _ _)) 3, Lib.cell_of_heap ((hb.block _ (by simp)).trans (heap_alloc_new _ _)) 4⟩ :
                W'.cell? ⟨w.heap.size, 0, none⟩ = some (.slice p0 o.ws.length q0) ∧ W'.cell? ⟨w.heap.size, 1, none⟩ = some (.slice p1 o.ds.length q1) ∧ W'.cell? ⟨w.heap.size, 2, none⟩ = some (.slice p2 o.ss.length q2) ∧ W'.cell? ⟨w.heap.size, 3, none⟩ = some (.slice (some ⟨rb, ro, none⟩) o.rs.length q3) ∧
                W'.cell? ⟨wr.heap.size, 0, none⟩ = some (.int .i64 r.sect) ∧ W'.cell? ⟨wr.heap.size, 1, none⟩ = some (.int .i64 r.place) ∧ W'.cell? ⟨wr.heap.size, 2, none⟩ = some (.int .i64 r.kind) ∧ W'.cell? ⟨wr.heap.size, 3, none⟩ = some (.int .i64 r.sym) ∧ W'.cell? ⟨wr.heap.size, 4, none⟩ = some (.int .i64 r.add)))
              have KR := Lib.hid (fun (W' : World) (hb : Below (wr.alloc (.cells #[.int .i64 r.sect, .int .i64 r.place, .int .i64 r.kind, .int .i64 r.sym, .int .i64 r.add] 59)).heap.size (wr.alloc (.cells #[.int .i64 r.sect, .int .i64 r.place, .int .i64 r.kind, .int .i64 r.sym, .int .i64 r.add] 59)) W') =>
                relocation_ (n₀ := n₀) (nd := o.ds.length) (ns := o.ss.length) (n3 := o.rs.length) (q1 := q1) (q2 := q2) (q3 := q3) (p1 := p1) (p2 := p2) (p3 := some ⟨rb, ro, none⟩) r W' HW.out.ws (HO.out.below ((HBL.out.trans (((box0 wr _).trans (hb.mono (by simp))).mono HBL.out.size)).mono hn)).ws (Nat.le_trans hn (Nat.le_trans hsz (by have := hb.size; simp only [World.size_alloc] at this; omega))) (by unfold maxLen; omega) (by unfold maxLen; omega))
              rw [hp] at KR
              clear HR0 hrw s0 s1 s2 s3 s4
              refine facts2_ (n := 18) (dst := dst) (F := Fv (fun i => match i with | 0 => some (some (.int .i64 (k : Int))) | 1 => some (some (.bool true)) | 2 => some (some (.bool true)) | 3 => none | 4 => none | 5 => none | 6 => none | 7 => none | 8 => none | 9 => none | 10 => none | 11 => some (some (.bool true)) | 12 => some (some (.bool true)) | 13 => some (some (.agg #[.slice p0 o.ws.length q0, .slice p1 o.ds.length q1, .slice p2 o.ss.length q2, .slice (some ⟨rb, ro, none⟩) o.rs.length q3])) | 14 => some (some (.agg #[.int .i64 r.sect, .int .i64 r.place, .int .i64 r.kind, .int .i64 r.sym, .int .i64 r.add])) | 15 => some (some (.bool false)) | 16 => some (some (.bool false)) | 17 => some (none) | _ => none)) (by kernel_rfl) (ahead_of (by kernel_rfl)) rfl dst_inj (fun _ _ _ _ h _ => h) ?step ?done
              case step =>
                intro i op hop a W1 hM hF
                have hi : i < 18 := (Array.getElem?_eq_some_iff.1 hop).1
                match i, hi with
                  | 0, _ =>
                    cases hop
                    refine op_ rfl rfl ?_
                    have t7 : a.tmps[7]?.getD undef = .int .i64 (k : Int) := (Array.getD_eq_getD_getElem?).symm.trans ((hM.oth 7 (by intro i hi; show 74 + i ≠ _; omega)).trans rfl)
                    have HM := Lib.hid hM
                    clear hM hF
                    go_simp
                    exact did_put _ (by rw [HM.out.sz]; exact (by decide : dst 0 < 93)) (Below.refl _ _) (by exact rfl)
                  | 1, _ =>
                    cases hop
                    refine op_ rfl rfl ?_
                    have t74 : a.tmps[74]?.getD undef = .int .i64 (k : Int) := (Array.getD_eq_getD_getElem?).symm.trans (hF ⟨0, .data⟩ (by simp) rfl)
                    have HM := Lib.hid hM
                    clear hM hF
                    go_simp
                    exact did_put _ (by rw [HM.out.sz]; exact (by decide : dst 1 < 93)) (Below.refl _ _) (by exact rfl)
                  | 2, _ =>
                    cases hop
                    refine op_ rfl rfl ?_
                    have t75 : a.tmps[75]?.getD undef = .bool true := (Array.getD_eq_getD_getElem?).symm.trans (hF ⟨1, .data⟩ (by simp) rfl)
                    have HM := Lib.hid hM
                    clear hM hF
                    go_simp
                    exact did_put _ (by rw [HM.out.sz]; exact (by decide : dst 2 < 93)) (Below.refl _ _) (by exact rfl)
                  | 3, _ =>
                    cases hop
                    have tg : a.tmps[76]?.getD undef = .bool true := (Array.getD_eq_getD_getElem?).symm.trans (hF ⟨2, .guard⟩ (by simp) rfl)
                    refine op_n rfl (by simp [Region.wanted, yielded, got tg]) ?_
                    exact did_put _ (by rw [hM.sz]; exact (by decide : dst 3 < 93)) (Below.refl _ _) trivial
                  | 4, _ =>
                    cases hop
                    have tg : a.tmps[76]?.getD undef = .bool true := (Array.getD_eq_getD_getElem?).symm.trans (hF ⟨2, .guard⟩ (by simp) rfl)
                    refine op_n rfl (by simp [Region.wanted, yielded, got tg]) ?_
                    exact did_put _ (by rw [hM.sz]; exact (by decide : dst 4 < 93)) (Below.refl _ _) trivial
                  | 5, _ =>
                    cases hop
                    have tg : a.tmps[76]?.getD undef = .bool true := (Array.getD_eq_getD_getElem?).symm.trans (hF ⟨2, .guard⟩ (by simp) rfl)
                    refine op_n rfl (by simp [Region.wanted, yielded, got tg]) ?_
                    exact did_put _ (by rw [hM.sz]; exact (by decide : dst 5 < 93)) (Below.refl _ _) trivial
                  | 6, _ =>
                    cases hop
                    have tg : a.tmps[76]?.getD undef = .bool true := (Array.getD_eq_getD_getElem?).symm.trans (hF ⟨2, .guard⟩ (by simp) rfl)
                    refine op_n rfl (by simp [Region.wanted, yielded, got tg]) ?_
                    exact did_put _ (by rw [hM.sz]; exact (by decide : dst 6 < 93)) (Below.refl _ _) trivial
                  | 7, _ =>
                    cases hop
                    have tg : a.tmps[76]?.getD undef = .bool true := (Array.getD_eq_getD_getElem?).symm.trans (hF ⟨2, .guard⟩ (by simp) rfl)
                    refine op_n rfl (by simp [Region.wanted, yielded, got tg]) ?_
                    exact did_put _ (by rw [hM.sz]; exact (by decide : dst 7 < 93)) (Below.refl _ _) trivial
                  | 8, _ =>
                    cases hop
                    have tg : a.tmps[76]?.getD undef = .bool true := (Array.getD_eq_getD_getElem?).symm.trans (hF ⟨2, .guard⟩ (by simp) rfl)
                    refine op_n rfl (by simp [Region.wanted, yielded, got tg]) ?_
                    exact did_put _ (by rw [hM.sz]; exact (by decide : dst 8 < 93)) (Below.refl _ _) trivial
                  | 9, _ =>
                    cases hop
                    have tg : a.tmps[76]?.getD undef = .bool true := (Array.getD_eq_getD_getElem?).symm.trans (hF ⟨2, .guard⟩ (by simp) rfl)
                    refine op_n rfl (by simp [Region.wanted, yielded, got tg]) ?_
                    exact did_put _ (by rw [hM.sz]; exact (by decide : dst 9 < 93)) (Below.refl _ _) trivial
                  | 10, _ =>
                    cases hop
                    have tg : a.tmps[76]?.getD undef = .bool true := (Array.getD_eq_getD_getElem?).symm.trans (hF ⟨2, .guard⟩ (by simp) rfl)
                    refine op_n rfl (by simp [Region.wanted, yielded, got tg]) ?_
                    exact did_put _ (by rw [hM.sz]; exact (by decide : dst 10 < 93)) (Below.refl _ _) trivial
                  | 11, _ =>
                    cases hop
                    refine op_ rfl rfl ?_
                    have t76 : a.tmps[76]?.getD undef = .bool true := (Array.getD_eq_getD_getElem?).symm.trans (hF ⟨2, .data⟩ (by simp) rfl)
                    have HM := Lib.hid hM
                    clear hM hF
                    go_simp
                    exact did_put _ (by rw [HM.out.sz]; exact (by decide : dst 11 < 93)) (Below.refl _ _) (by exact rfl)
                  | 12, _ =>
                    cases hop
                    refine op_ rfl rfl ?_
                    have t85 : a.tmps[85]?.getD undef = .bool true := (Array.getD_eq_getD_getElem?).symm.trans (hF ⟨11, .data⟩ (by simp) rfl)
                    have HM := Lib.hid hM
                    clear hM hF
                    go_simp
                    exact did_put _ (by rw [HM.out.sz]; exact (by decide : dst 12 < 93)) (Below.refl _ _) (by exact rfl)
                  | 13, _ =>
                    cases hop
                    have tg : a.tmps[86]?.getD undef = .bool true := (Array.getD_eq_getD_getElem?).symm.trans (hF ⟨12, .guard⟩ (by simp) rfl)
                    refine op_g rfl (by simp [Region.wanted, yielded, got tg]) ?_
                    clear tg
                    have t1 : a.tmps[1]?.getD undef = .pointer (some ⟨w.heap.size, 0, none⟩) := (Array.getD_eq_getD_getElem?).symm.trans ((hM.oth 1 (by intro i hi; show 74 + i ≠ _; omega)).trans rfl)
                    obtain ⟨f0, f1, f2, f3, g0, g1, g2, g3, g4⟩ := KC.out W1 hM.bel
                    have HM := Lib.hid hM
                    clear hM hF
                    go_simp
                    exact did_put _ (by rw [HM.out.sz]; exact (by decide : dst 13 < 93)) (Below.refl _ _) (by exact rfl)
                  | 14, _ =>
                    cases hop
                    have tg : a.tmps[86]?.getD undef = .bool true := (Array.getD_eq_getD_getElem?).symm.trans (hF ⟨12, .guard⟩ (by simp) rfl)
                    refine op_g rfl (by simp [Region.wanted, yielded, got tg]) ?_
                    clear tg
                    have t8 : a.tmps[8]?.getD undef = .pointer (some ⟨wr.heap.size, 0, none⟩) := (Array.getD_eq_getD_getElem?).symm.trans ((hM.oth 8 (by intro i hi; show 74 + i ≠ _; omega)).trans rfl)
                    obtain ⟨f0, f1, f2, f3, g0, g1, g2, g3, g4⟩ := KC.out W1 hM.bel
                    have HM := Lib.hid hM
                    clear hM hF
                    go_simp
                    exact did_put _ (by rw [HM.out.sz]; exact (by decide : dst 14 < 93)) (Below.refl _ _) (by exact rfl)
                  | 15, _ =>
                    cases hop
                    have tg : a.tmps[86]?.getD undef = .bool true := (Array.getD_eq_getD_getElem?).symm.trans (hF ⟨12, .guard⟩ (by simp) rfl)
                    refine op_g rfl (by simp [Region.wanted, yielded, got tg]) ?_
                    clear tg
                    have t87 : a.tmps[87]?.getD undef = .agg #[.slice p0 o.ws.length q0, .slice p1 o.ds.length q1, .slice p2 o.ss.length q2, .slice (some ⟨rb, ro, none⟩) o.rs.length q3] := (Array.getD_eq_getD_getElem?).symm.trans (hF ⟨13, .data⟩ (by simp) rfl)
                    have t88 : a.tmps[88]?.getD undef = .agg #[.int .i64 r.sect, .int .i64 r.place, .int .i64 r.kind, .int .i64 r.sym, .int .i64 r.add] := (Array.getD_eq_getD_getElem?).symm.trans (hF ⟨14, .data⟩ (by simp) rfl)
                    have HM := Lib.hid hM
                    have cc := KR.out W1 hM.bel
                    clear hM hF
                    go_simp
                    (with_reducible refine cc.mono ?_)
                    rintro e W2 ⟨rfl, hb⟩
                    exact did_put _ (by rw [HM.out.sz]; exact (by decide : dst 15 < 93)) hb (by exact rfl)
                  | 16, _ =>
                    cases hop
                    refine op_ rfl rfl ?_
                    have t86 : a.tmps[86]?.getD undef = .bool true := (Array.getD_eq_getD_getElem?).symm.trans (hF ⟨12, .data⟩ (by simp) rfl)
                    have t89 : a.tmps[89]?.getD undef = .bool false := (Array.getD_eq_getD_getElem?).symm.trans (hF ⟨15, .data⟩ (by simp) rfl)
                    have HM := Lib.hid hM
                    clear hM hF
                    go_simp
                    exact did_put _ (by rw [HM.out.sz]; exact (by decide : dst 16 < 93)) (Below.refl _ _) (by exact rfl)
                  | 17, _ =>
                    cases hop
                    refine op_ rfl rfl ?_
                    have t90 : a.tmps[90]?.getD undef = .bool false := (Array.getD_eq_getD_getElem?).symm.trans (hF ⟨16, .data⟩ (by simp) rfl)
                    have HM := Lib.hid hM
                    clear hM hF
                    go_simp
                    (with_reducible refine (demand_no _).mono ?_)
                    rintro e W2 ⟨rfl, rfl⟩
                    exact ⟨HM.out.d, (⟨by rw [HC.out]; rfl, HBL.out.trans (((box0 wr _).trans (HM.out.bel.mono (by simp))).mono HBL.out.size)⟩ : CkEnd (chk o) w thrown _)⟩
                  | i + 18, h => exact absurd h (by omega)
              case done =>
                intro u W1 hbz hF
                exact (hF 17 (by decide)).elim
          · obtain ⟨j, hj⟩ : ∃ j : Nat, k = j + 1 := ⟨k - 1, by omega⟩
            have hjl : j < o.rs.length := by omega
            have hq0 := hrow j _ (List.getElem?_eq_getElem hjl)
            obtain ⟨e0, e1, e2, e3, e4⟩ := hq0.below (hbl.mono hn) hrb
            have HA := Lib.hid (show relAt o.ws o.ds.length o.ss.length o.rs k = (riseB o.rs[j] o.rs[k] && relOk o.ws o.ds.length o.ss.length o.rs[k]) by subst hj; exact relAt_succ hlt)
            have HS := Lib.hid (show relsTo o.ws o.ds.length o.ss.length o.rs (k + 1) = relAt o.ws o.ds.length o.ss.length o.rs k by rw [relsTo_succ, hq.out]; rfl)
            have HWR := Lib.hid (show IntKind.i64.wrap ((k : Int) - 1) = (j : Int) by rw [IntWalk.i64_in _ (by omega)]; omega)
            have hz : ((k : Int) == 0) = false := by simpa using hz0
            have hj0 : (0 : Int) ≤ (j : Int) := by omega
            have HJ := Lib.hid hj
            clear hrow hh hq hbx hbl hr0 hz0 hq0 hj
            generalize o.rs[k] = r at *
            generalize o.rs[j] = t at *
            have cr := fun w' => rise_ t r w'
            cases hr : riseB t r with
            | true =>
              rw [hr] at cr HA
              cases hp : relOk o.ws o.ds.length o.ss.length r with
              | true =>
                have HC := Lib.hid (show relsTo o.ws o.ds.length o.ss.length o.rs (k + 1) = true by rw [HS.out, HA.out, hp]; rfl)
                clear hr
                go_upto_region 14 with (fail)
                have KC := Lib.hid (fun (W' : World) (hb : Below (wr.alloc (.cells #[.int .i64 r.sect, .int .i64 r.place, .int .i64 r.kind, .int .i64 r.sym, .int .i64 r.add] 59)).heap.size (wr.alloc (.cells #[.int .i64 r.sect, .int .i64 r.place, .int .i64 r.kind, .int .i64 r.sym, .int .i64 r.add] 59)) W') =>
                  (⟨Lib.cell_of_heap ((hb.block _ (by simp; omega)).trans ((Lib.alloc_old _ _ _ hN).trans HBX.out)) 0, Lib.cell_of_heap ((hb.block _ (by simp; omega)).trans ((Lib.alloc_old _ _ _ hN).trans HBX.out)) 1, Lib.cell_of_heap ((hb.block _ (by simp; omega)).trans ((Lib.alloc_old _ _ _ hN).trans HBX.out)) 2, Lib.cell_of_heap ((hb.block _ (by simp; omega)).trans ((Lib.alloc_old _ _ _ hN).trans HBX.out)) 3,
                   Lib.cell_of_heap ((hb.block _ (by simp)).trans (heap_alloc_new _ _)) 0, Lib.cell_of_heap ((hb.block _ (by simp)).trans (heap_alloc_new _ _)) 1, Lib.cell_of_heap ((hb.block _ (by simp)).trans (heap_alloc_new _ _)) 2, Lib.cell_of_heap ((hb.block _ (by simp)).trans (heap_alloc_new _ _)) 3, Lib.cell_of_heap ((hb.block _ (by simp)).trans (heap_alloc_new _ _)) 4,
                   (hb.cell (p := ⟨rb, ro + j * 5, none⟩) (by simp; omega)).trans ((World.cell?_alloc_lt _ _ _ hrw).trans e0), (hb.cell (p := ⟨rb, ro + j * 5 + 1, none⟩) (by simp; omega)).trans ((World.cell?_alloc_lt _ _ _ hrw).trans e1), (hb.cell (p := ⟨rb, ro + j * 5 + 2, none⟩) (by simp; omega)).trans ((World.cell?_alloc_lt _ _ _ hrw).trans e2), (hb.cell (p := ⟨rb, ro + j * 5 + 3, none⟩) (by simp; omega)).trans ((World.cell?_alloc_lt _ _ _ hrw).trans e3), (hb.cell (p := ⟨rb, ro + j * 5 + 4, none⟩) (by simp; omega)).trans ((World.cell?_alloc_lt _ _ _ hrw).trans e4)⟩ :
                  W'.cell? ⟨w.heap.size, 0, none⟩ = some (.slice p0 o.ws.length q0) ∧ W'.cell? ⟨w.heap.size, 1, none⟩ = some (.slice p1 o.ds.length q1) ∧ W'.cell? ⟨w.heap.size, 2, none⟩ = some (.slice p2 o.ss.length q2) ∧ W'.cell? ⟨w.heap.size, 3, none⟩ = some (.slice (some ⟨rb, ro, none⟩) o.rs.length q3) ∧
                  W'.cell? ⟨wr.heap.size, 0, none⟩ = some (.int .i64 r.sect) ∧ W'.cell? ⟨wr.heap.size, 1, none⟩ = some (.int .i64 r.place) ∧ W'.cell? ⟨wr.heap.size, 2, none⟩ = some (.int .i64 r.kind) ∧ W'.cell? ⟨wr.heap.size, 3, none⟩ = some (.int .i64 r.sym) ∧ W'.cell? ⟨wr.heap.size, 4, none⟩ = some (.int .i64 r.add) ∧
                  W'.cell? ⟨rb, ro + j * 5, none⟩ = some (.int .i64 t.sect) ∧ W'.cell? ⟨rb, ro + j * 5 + 1, none⟩ = some (.int .i64 t.place) ∧ W'.cell? ⟨rb, ro + j * 5 + 2, none⟩ = some (.int .i64 t.kind) ∧ W'.cell? ⟨rb, ro + j * 5 + 3, none⟩ = some (.int .i64 t.sym) ∧ W'.cell? ⟨rb, ro + j * 5 + 4, none⟩ = some (.int .i64 t.add)))
                have KR := Lib.hid (fun (W' : World) (hb : Below (wr.alloc (.cells #[.int .i64 r.sect, .int .i64 r.place, .int .i64 r.kind, .int .i64 r.sym, .int .i64 r.add] 59)).heap.size (wr.alloc (.cells #[.int .i64 r.sect, .int .i64 r.place, .int .i64 r.kind, .int .i64 r.sym, .int .i64 r.add] 59)) W') =>
                  relocation_ (n₀ := n₀) (nd := o.ds.length) (ns := o.ss.length) (n3 := o.rs.length) (q1 := q1) (q2 := q2) (q3 := q3) (p1 := p1) (p2 := p2) (p3 := some ⟨rb, ro, none⟩) r W' HW.out.ws (HO.out.below ((HBL.out.trans (((box0 wr _).trans (hb.mono (by simp))).mono HBL.out.size)).mono hn)).ws (Nat.le_trans hn (Nat.le_trans hsz (by have := hb.size; simp only [World.size_alloc] at this; omega))) (by unfold maxLen; omega) (by unfold maxLen; omega))
                rw [hp] at KR
                clear HR0 hrw s0 s1 s2 s3 s4
                refine facts2_ (n := 18) (dst := dst) (F := Fv (fun i => match i with | 0 => some (some (.int .i64 (k : Int))) | 1 => some (some (.bool false)) | 2 => some (some (.bool false)) | 3 => some (some (.pointer (some ⟨w.heap.size, 3, none⟩))) | 4 => some (some (.slice (some ⟨rb, ro, none⟩) o.rs.length q3)) | 5 => some (some (.int .i64 (k : Int))) | 6 => some (some (.int .i64 (j : Int))) | 7 => some (some (.pointer (some ⟨rb, ro + j * 5, none⟩))) | 8 => some (some (.agg #[.int .i64 t.sect, .int .i64 t.place, .int .i64 t.kind, .int .i64 t.sym, .int .i64 t.add])) | 9 => some (some (.agg #[.int .i64 r.sect, .int .i64 r.place, .int .i64 r.kind, .int .i64 r.sym, .int .i64 r.add])) | 10 => some (some (.bool true)) | 11 => some (some (.bool true)) | 12 => some (some (.bool true)) | 13 => some (some (.agg #[.slice p0 o.ws.length q0, .slice p1 o.ds.length q1, .slice p2 o.ss.length q2, .slice (some ⟨rb, ro, none⟩) o.rs.length q3])) | 14 => some (some (.agg #[.int .i64 r.sect, .int .i64 r.place, .int .i64 r.kind, .int .i64 r.sym, .int .i64 r.add])) | 15 => some (some (.bool true)) | 16 => some (some (.bool true)) | 17 => some (some (.tuple #[])) | _ => none)) (by kernel_rfl) (ahead_of (by kernel_rfl)) rfl dst_inj (fun _ _ _ _ h _ => h) ?step ?done
                case step =>
                  intro i op hop a W1 hM hF
                  have hi : i < 18 := (Array.getElem?_eq_some_iff.1 hop).1
                  match i, hi with
                    | 0, _ =>
                      cases hop
                      refine op_ rfl rfl ?_
                      have t7 : a.tmps[7]?.getD undef = .int .i64 (k : Int) := (Array.getD_eq_getD_getElem?).symm.trans ((hM.oth 7 (by intro i hi; show 74 + i ≠ _; omega)).trans rfl)
                      have HM := Lib.hid hM
                      clear hM hF
                      go_simp
                      exact did_put _ (by rw [HM.out.sz]; exact (by decide : dst 0 < 93)) (Below.refl _ _) (by exact rfl)
                    | 1, _ =>
                      cases hop
                      refine op_ rfl rfl ?_
                      have t74 : a.tmps[74]?.getD undef = .int .i64 (k : Int) := (Array.getD_eq_getD_getElem?).symm.trans (hF ⟨0, .data⟩ (by simp) rfl)
                      have HM := Lib.hid hM
                      clear hM hF
                      go_simp
                      exact did_put _ (by rw [HM.out.sz]; exact (by decide : dst 1 < 93)) (Below.refl _ _) (by exact rfl)
                    | 2, _ =>
                      cases hop
                      refine op_ rfl rfl ?_
                      have t75 : a.tmps[75]?.getD undef = .bool false := (Array.getD_eq_getD_getElem?).symm.trans (hF ⟨1, .data⟩ (by simp) rfl)
                      have HM := Lib.hid hM
                      clear hM hF
                      go_simp
                      exact did_put _ (by rw [HM.out.sz]; exact (by decide : dst 2 < 93)) (Below.refl _ _) (by exact rfl)
                    | 3, _ =>
                      cases hop
                      have tg : a.tmps[76]?.getD undef = .bool false := (Array.getD_eq_getD_getElem?).symm.trans (hF ⟨2, .guard⟩ (by simp) rfl)
                      refine op_g rfl (by simp [Region.wanted, yielded, got tg]) ?_
                      clear tg
                      have t1 : a.tmps[1]?.getD undef = .pointer (some ⟨w.heap.size, 0, none⟩) := (Array.getD_eq_getD_getElem?).symm.trans ((hM.oth 1 (by intro i hi; show 74 + i ≠ _; omega)).trans rfl)
                      have HM := Lib.hid hM
                      clear hM hF
                      go_simp
                      exact did_put _ (by rw [HM.out.sz]; exact (by decide : dst 3 < 93)) (Below.refl _ _) (by exact rfl)
                    | 4, _ =>
                      cases hop
                      have tg : a.tmps[76]?.getD undef = .bool false := (Array.getD_eq_getD_getElem?).symm.trans (hF ⟨2, .guard⟩ (by simp) rfl)
                      refine op_g rfl (by simp [Region.wanted, yielded, got tg]) ?_
                      clear tg
                      have t77 : a.tmps[77]?.getD undef = .pointer (some ⟨w.heap.size, 3, none⟩) := (Array.getD_eq_getD_getElem?).symm.trans (hF ⟨3, .data⟩ (by simp) rfl)
                      obtain ⟨f0, f1, f2, f3, g0, g1, g2, g3, g4, e0, e1, e2, e3, e4⟩ := KC.out W1 hM.bel
                      have HM := Lib.hid hM
                      clear hM hF
                      go_simp
                      exact did_put _ (by rw [HM.out.sz]; exact (by decide : dst 4 < 93)) (Below.refl _ _) (by exact rfl)
                    | 5, _ =>
                      cases hop
                      have tg : a.tmps[76]?.getD undef = .bool false := (Array.getD_eq_getD_getElem?).symm.trans (hF ⟨2, .guard⟩ (by simp) rfl)
                      refine op_g rfl (by simp [Region.wanted, yielded, got tg]) ?_
                      clear tg
                      have t7 : a.tmps[7]?.getD undef = .int .i64 (k : Int) := (Array.getD_eq_getD_getElem?).symm.trans ((hM.oth 7 (by intro i hi; show 74 + i ≠ _; omega)).trans rfl)
                      have HM := Lib.hid hM
                      clear hM hF
                      go_simp
                      exact did_put _ (by rw [HM.out.sz]; exact (by decide : dst 5 < 93)) (Below.refl _ _) (by exact rfl)
                    | 6, _ =>
                      cases hop
                      have tg : a.tmps[76]?.getD undef = .bool false := (Array.getD_eq_getD_getElem?).symm.trans (hF ⟨2, .guard⟩ (by simp) rfl)
                      refine op_g rfl (by simp [Region.wanted, yielded, got tg]) ?_
                      clear tg
                      have t79 : a.tmps[79]?.getD undef = .int .i64 (k : Int) := (Array.getD_eq_getD_getElem?).symm.trans (hF ⟨5, .data⟩ (by simp) rfl)
                      have HM := Lib.hid hM
                      clear hM hF
                      go_simp
                      exact did_put _ (by rw [HM.out.sz]; exact (by decide : dst 6 < 93)) (Below.refl _ _) (by show Value.int IntKind.i64 (IntKind.i64.wrap ((k : Int) - 1)) = .int .i64 (j : Int); rw [HWR.out])
                    | 7, _ =>
                      cases hop
                      have tg : a.tmps[76]?.getD undef = .bool false := (Array.getD_eq_getD_getElem?).symm.trans (hF ⟨2, .guard⟩ (by simp) rfl)
                      refine op_g rfl (by simp [Region.wanted, yielded, got tg]) ?_
                      clear tg
                      have t78 : a.tmps[78]?.getD undef = .slice (some ⟨rb, ro, none⟩) o.rs.length q3 := (Array.getD_eq_getD_getElem?).symm.trans (hF ⟨4, .data⟩ (by simp) rfl)
                      have t80 : a.tmps[80]?.getD undef = .int .i64 (j : Int) := (Array.getD_eq_getD_getElem?).symm.trans (hF ⟨6, .data⟩ (by simp) rfl)
                      have HM := Lib.hid hM
                      clear hM hF
                      go_simp
                      exact did_put _ (by rw [HM.out.sz]; exact (by decide : dst 7 < 93)) (Below.refl _ _) (by exact rfl)
                    | 8, _ =>
                      cases hop
                      have tg : a.tmps[76]?.getD undef = .bool false := (Array.getD_eq_getD_getElem?).symm.trans (hF ⟨2, .guard⟩ (by simp) rfl)
                      refine op_g rfl (by simp [Region.wanted, yielded, got tg]) ?_
                      clear tg
                      have t81 : a.tmps[81]?.getD undef = .pointer (some ⟨rb, ro + j * 5, none⟩) := (Array.getD_eq_getD_getElem?).symm.trans (hF ⟨7, .data⟩ (by simp) rfl)
                      obtain ⟨f0, f1, f2, f3, g0, g1, g2, g3, g4, e0, e1, e2, e3, e4⟩ := KC.out W1 hM.bel
                      have HM := Lib.hid hM
                      clear hM hF
                      go_simp
                      exact did_put _ (by rw [HM.out.sz]; exact (by decide : dst 8 < 93)) (Below.refl _ _) (by exact rfl)
                    | 9, _ =>
                      cases hop
                      have tg : a.tmps[76]?.getD undef = .bool false := (Array.getD_eq_getD_getElem?).symm.trans (hF ⟨2, .guard⟩ (by simp) rfl)
                      refine op_g rfl (by simp [Region.wanted, yielded, got tg]) ?_
                      clear tg
                      have t8 : a.tmps[8]?.getD undef = .pointer (some ⟨wr.heap.size, 0, none⟩) := (Array.getD_eq_getD_getElem?).symm.trans ((hM.oth 8 (by intro i hi; show 74 + i ≠ _; omega)).trans rfl)
                      obtain ⟨f0, f1, f2, f3, g0, g1, g2, g3, g4, e0, e1, e2, e3, e4⟩ := KC.out W1 hM.bel
                      have HM := Lib.hid hM
                      clear hM hF
                      go_simp
                      exact did_put _ (by rw [HM.out.sz]; exact (by decide : dst 9 < 93)) (Below.refl _ _) (by exact rfl)
                    | 10, _ =>
                      cases hop
                      have tg : a.tmps[76]?.getD undef = .bool false := (Array.getD_eq_getD_getElem?).symm.trans (hF ⟨2, .guard⟩ (by simp) rfl)
                      refine op_g rfl (by simp [Region.wanted, yielded, got tg]) ?_
                      clear tg
                      have t82 : a.tmps[82]?.getD undef = .agg #[.int .i64 t.sect, .int .i64 t.place, .int .i64 t.kind, .int .i64 t.sym, .int .i64 t.add] := (Array.getD_eq_getD_getElem?).symm.trans (hF ⟨8, .data⟩ (by simp) rfl)
                      have t83 : a.tmps[83]?.getD undef = .agg #[.int .i64 r.sect, .int .i64 r.place, .int .i64 r.kind, .int .i64 r.sym, .int .i64 r.add] := (Array.getD_eq_getD_getElem?).symm.trans (hF ⟨9, .data⟩ (by simp) rfl)
                      have HM := Lib.hid hM
                      clear hM hF
                      go_simp
                      (with_reducible refine (cr _).mono ?_)
                      rintro e W2 ⟨rfl, hb⟩
                      exact did_put _ (by rw [HM.out.sz]; exact (by decide : dst 10 < 93)) hb (by exact rfl)
                    | 11, _ =>
                      cases hop
                      refine op_ rfl rfl ?_
                      have t76 : a.tmps[76]?.getD undef = .bool false := (Array.getD_eq_getD_getElem?).symm.trans (hF ⟨2, .data⟩ (by simp) rfl)
                      have t84 : a.tmps[84]?.getD undef = .bool true := (Array.getD_eq_getD_getElem?).symm.trans (hF ⟨10, .data⟩ (by simp) rfl)
                      have HM := Lib.hid hM
                      clear hM hF
                      go_simp
                      exact did_put _ (by rw [HM.out.sz]; exact (by decide : dst 11 < 93)) (Below.refl _ _) (by exact rfl)
                    | 12, _ =>
                      cases hop
                      refine op_ rfl rfl ?_
                      have t85 : a.tmps[85]?.getD undef = .bool true := (Array.getD_eq_getD_getElem?).symm.trans (hF ⟨11, .data⟩ (by simp) rfl)
                      have HM := Lib.hid hM
                      clear hM hF
                      go_simp
                      exact did_put _ (by rw [HM.out.sz]; exact (by decide : dst 12 < 93)) (Below.refl _ _) (by exact rfl)
                    | 13, _ =>
                      cases hop
                      have tg : a.tmps[86]?.getD undef = .bool true := (Array.getD_eq_getD_getElem?).symm.trans (hF ⟨12, .guard⟩ (by simp) rfl)
                      refine op_g rfl (by simp [Region.wanted, yielded, got tg]) ?_
                      clear tg
                      have t1 : a.tmps[1]?.getD undef = .pointer (some ⟨w.heap.size, 0, none⟩) := (Array.getD_eq_getD_getElem?).symm.trans ((hM.oth 1 (by intro i hi; show 74 + i ≠ _; omega)).trans rfl)
                      obtain ⟨f0, f1, f2, f3, g0, g1, g2, g3, g4, e0, e1, e2, e3, e4⟩ := KC.out W1 hM.bel
                      have HM := Lib.hid hM
                      clear hM hF
                      go_simp
                      exact did_put _ (by rw [HM.out.sz]; exact (by decide : dst 13 < 93)) (Below.refl _ _) (by exact rfl)
                    | 14, _ =>
                      cases hop
                      have tg : a.tmps[86]?.getD undef = .bool true := (Array.getD_eq_getD_getElem?).symm.trans (hF ⟨12, .guard⟩ (by simp) rfl)
                      refine op_g rfl (by simp [Region.wanted, yielded, got tg]) ?_
                      clear tg
                      have t8 : a.tmps[8]?.getD undef = .pointer (some ⟨wr.heap.size, 0, none⟩) := (Array.getD_eq_getD_getElem?).symm.trans ((hM.oth 8 (by intro i hi; show 74 + i ≠ _; omega)).trans rfl)
                      obtain ⟨f0, f1, f2, f3, g0, g1, g2, g3, g4, e0, e1, e2, e3, e4⟩ := KC.out W1 hM.bel
                      have HM := Lib.hid hM
                      clear hM hF
                      go_simp
                      exact did_put _ (by rw [HM.out.sz]; exact (by decide : dst 14 < 93)) (Below.refl _ _) (by exact rfl)
                    | 15, _ =>
                      cases hop
                      have tg : a.tmps[86]?.getD undef = .bool true := (Array.getD_eq_getD_getElem?).symm.trans (hF ⟨12, .guard⟩ (by simp) rfl)
                      refine op_g rfl (by simp [Region.wanted, yielded, got tg]) ?_
                      clear tg
                      have t87 : a.tmps[87]?.getD undef = .agg #[.slice p0 o.ws.length q0, .slice p1 o.ds.length q1, .slice p2 o.ss.length q2, .slice (some ⟨rb, ro, none⟩) o.rs.length q3] := (Array.getD_eq_getD_getElem?).symm.trans (hF ⟨13, .data⟩ (by simp) rfl)
                      have t88 : a.tmps[88]?.getD undef = .agg #[.int .i64 r.sect, .int .i64 r.place, .int .i64 r.kind, .int .i64 r.sym, .int .i64 r.add] := (Array.getD_eq_getD_getElem?).symm.trans (hF ⟨14, .data⟩ (by simp) rfl)
                      have HM := Lib.hid hM
                      have cc := KR.out W1 hM.bel
                      clear hM hF
                      go_simp
                      (with_reducible refine cc.mono ?_)
                      rintro e W2 ⟨rfl, hb⟩
                      exact did_put _ (by rw [HM.out.sz]; exact (by decide : dst 15 < 93)) hb (by exact rfl)
                    | 16, _ =>
                      cases hop
                      refine op_ rfl rfl ?_
                      have t86 : a.tmps[86]?.getD undef = .bool true := (Array.getD_eq_getD_getElem?).symm.trans (hF ⟨12, .data⟩ (by simp) rfl)
                      have t89 : a.tmps[89]?.getD undef = .bool true := (Array.getD_eq_getD_getElem?).symm.trans (hF ⟨15, .data⟩ (by simp) rfl)
                      have HM := Lib.hid hM
                      clear hM hF
                      go_simp
                      exact did_put _ (by rw [HM.out.sz]; exact (by decide : dst 16 < 93)) (Below.refl _ _) (by exact rfl)
                    | 17, _ =>
                      cases hop
                      refine op_ rfl rfl ?_
                      have t90 : a.tmps[90]?.getD undef = .bool true := (Array.getD_eq_getD_getElem?).symm.trans (hF ⟨16, .data⟩ (by simp) rfl)
                      have HM := Lib.hid hM
                      clear hM hF
                      go_simp
                      (with_reducible refine (demand_yes _).mono ?_)
                      rintro e W2 ⟨rfl, rfl⟩
                      exact did_put _ (by rw [HM.out.sz]; exact (by decide : dst 17 < 93)) (Below.refl _ _) (by exact rfl)
                    | i + 18, h => exact absurd h (by omega)
                case done =>
                  intro u W1 hbz hF
                  have u0 : u 0 = .int .i64 (k : Int) := hF 0 (by decide)
                  have u1 : u 1 = .bool false := hF 1 (by decide)
                  have u2 : u 2 = .bool false := hF 2 (by decide)
                  have u3 : u 3 = .pointer (some ⟨w.heap.size, 3, none⟩) := hF 3 (by decide)
                  have u4 : u 4 = .slice (some ⟨rb, ro, none⟩) o.rs.length q3 := hF 4 (by decide)
                  have u5 : u 5 = .int .i64 (k : Int) := hF 5 (by decide)
                  have u6 : u 6 = .int .i64 (j : Int) := hF 6 (by decide)
                  have u7 : u 7 = .pointer (some ⟨rb, ro + j * 5, none⟩) := hF 7 (by decide)
                  have u8 : u 8 = .agg #[.int .i64 t.sect, .int .i64 t.place, .int .i64 t.kind, .int .i64 t.sym, .int .i64 t.add] := hF 8 (by decide)
                  have u9 : u 9 = .agg #[.int .i64 r.sect, .int .i64 r.place, .int .i64 r.kind, .int .i64 r.sym, .int .i64 r.add] := hF 9 (by decide)
                  have u10 : u 10 = .bool true := hF 10 (by decide)
                  have u11 : u 11 = .bool true := hF 11 (by decide)
                  have u12 : u 12 = .bool true := hF 12 (by decide)
                  have u13 : u 13 = .agg #[.slice p0 o.ws.length q0, .slice p1 o.ds.length q1, .slice p2 o.ss.length q2, .slice (some ⟨rb, ro, none⟩) o.rs.length q3] := hF 13 (by decide)
                  have u14 : u 14 = .agg #[.int .i64 r.sect, .int .i64 r.place, .int .i64 r.kind, .int .i64 r.sym, .int .i64 r.add] := hF 14 (by decide)
                  have u15 : u 15 = .bool true := hF 15 (by decide)
                  have u16 : u 16 = .bool true := hF 16 (by decide)
                  have u17 : u 17 = .tuple #[] := hF 17 (by decide)
                  simp only [putAll, dst, Nat.reduceAdd, u0, u1, u2, u3, u4, u5, u6, u7, u8, u9, u10, u11, u12, u13, u14, u15, u16, u17]
                  clear hF u0 u1 u2 u3 u4 u5 u6 u7 u8 u9 u10 u11 u12 u13 u14 u15 u16 u17
                  go_wp2_with fail
                  go_roundw
                  case rel =>
                    exact ⟨k + 1, by omega, by go_num, HC, HBL.out.trans (((box0 wr _).trans (hbz.mono (by simp))).mono HBL.out.size), (hbz.block _ (by simp; omega)).trans ((Lib.alloc_old _ _ _ hN).trans HBX.out)⟩
                  case measure => simp [intOf]; omega
              | false =>
                have HC := Lib.hid (show chk o = false from chk_rel HLT.out (by rw [HA.out, hp]; rfl))
                clear hr
                go_upto_region 14 with (fail)
                have KC := Lib.hid (fun (W' : World) (hb : Below (wr.alloc (.cells #[.int .i64 r.sect, .int .i64 r.place, .int .i64 r.kind, .int .i64 r.sym, .int .i64 r.add] 59)).heap.size (wr.alloc (.cells #[.int .i64 r.sect, .int .i64 r.place, .int .i64 r.kind, .int .i64 r.sym, .int .i64 r.add] 59)) W') =>
                  (⟨Lib.cell_of_heap ((hb.block _ (by simp; omega)).trans ((Lib.alloc_old _ _ _ hN).trans HBX.out)) 0, Lib.cell_of_heap ((hb.block _ (by simp; omega)).trans ((Lib.alloc_old _ _ _ hN).trans HBX.out)) 1, Lib.cell_of_heap ((hb.block _ (by simp; omega)).trans ((Lib.alloc_old _ _ _ hN).trans HBX.out)) 2, Lib.cell_of_heap ((hb.block _ (by simp; omega)).trans ((Lib.alloc_old _ _ _ hN).trans HBX.out)) 3,
                   Lib.cell_of_heap ((hb.block _ (by simp)).trans (heap_alloc_new _ _)) 0, Lib.cell_of_heap ((hb.block _ (by simp)).trans (heap_alloc_new _ _)) 1, Lib.cell_of_heap ((hb.block _ (by simp)).trans (heap_alloc_new _ _)) 2, Lib.cell_of_heap ((hb.block _ (by simp)).trans (heap_alloc_new _ _)) 3, Lib.cell_of_heap ((hb.block _ (by simp)).trans (heap_alloc_new _ _)) 4,
                   (hb.cell (p := ⟨rb, ro + j * 5, none⟩) (by simp; omega)).trans ((World.cell?_alloc_lt _ _ _ hrw).trans e0), (hb.cell (p := ⟨rb, ro + j * 5 + 1, none⟩) (by simp; omega)).trans ((World.cell?_alloc_lt _ _ _ hrw).trans e1), (hb.cell (p := ⟨rb, ro + j * 5 + 2, none⟩) (by simp; omega)).trans ((World.cell?_alloc_lt _ _ _ hrw).trans e2), (hb.cell (p := ⟨rb, ro + j * 5 + 3, none⟩) (by simp; omega)).trans ((World.cell?_alloc_lt _ _ _ hrw).trans e3), (hb.cell (p := ⟨rb, ro + j * 5 + 4, none⟩) (by simp; omega)).trans ((World.cell?_alloc_lt _ _ _ hrw).trans e4)⟩ :
                  W'.cell? ⟨w.heap.size, 0, none⟩ = some (.slice p0 o.ws.length q0) ∧ W'.cell? ⟨w.heap.size, 1, none⟩ = some (.slice p1 o.ds.length q1) ∧ W'.cell? ⟨w.heap.size, 2, none⟩ = some (.slice p2 o.ss.length q2) ∧ W'.cell? ⟨w.heap.size, 3, none⟩ = some (.slice (some ⟨rb, ro, none⟩) o.rs.length q3) ∧
                  W'.cell? ⟨wr.heap.size, 0, none⟩ = some (.int .i64 r.sect) ∧ W'.cell? ⟨wr.heap.size, 1, none⟩ = some (.int .i64 r.place) ∧ W'.cell? ⟨wr.heap.size, 2, none⟩ = some (.int .i64 r.kind) ∧ W'.cell? ⟨wr.heap.size, 3, none⟩ = some (.int .i64 r.sym) ∧ W'.cell? ⟨wr.heap.size, 4, none⟩ = some (.int .i64 r.add) ∧
                  W'.cell? ⟨rb, ro + j * 5, none⟩ = some (.int .i64 t.sect) ∧ W'.cell? ⟨rb, ro + j * 5 + 1, none⟩ = some (.int .i64 t.place) ∧ W'.cell? ⟨rb, ro + j * 5 + 2, none⟩ = some (.int .i64 t.kind) ∧ W'.cell? ⟨rb, ro + j * 5 + 3, none⟩ = some (.int .i64 t.sym) ∧ W'.cell? ⟨rb, ro + j * 5 + 4, none⟩ = some (.int .i64 t.add)))
                have KR := Lib.hid (fun (W' : World) (hb : Below (wr.alloc (.cells #[.int .i64 r.sect, .int .i64 r.place, .int .i64 r.kind, .int .i64 r.sym, .int .i64 r.add] 59)).heap.size (wr.alloc (.cells #[.int .i64 r.sect, .int .i64 r.place, .int .i64 r.kind, .int .i64 r.sym, .int .i64 r.add] 59)) W') =>
                  relocation_ (n₀ := n₀) (nd := o.ds.length) (ns := o.ss.length) (n3 := o.rs.length) (q1 := q1) (q2 := q2) (q3 := q3) (p1 := p1) (p2 := p2) (p3 := some ⟨rb, ro, none⟩) r W' HW.out.ws (HO.out.below ((HBL.out.trans (((box0 wr _).trans (hb.mono (by simp))).mono HBL.out.size)).mono hn)).ws (Nat.le_trans hn (Nat.le_trans hsz (by have := hb.size; simp only [World.size_alloc] at this; omega))) (by unfold maxLen; omega) (by unfold maxLen; omega))
                rw [hp] at KR
                clear HR0 hrw s0 s1 s2 s3 s4
                refine facts2_ (n := 18) (dst := dst) (F := Fv (fun i => match i with | 0 => some (some (.int .i64 (k : Int))) | 1 => some (some (.bool false)) | 2 => some (some (.bool false)) | 3 => some (some (.pointer (some ⟨w.heap.size, 3, none⟩))) | 4 => some (some (.slice (some ⟨rb, ro, none⟩) o.rs.length q3)) | 5 => some (some (.int .i64 (k : Int))) | 6 => some (some (.int .i64 (j : Int))) | 7 => some (some (.pointer (some ⟨rb, ro + j * 5, none⟩))) | 8 => some (some (.agg #[.int .i64 t.sect, .int .i64 t.place, .int .i64 t.kind, .int .i64 t.sym, .int .i64 t.add])) | 9 => some (some (.agg #[.int .i64 r.sect, .int .i64 r.place, .int .i64 r.kind, .int .i64 r.sym, .int .i64 r.add])) | 10 => some (some (.bool true)) | 11 => some (some (.bool true)) | 12 => some (some (.bool true)) | 13 => some (some (.agg #[.slice p0 o.ws.length q0, .slice p1 o.ds.length q1, .slice p2 o.ss.length q2, .slice (some ⟨rb, ro, none⟩) o.rs.length q3])) | 14 => some (some (.agg #[.int .i64 r.sect, .int .i64 r.place, .int .i64 r.kind, .int .i64 r.sym, .int .i64 r.add])) | 15 => some (some (.bool false)) | 16 => some (some (.bool false)) | 17 => some (none) | _ => none)) (by kernel_rfl) (ahead_of (by kernel_rfl)) rfl dst_inj (fun _ _ _ _ h _ => h) ?step ?done
                case step =>
                  intro i op hop a W1 hM hF
                  have hi : i < 18 := (Array.getElem?_eq_some_iff.1 hop).1
                  match i, hi with
                    | 0, _ =>
                      cases hop
                      refine op_ rfl rfl ?_
                      have t7 : a.tmps[7]?.getD undef = .int .i64 (k : Int) := (Array.getD_eq_getD_getElem?).symm.trans ((hM.oth 7 (by intro i hi; show 74 + i ≠ _; omega)).trans rfl)
                      have HM := Lib.hid hM
                      clear hM hF
                      go_simp
                      exact did_put _ (by rw [HM.out.sz]; exact (by decide : dst 0 < 93)) (Below.refl _ _) (by exact rfl)
                    | 1, _ =>
                      cases hop
                      refine op_ rfl rfl ?_
                      have t74 : a.tmps[74]?.getD undef = .int .i64 (k : Int) := (Array.getD_eq_getD_getElem?).symm.trans (hF ⟨0, .data⟩ (by simp) rfl)
                      have HM := Lib.hid hM
                      clear hM hF
                      go_simp
                      exact did_put _ (by rw [HM.out.sz]; exact (by decide : dst 1 < 93)) (Below.refl _ _) (by exact rfl)
                    | 2, _ =>
                      cases hop
                      refine op_ rfl rfl ?_
                      have t75 : a.tmps[75]?.getD undef = .bool false := (Array.getD_eq_getD_getElem?).symm.trans (hF ⟨1, .data⟩ (by simp) rfl)
                      have HM := Lib.hid hM
                      clear hM hF
                      go_simp
                      exact did_put _ (by rw [HM.out.sz]; exact (by decide : dst 2 < 93)) (Below.refl _ _) (by exact rfl)
                    | 3, _ =>
                      cases hop
                      have tg : a.tmps[76]?.getD undef = .bool false := (Array.getD_eq_getD_getElem?).symm.trans (hF ⟨2, .guard⟩ (by simp) rfl)
                      refine op_g rfl (by simp [Region.wanted, yielded, got tg]) ?_
                      clear tg
                      have t1 : a.tmps[1]?.getD undef = .pointer (some ⟨w.heap.size, 0, none⟩) := (Array.getD_eq_getD_getElem?).symm.trans ((hM.oth 1 (by intro i hi; show 74 + i ≠ _; omega)).trans rfl)
                      have HM := Lib.hid hM
                      clear hM hF
                      go_simp
                      exact did_put _ (by rw [HM.out.sz]; exact (by decide : dst 3 < 93)) (Below.refl _ _) (by exact rfl)
                    | 4, _ =>
                      cases hop
                      have tg : a.tmps[76]?.getD undef = .bool false := (Array.getD_eq_getD_getElem?).symm.trans (hF ⟨2, .guard⟩ (by simp) rfl)
                      refine op_g rfl (by simp [Region.wanted, yielded, got tg]) ?_
                      clear tg
                      have t77 : a.tmps[77]?.getD undef = .pointer (some ⟨w.heap.size, 3, none⟩) := (Array.getD_eq_getD_getElem?).symm.trans (hF ⟨3, .data⟩ (by simp) rfl)
                      obtain ⟨f0, f1, f2, f3, g0, g1, g2, g3, g4, e0, e1, e2, e3, e4⟩ := KC.out W1 hM.bel
                      have HM := Lib.hid hM
                      clear hM hF
                      go_simp
                      exact did_put _ (by rw [HM.out.sz]; exact (by decide : dst 4 < 93)) (Below.refl _ _) (by exact rfl)
                    | 5, _ =>
                      cases hop
                      have tg : a.tmps[76]?.getD undef = .bool false := (Array.getD_eq_getD_getElem?).symm.trans (hF ⟨2, .guard⟩ (by simp) rfl)
                      refine op_g rfl (by simp [Region.wanted, yielded, got tg]) ?_
                      clear tg
                      have t7 : a.tmps[7]?.getD undef = .int .i64 (k : Int) := (Array.getD_eq_getD_getElem?).symm.trans ((hM.oth 7 (by intro i hi; show 74 + i ≠ _; omega)).trans rfl)
                      have HM := Lib.hid hM
                      clear hM hF
                      go_simp
                      exact did_put _ (by rw [HM.out.sz]; exact (by decide : dst 5 < 93)) (Below.refl _ _) (by exact rfl)
                    | 6, _ =>
                      cases hop
                      have tg : a.tmps[76]?.getD undef = .bool false := (Array.getD_eq_getD_getElem?).symm.trans (hF ⟨2, .guard⟩ (by simp) rfl)
                      refine op_g rfl (by simp [Region.wanted, yielded, got tg]) ?_
                      clear tg
                      have t79 : a.tmps[79]?.getD undef = .int .i64 (k : Int) := (Array.getD_eq_getD_getElem?).symm.trans (hF ⟨5, .data⟩ (by simp) rfl)
                      have HM := Lib.hid hM
                      clear hM hF
                      go_simp
                      exact did_put _ (by rw [HM.out.sz]; exact (by decide : dst 6 < 93)) (Below.refl _ _) (by show Value.int IntKind.i64 (IntKind.i64.wrap ((k : Int) - 1)) = .int .i64 (j : Int); rw [HWR.out])
                    | 7, _ =>
                      cases hop
                      have tg : a.tmps[76]?.getD undef = .bool false := (Array.getD_eq_getD_getElem?).symm.trans (hF ⟨2, .guard⟩ (by simp) rfl)
                      refine op_g rfl (by simp [Region.wanted, yielded, got tg]) ?_
                      clear tg
                      have t78 : a.tmps[78]?.getD undef = .slice (some ⟨rb, ro, none⟩) o.rs.length q3 := (Array.getD_eq_getD_getElem?).symm.trans (hF ⟨4, .data⟩ (by simp) rfl)
                      have t80 : a.tmps[80]?.getD undef = .int .i64 (j : Int) := (Array.getD_eq_getD_getElem?).symm.trans (hF ⟨6, .data⟩ (by simp) rfl)
                      have HM := Lib.hid hM
                      clear hM hF
                      go_simp
                      exact did_put _ (by rw [HM.out.sz]; exact (by decide : dst 7 < 93)) (Below.refl _ _) (by exact rfl)
                    | 8, _ =>
                      cases hop
                      have tg : a.tmps[76]?.getD undef = .bool false := (Array.getD_eq_getD_getElem?).symm.trans (hF ⟨2, .guard⟩ (by simp) rfl)
                      refine op_g rfl (by simp [Region.wanted, yielded, got tg]) ?_
                      clear tg
                      have t81 : a.tmps[81]?.getD undef = .pointer (some ⟨rb, ro + j * 5, none⟩) := (Array.getD_eq_getD_getElem?).symm.trans (hF ⟨7, .data⟩ (by simp) rfl)
                      obtain ⟨f0, f1, f2, f3, g0, g1, g2, g3, g4, e0, e1, e2, e3, e4⟩ := KC.out W1 hM.bel
                      have HM := Lib.hid hM
                      clear hM hF
                      go_simp
                      exact did_put _ (by rw [HM.out.sz]; exact (by decide : dst 8 < 93)) (Below.refl _ _) (by exact rfl)
                    | 9, _ =>
                      cases hop
                      have tg : a.tmps[76]?.getD undef = .bool false := (Array.getD_eq_getD_getElem?).symm.trans (hF ⟨2, .guard⟩ (by simp) rfl)
                      refine op_g rfl (by simp [Region.wanted, yielded, got tg]) ?_
                      clear tg
                      have t8 : a.tmps[8]?.getD undef = .pointer (some ⟨wr.heap.size, 0, none⟩) := (Array.getD_eq_getD_getElem?).symm.trans ((hM.oth 8 (by intro i hi; show 74 + i ≠ _; omega)).trans rfl)
                      obtain ⟨f0, f1, f2, f3, g0, g1, g2, g3, g4, e0, e1, e2, e3, e4⟩ := KC.out W1 hM.bel
                      have HM := Lib.hid hM
                      clear hM hF
                      go_simp
                      exact did_put _ (by rw [HM.out.sz]; exact (by decide : dst 9 < 93)) (Below.refl _ _) (by exact rfl)
                    | 10, _ =>
                      cases hop
                      have tg : a.tmps[76]?.getD undef = .bool false := (Array.getD_eq_getD_getElem?).symm.trans (hF ⟨2, .guard⟩ (by simp) rfl)
                      refine op_g rfl (by simp [Region.wanted, yielded, got tg]) ?_
                      clear tg
                      have t82 : a.tmps[82]?.getD undef = .agg #[.int .i64 t.sect, .int .i64 t.place, .int .i64 t.kind, .int .i64 t.sym, .int .i64 t.add] := (Array.getD_eq_getD_getElem?).symm.trans (hF ⟨8, .data⟩ (by simp) rfl)
                      have t83 : a.tmps[83]?.getD undef = .agg #[.int .i64 r.sect, .int .i64 r.place, .int .i64 r.kind, .int .i64 r.sym, .int .i64 r.add] := (Array.getD_eq_getD_getElem?).symm.trans (hF ⟨9, .data⟩ (by simp) rfl)
                      have HM := Lib.hid hM
                      clear hM hF
                      go_simp
                      (with_reducible refine (cr _).mono ?_)
                      rintro e W2 ⟨rfl, hb⟩
                      exact did_put _ (by rw [HM.out.sz]; exact (by decide : dst 10 < 93)) hb (by exact rfl)
                    | 11, _ =>
                      cases hop
                      refine op_ rfl rfl ?_
                      have t76 : a.tmps[76]?.getD undef = .bool false := (Array.getD_eq_getD_getElem?).symm.trans (hF ⟨2, .data⟩ (by simp) rfl)
                      have t84 : a.tmps[84]?.getD undef = .bool true := (Array.getD_eq_getD_getElem?).symm.trans (hF ⟨10, .data⟩ (by simp) rfl)
                      have HM := Lib.hid hM
                      clear hM hF
                      go_simp
                      exact did_put _ (by rw [HM.out.sz]; exact (by decide : dst 11 < 93)) (Below.refl _ _) (by exact rfl)
                    | 12, _ =>
                      cases hop
                      refine op_ rfl rfl ?_
                      have t85 : a.tmps[85]?.getD undef = .bool true := (Array.getD_eq_getD_getElem?).symm.trans (hF ⟨11, .data⟩ (by simp) rfl)
                      have HM := Lib.hid hM
                      clear hM hF
                      go_simp
                      exact did_put _ (by rw [HM.out.sz]; exact (by decide : dst 12 < 93)) (Below.refl _ _) (by exact rfl)
                    | 13, _ =>
                      cases hop
                      have tg : a.tmps[86]?.getD undef = .bool true := (Array.getD_eq_getD_getElem?).symm.trans (hF ⟨12, .guard⟩ (by simp) rfl)
                      refine op_g rfl (by simp [Region.wanted, yielded, got tg]) ?_
                      clear tg
                      have t1 : a.tmps[1]?.getD undef = .pointer (some ⟨w.heap.size, 0, none⟩) := (Array.getD_eq_getD_getElem?).symm.trans ((hM.oth 1 (by intro i hi; show 74 + i ≠ _; omega)).trans rfl)
                      obtain ⟨f0, f1, f2, f3, g0, g1, g2, g3, g4, e0, e1, e2, e3, e4⟩ := KC.out W1 hM.bel
                      have HM := Lib.hid hM
                      clear hM hF
                      go_simp
                      exact did_put _ (by rw [HM.out.sz]; exact (by decide : dst 13 < 93)) (Below.refl _ _) (by exact rfl)
                    | 14, _ =>
                      cases hop
                      have tg : a.tmps[86]?.getD undef = .bool true := (Array.getD_eq_getD_getElem?).symm.trans (hF ⟨12, .guard⟩ (by simp) rfl)
                      refine op_g rfl (by simp [Region.wanted, yielded, got tg]) ?_
                      clear tg
                      have t8 : a.tmps[8]?.getD undef = .pointer (some ⟨wr.heap.size, 0, none⟩) := (Array.getD_eq_getD_getElem?).symm.trans ((hM.oth 8 (by intro i hi; show 74 + i ≠ _; omega)).trans rfl)
                      obtain ⟨f0, f1, f2, f3, g0, g1, g2, g3, g4, e0, e1, e2, e3, e4⟩ := KC.out W1 hM.bel
                      have HM := Lib.hid hM
                      clear hM hF
                      go_simp
                      exact did_put _ (by rw [HM.out.sz]; exact (by decide : dst 14 < 93)) (Below.refl _ _) (by exact rfl)
                    | 15, _ =>
                      cases hop
                      have tg : a.tmps[86]?.getD undef = .bool true := (Array.getD_eq_getD_getElem?).symm.trans (hF ⟨12, .guard⟩ (by simp) rfl)
                      refine op_g rfl (by simp [Region.wanted, yielded, got tg]) ?_
                      clear tg
                      have t87 : a.tmps[87]?.getD undef = .agg #[.slice p0 o.ws.length q0, .slice p1 o.ds.length q1, .slice p2 o.ss.length q2, .slice (some ⟨rb, ro, none⟩) o.rs.length q3] := (Array.getD_eq_getD_getElem?).symm.trans (hF ⟨13, .data⟩ (by simp) rfl)
                      have t88 : a.tmps[88]?.getD undef = .agg #[.int .i64 r.sect, .int .i64 r.place, .int .i64 r.kind, .int .i64 r.sym, .int .i64 r.add] := (Array.getD_eq_getD_getElem?).symm.trans (hF ⟨14, .data⟩ (by simp) rfl)
                      have HM := Lib.hid hM
                      have cc := KR.out W1 hM.bel
                      clear hM hF
                      go_simp
                      (with_reducible refine cc.mono ?_)
                      rintro e W2 ⟨rfl, hb⟩
                      exact did_put _ (by rw [HM.out.sz]; exact (by decide : dst 15 < 93)) hb (by exact rfl)
                    | 16, _ =>
                      cases hop
                      refine op_ rfl rfl ?_
                      have t86 : a.tmps[86]?.getD undef = .bool true := (Array.getD_eq_getD_getElem?).symm.trans (hF ⟨12, .data⟩ (by simp) rfl)
                      have t89 : a.tmps[89]?.getD undef = .bool false := (Array.getD_eq_getD_getElem?).symm.trans (hF ⟨15, .data⟩ (by simp) rfl)
                      have HM := Lib.hid hM
                      clear hM hF
                      go_simp
                      exact did_put _ (by rw [HM.out.sz]; exact (by decide : dst 16 < 93)) (Below.refl _ _) (by exact rfl)
                    | 17, _ =>
                      cases hop
                      refine op_ rfl rfl ?_
                      have t90 : a.tmps[90]?.getD undef = .bool false := (Array.getD_eq_getD_getElem?).symm.trans (hF ⟨16, .data⟩ (by simp) rfl)
                      have HM := Lib.hid hM
                      clear hM hF
                      go_simp
                      (with_reducible refine (demand_no _).mono ?_)
                      rintro e W2 ⟨rfl, rfl⟩
                      exact ⟨HM.out.d, (⟨by rw [HC.out]; rfl, HBL.out.trans (((box0 wr _).trans (HM.out.bel.mono (by simp))).mono HBL.out.size)⟩ : CkEnd (chk o) w thrown _)⟩
                    | i + 18, h => exact absurd h (by omega)
                case done =>
                  intro u W1 hbz hF
                  exact (hF 17 (by decide)).elim
            | false =>
              rw [hr] at cr HA
              have hp : relOk o.ws o.ds.length o.ss.length r = relOk o.ws o.ds.length o.ss.length r := rfl
              have HC := Lib.hid (show chk o = false from chk_rel HLT.out (by rw [HA.out]; rfl))
              clear hr
              go_upto_region 14 with (fail)
              have KC := Lib.hid (fun (W' : World) (hb : Below (wr.alloc (.cells #[.int .i64 r.sect, .int .i64 r.place, .int .i64 r.kind, .int .i64 r.sym, .int .i64 r.add] 59)).heap.size (wr.alloc (.cells #[.int .i64 r.sect, .int .i64 r.place, .int .i64 r.kind, .int .i64 r.sym, .int .i64 r.add] 59)) W') =>
                (⟨Lib.cell_of_heap ((hb.block _ (by simp; omega)).trans ((Lib.alloc_old _ _ _ hN).trans HBX.out)) 0, Lib.cell_of_heap ((hb.block _ (by simp; omega)).trans ((Lib.alloc_old _ _ _ hN).trans HBX.out)) 1, Lib.cell_of_heap ((hb.block _ (by simp; omega)).trans ((Lib.alloc_old _ _ _ hN).trans HBX.out)) 2, Lib.cell_of_heap ((hb.block _ (by simp; omega)).trans ((Lib.alloc_old _ _ _ hN).trans HBX.out)) 3,
                 Lib.cell_of_heap ((hb.block _ (by simp)).trans (heap_alloc_new _ _)) 0, Lib.cell_of_heap ((hb.block _ (by simp)).trans (heap_alloc_new _ _)) 1, Lib.cell_of_heap ((hb.block _ (by simp)).trans (heap_alloc_new _ _)) 2, Lib.cell_of_heap ((hb.block _ (by simp)).trans (heap_alloc_new _ _)) 3, Lib.cell_of_heap ((hb.block _ (by simp)).trans (heap_alloc_new _ _)) 4,
                 (hb.cell (p := ⟨rb, ro + j * 5, none⟩) (by simp; omega)).trans ((World.cell?_alloc_lt _ _ _ hrw).trans e0), (hb.cell (p := ⟨rb, ro + j * 5 + 1, none⟩) (by simp; omega)).trans ((World.cell?_alloc_lt _ _ _ hrw).trans e1), (hb.cell (p := ⟨rb, ro + j * 5 + 2, none⟩) (by simp; omega)).trans ((World.cell?_alloc_lt _ _ _ hrw).trans e2), (hb.cell (p := ⟨rb, ro + j * 5 + 3, none⟩) (by simp; omega)).trans ((World.cell?_alloc_lt _ _ _ hrw).trans e3), (hb.cell (p := ⟨rb, ro + j * 5 + 4, none⟩) (by simp; omega)).trans ((World.cell?_alloc_lt _ _ _ hrw).trans e4)⟩ :
                W'.cell? ⟨w.heap.size, 0, none⟩ = some (.slice p0 o.ws.length q0) ∧ W'.cell? ⟨w.heap.size, 1, none⟩ = some (.slice p1 o.ds.length q1) ∧ W'.cell? ⟨w.heap.size, 2, none⟩ = some (.slice p2 o.ss.length q2) ∧ W'.cell? ⟨w.heap.size, 3, none⟩ = some (.slice (some ⟨rb, ro, none⟩) o.rs.length q3) ∧
                W'.cell? ⟨wr.heap.size, 0, none⟩ = some (.int .i64 r.sect) ∧ W'.cell? ⟨wr.heap.size, 1, none⟩ = some (.int .i64 r.place) ∧ W'.cell? ⟨wr.heap.size, 2, none⟩ = some (.int .i64 r.kind) ∧ W'.cell? ⟨wr.heap.size, 3, none⟩ = some (.int .i64 r.sym) ∧ W'.cell? ⟨wr.heap.size, 4, none⟩ = some (.int .i64 r.add) ∧
                W'.cell? ⟨rb, ro + j * 5, none⟩ = some (.int .i64 t.sect) ∧ W'.cell? ⟨rb, ro + j * 5 + 1, none⟩ = some (.int .i64 t.place) ∧ W'.cell? ⟨rb, ro + j * 5 + 2, none⟩ = some (.int .i64 t.kind) ∧ W'.cell? ⟨rb, ro + j * 5 + 3, none⟩ = some (.int .i64 t.sym) ∧ W'.cell? ⟨rb, ro + j * 5 + 4, none⟩ = some (.int .i64 t.add)))
              have KR := Lib.hid (fun (W' : World) (hb : Below (wr.alloc (.cells #[.int .i64 r.sect, .int .i64 r.place, .int .i64 r.kind, .int .i64 r.sym, .int .i64 r.add] 59)).heap.size (wr.alloc (.cells #[.int .i64 r.sect, .int .i64 r.place, .int .i64 r.kind, .int .i64 r.sym, .int .i64 r.add] 59)) W') =>
                relocation_ (n₀ := n₀) (nd := o.ds.length) (ns := o.ss.length) (n3 := o.rs.length) (q1 := q1) (q2 := q2) (q3 := q3) (p1 := p1) (p2 := p2) (p3 := some ⟨rb, ro, none⟩) r W' HW.out.ws (HO.out.below ((HBL.out.trans (((box0 wr _).trans (hb.mono (by simp))).mono HBL.out.size)).mono hn)).ws (Nat.le_trans hn (Nat.le_trans hsz (by have := hb.size; simp only [World.size_alloc] at this; omega))) (by unfold maxLen; omega) (by unfold maxLen; omega))
              clear HR0 hrw s0 s1 s2 s3 s4
              refine facts2_ (n := 18) (dst := dst) (F := Fv (fun i => match i with | 0 => some (some (.int .i64 (k : Int))) | 1 => some (some (.bool false)) | 2 => some (some (.bool false)) | 3 => some (some (.pointer (some ⟨w.heap.size, 3, none⟩))) | 4 => some (some (.slice (some ⟨rb, ro, none⟩) o.rs.length q3)) | 5 => some (some (.int .i64 (k : Int))) | 6 => some (some (.int .i64 (j : Int))) | 7 => some (some (.pointer (some ⟨rb, ro + j * 5, none⟩))) | 8 => some (some (.agg #[.int .i64 t.sect, .int .i64 t.place, .int .i64 t.kind, .int .i64 t.sym, .int .i64 t.add])) | 9 => some (some (.agg #[.int .i64 r.sect, .int .i64 r.place, .int .i64 r.kind, .int .i64 r.sym, .int .i64 r.add])) | 10 => some (some (.bool false)) | 11 => some (some (.bool false)) | 12 => some (some (.bool false)) | 13 => none | 14 => none | 15 => none | 16 => some (some (.bool false)) | 17 => some (none) | _ => none)) (by kernel_rfl) (ahead_of (by kernel_rfl)) rfl dst_inj (fun _ _ _ _ h _ => h) ?step ?done
              case step =>
                intro i op hop a W1 hM hF
                have hi : i < 18 := (Array.getElem?_eq_some_iff.1 hop).1
                match i, hi with
                  | 0, _ =>
                    cases hop
                    refine op_ rfl rfl ?_
                    have t7 : a.tmps[7]?.getD undef = .int .i64 (k : Int) := (Array.getD_eq_getD_getElem?).symm.trans ((hM.oth 7 (by intro i hi; show 74 + i ≠ _; omega)).trans rfl)
                    have HM := Lib.hid hM
                    clear hM hF
                    go_simp
                    exact did_put _ (by rw [HM.out.sz]; exact (by decide : dst 0 < 93)) (Below.refl _ _) (by exact rfl)
                  | 1, _ =>
                    cases hop
                    refine op_ rfl rfl ?_
                    have t74 : a.tmps[74]?.getD undef = .int .i64 (k : Int) := (Array.getD_eq_getD_getElem?).symm.trans (hF ⟨0, .data⟩ (by simp) rfl)
                    have HM := Lib.hid hM
                    clear hM hF
                    go_simp
                    exact did_put _ (by rw [HM.out.sz]; exact (by decide : dst 1 < 93)) (Below.refl _ _) (by exact rfl)
                  | 2, _ =>
                    cases hop
                    refine op_ rfl rfl ?_
                    have t75 : a.tmps[75]?.getD undef = .bool false := (Array.getD_eq_getD_getElem?).symm.trans (hF ⟨1, .data⟩ (by simp) rfl)
                    have HM := Lib.hid hM
                    clear hM hF
                    go_simp
                    exact did_put _ (by rw [HM.out.sz]; exact (by decide : dst 2 < 93)) (Below.refl _ _) (by exact rfl)
                  | 3, _ =>
                    cases hop
                    have tg : a.tmps[76]?.getD undef = .bool false := (Array.getD_eq_getD_getElem?).symm.trans (hF ⟨2, .guard⟩ (by simp) rfl)
                    refine op_g rfl (by simp [Region.wanted, yielded, got tg]) ?_
                    clear tg
                    have t1 : a.tmps[1]?.getD undef = .pointer (some ⟨w.heap.size, 0, none⟩) := (Array.getD_eq_getD_getElem?).symm.trans ((hM.oth 1 (by intro i hi; show 74 + i ≠ _; omega)).trans rfl)
                    have HM := Lib.hid hM
                    clear hM hF
                    go_simp
                    exact did_put _ (by rw [HM.out.sz]; exact (by decide : dst 3 < 93)) (Below.refl _ _) (by exact rfl)
                  | 4, _ =>
                    cases hop
                    have tg : a.tmps[76]?.getD undef = .bool false := (Array.getD_eq_getD_getElem?).symm.trans (hF ⟨2, .guard⟩ (by simp) rfl)
                    refine op_g rfl (by simp [Region.wanted, yielded, got tg]) ?_
                    clear tg
                    have t77 : a.tmps[77]?.getD undef = .pointer (some ⟨w.heap.size, 3, none⟩) := (Array.getD_eq_getD_getElem?).symm.trans (hF ⟨3, .data⟩ (by simp) rfl)
                    obtain ⟨f0, f1, f2, f3, g0, g1, g2, g3, g4, e0, e1, e2, e3, e4⟩ := KC.out W1 hM.bel
                    have HM := Lib.hid hM
                    clear hM hF
                    go_simp
                    exact did_put _ (by rw [HM.out.sz]; exact (by decide : dst 4 < 93)) (Below.refl _ _) (by exact rfl)
                  | 5, _ =>
                    cases hop
                    have tg : a.tmps[76]?.getD undef = .bool false := (Array.getD_eq_getD_getElem?).symm.trans (hF ⟨2, .guard⟩ (by simp) rfl)
                    refine op_g rfl (by simp [Region.wanted, yielded, got tg]) ?_
                    clear tg
                    have t7 : a.tmps[7]?.getD undef = .int .i64 (k : Int) := (Array.getD_eq_getD_getElem?).symm.trans ((hM.oth 7 (by intro i hi; show 74 + i ≠ _; omega)).trans rfl)
                    have HM := Lib.hid hM
                    clear hM hF
                    go_simp
                    exact did_put _ (by rw [HM.out.sz]; exact (by decide : dst 5 < 93)) (Below.refl _ _) (by exact rfl)
                  | 6, _ =>
                    cases hop
                    have tg : a.tmps[76]?.getD undef = .bool false := (Array.getD_eq_getD_getElem?).symm.trans (hF ⟨2, .guard⟩ (by simp) rfl)
                    refine op_g rfl (by simp [Region.wanted, yielded, got tg]) ?_
                    clear tg
                    have t79 : a.tmps[79]?.getD undef = .int .i64 (k : Int) := (Array.getD_eq_getD_getElem?).symm.trans (hF ⟨5, .data⟩ (by simp) rfl)
                    have HM := Lib.hid hM
                    clear hM hF
                    go_simp
                    exact did_put _ (by rw [HM.out.sz]; exact (by decide : dst 6 < 93)) (Below.refl _ _) (by show Value.int IntKind.i64 (IntKind.i64.wrap ((k : Int) - 1)) = .int .i64 (j : Int); rw [HWR.out])
                  | 7, _ =>
                    cases hop
                    have tg : a.tmps[76]?.getD undef = .bool false := (Array.getD_eq_getD_getElem?).symm.trans (hF ⟨2, .guard⟩ (by simp) rfl)
                    refine op_g rfl (by simp [Region.wanted, yielded, got tg]) ?_
                    clear tg
                    have t78 : a.tmps[78]?.getD undef = .slice (some ⟨rb, ro, none⟩) o.rs.length q3 := (Array.getD_eq_getD_getElem?).symm.trans (hF ⟨4, .data⟩ (by simp) rfl)
                    have t80 : a.tmps[80]?.getD undef = .int .i64 (j : Int) := (Array.getD_eq_getD_getElem?).symm.trans (hF ⟨6, .data⟩ (by simp) rfl)
                    have HM := Lib.hid hM
                    clear hM hF
                    go_simp
                    exact did_put _ (by rw [HM.out.sz]; exact (by decide : dst 7 < 93)) (Below.refl _ _) (by exact rfl)
                  | 8, _ =>
                    cases hop
                    have tg : a.tmps[76]?.getD undef = .bool false := (Array.getD_eq_getD_getElem?).symm.trans (hF ⟨2, .guard⟩ (by simp) rfl)
                    refine op_g rfl (by simp [Region.wanted, yielded, got tg]) ?_
                    clear tg
                    have t81 : a.tmps[81]?.getD undef = .pointer (some ⟨rb, ro + j * 5, none⟩) := (Array.getD_eq_getD_getElem?).symm.trans (hF ⟨7, .data⟩ (by simp) rfl)
                    obtain ⟨f0, f1, f2, f3, g0, g1, g2, g3, g4, e0, e1, e2, e3, e4⟩ := KC.out W1 hM.bel
                    have HM := Lib.hid hM
                    clear hM hF
                    go_simp
                    exact did_put _ (by rw [HM.out.sz]; exact (by decide : dst 8 < 93)) (Below.refl _ _) (by exact rfl)
                  | 9, _ =>
                    cases hop
                    have tg : a.tmps[76]?.getD undef = .bool false := (Array.getD_eq_getD_getElem?).symm.trans (hF ⟨2, .guard⟩ (by simp) rfl)
                    refine op_g rfl (by simp [Region.wanted, yielded, got tg]) ?_
                    clear tg
                    have t8 : a.tmps[8]?.getD undef = .pointer (some ⟨wr.heap.size, 0, none⟩) := (Array.getD_eq_getD_getElem?).symm.trans ((hM.oth 8 (by intro i hi; show 74 + i ≠ _; omega)).trans rfl)
                    obtain ⟨f0, f1, f2, f3, g0, g1, g2, g3, g4, e0, e1, e2, e3, e4⟩ := KC.out W1 hM.bel
                    have HM := Lib.hid hM
                    clear hM hF
                    go_simp
                    exact did_put _ (by rw [HM.out.sz]; exact (by decide : dst 9 < 93)) (Below.refl _ _) (by exact rfl)
                  | 10, _ =>
                    cases hop
                    have tg : a.tmps[76]?.getD undef = .bool false := (Array.getD_eq_getD_getElem?).symm.trans (hF ⟨2, .guard⟩ (by simp) rfl)
                    refine op_g rfl (by simp [Region.wanted, yielded, got tg]) ?_
                    clear tg
                    have t82 : a.tmps[82]?.getD undef = .agg #[.int .i64 t.sect, .int .i64 t.place, .int .i64 t.kind, .int .i64 t.sym, .int .i64 t.add] := (Array.getD_eq_getD_getElem?).symm.trans (hF ⟨8, .data⟩ (by simp) rfl)
                    have t83 : a.tmps[83]?.getD undef = .agg #[.int .i64 r.sect, .int .i64 r.place, .int .i64 r.kind, .int .i64 r.sym, .int .i64 r.add] := (Array.getD_eq_getD_getElem?).symm.trans (hF ⟨9, .data⟩ (by simp) rfl)
                    have HM := Lib.hid hM
                    clear hM hF
                    go_simp
                    (with_reducible refine (cr _).mono ?_)
                    rintro e W2 ⟨rfl, hb⟩
                    exact did_put _ (by rw [HM.out.sz]; exact (by decide : dst 10 < 93)) hb (by exact rfl)
                  | 11, _ =>
                    cases hop
                    refine op_ rfl rfl ?_
                    have t76 : a.tmps[76]?.getD undef = .bool false := (Array.getD_eq_getD_getElem?).symm.trans (hF ⟨2, .data⟩ (by simp) rfl)
                    have t84 : a.tmps[84]?.getD undef = .bool false := (Array.getD_eq_getD_getElem?).symm.trans (hF ⟨10, .data⟩ (by simp) rfl)
                    have HM := Lib.hid hM
                    clear hM hF
                    go_simp
                    exact did_put _ (by rw [HM.out.sz]; exact (by decide : dst 11 < 93)) (Below.refl _ _) (by exact rfl)
                  | 12, _ =>
                    cases hop
                    refine op_ rfl rfl ?_
                    have t85 : a.tmps[85]?.getD undef = .bool false := (Array.getD_eq_getD_getElem?).symm.trans (hF ⟨11, .data⟩ (by simp) rfl)
                    have HM := Lib.hid hM
                    clear hM hF
                    go_simp
                    exact did_put _ (by rw [HM.out.sz]; exact (by decide : dst 12 < 93)) (Below.refl _ _) (by exact rfl)
                  | 13, _ =>
                    cases hop
                    have tg : a.tmps[86]?.getD undef = .bool false := (Array.getD_eq_getD_getElem?).symm.trans (hF ⟨12, .guard⟩ (by simp) rfl)
                    refine op_n rfl (by simp [Region.wanted, yielded, got tg]) ?_
                    exact did_put _ (by rw [hM.sz]; exact (by decide : dst 13 < 93)) (Below.refl _ _) trivial
                  | 14, _ =>
                    cases hop
                    have tg : a.tmps[86]?.getD undef = .bool false := (Array.getD_eq_getD_getElem?).symm.trans (hF ⟨12, .guard⟩ (by simp) rfl)
                    refine op_n rfl (by simp [Region.wanted, yielded, got tg]) ?_
                    exact did_put _ (by rw [hM.sz]; exact (by decide : dst 14 < 93)) (Below.refl _ _) trivial
                  | 15, _ =>
                    cases hop
                    have tg : a.tmps[86]?.getD undef = .bool false := (Array.getD_eq_getD_getElem?).symm.trans (hF ⟨12, .guard⟩ (by simp) rfl)
                    refine op_n rfl (by simp [Region.wanted, yielded, got tg]) ?_
                    exact did_put _ (by rw [hM.sz]; exact (by decide : dst 15 < 93)) (Below.refl _ _) trivial
                  | 16, _ =>
                    cases hop
                    refine op_ rfl rfl ?_
                    have t86 : a.tmps[86]?.getD undef = .bool false := (Array.getD_eq_getD_getElem?).symm.trans (hF ⟨12, .data⟩ (by simp) rfl)
                    have HM := Lib.hid hM
                    clear hM hF
                    go_simp
                    exact did_put _ (by rw [HM.out.sz]; exact (by decide : dst 16 < 93)) (Below.refl _ _) (by exact rfl)
                  | 17, _ =>
                    cases hop
                    refine op_ rfl rfl ?_
                    have t90 : a.tmps[90]?.getD undef = .bool false := (Array.getD_eq_getD_getElem?).symm.trans (hF ⟨16, .data⟩ (by simp) rfl)
                    have HM := Lib.hid hM
                    clear hM hF
                    go_simp
                    (with_reducible refine (demand_no _).mono ?_)
                    rintro e W2 ⟨rfl, rfl⟩
                    exact ⟨HM.out.d, (⟨by rw [HC.out]; rfl, HBL.out.trans (((box0 wr _).trans (HM.out.bel.mono (by simp))).mono HBL.out.size)⟩ : CkEnd (chk o) w thrown _)⟩
                  | i + 18, h => exact absurd h (by omega)
              case done =>
                intro u W1 hbz hF
                exact (hF 17 (by decide)).elim
        · obtain rfl : k = o.rs.length := by omega
          have HC := Lib.hid (show chk o = true from chk_yes HL.out HQ.out hq.out)
          have HB9 := Lib.hid hbl
          clear hq hbl hbx
          go_wp2_with fail
          go_end0
          exact ⟨by rw [HC.out]; rfl, HB9.out⟩
end OCh
end Go.Proofs.YtlmblfkcmhgdaaaGreat
namespace Go.Proofs.YtlmblfkcmhgdaaaGreat
open Go.RowKit Go.Maps Go.WideMaps
set_option linter.unusedVariables false
set_option linter.unusedSimpArgs false
namespace OCh
open OO OJ OU ORl OCk OF OI
/-- the program's check -/
theorem check_ {w : World} {n₀ : Nat} {v0 v1 v2 v3 : Value} {o : ObjV} (hn : n₀ ≤ w.heap.size) (ho : ObjAt n₀ w v0 v1 v2 v3 o) (hw : o.Wf) (hm : o.ws.length ≤ maxLen ∧ o.ds.length ≤ maxLen ∧ o.ss.length ≤ maxLen ∧ o.rs.length ≤ maxLen) :
    Calls Tryz.prog 142 #[.agg #[v0, v1, v2, v3]] w (CkEnd (chk o) w) := by
  cases hl : lensB o with
  | true => exact check_lens hn ho hw hl
  | false =>
    rw [chk_lens hl]
    obtain ⟨p0, q0, rfl, -⟩ := ho.ws
    obtain ⟨p1, q1, rfl, -⟩ := ho.ds
    obtain ⟨p2, q2, rfl, -⟩ := ho.ss
    obtain ⟨p3, q3, rfl, -⟩ := ho.rs
    refine lens_no w hm.1 hm.2.1 hm.2.2.1 hm.2.2.2 fun h => ?_
    have : lensB o = true := by
      unfold lensB
      rw [decide_eq_true (⟨h.1, h.2.1, h.2.2.1⟩ : _ ∧ _ ∧ _), decide_eq_true (⟨h.2.2.2.1, h.2.2.2.2⟩ : _ ∧ _)]; rfl
    rw [hl] at this; cases this
def ckI (b : Bool) : Int := if b then 0 else 2
set_option maxRecDepth 100000 in
set_option maxHeartbeats 4000000 in
theorem check1_ (bx : Nat) {w : World} {n₀ : Nat} {v0 v1 v2 v3 : Value} {o : ObjV} (hn : n₀ ≤ w.heap.size) (ho : ObjAt n₀ w v0 v1 v2 v3 o) (hw : o.Wf) (hm : o.ws.length ≤ maxLen ∧ o.ds.length ≤ maxLen ∧ o.ss.length ≤ maxLen ∧ o.rs.length ≤ maxLen) (h : w.heap[bx]? = some (.cells #[v0, v1, v2, v3] TO (0, 0))) :
    Calls Tryz.prog 141 #[.pointer (some ⟨bx, 0, none⟩)] w (CkEnd (chk o) w) := by
  have c := check_ hn ho hw hm
  have k0 : w.cell? ⟨bx, 0, none⟩ = some v0 := Lib.cell_of_heap h 0
  have k1 : w.cell? ⟨bx, 1, none⟩ = some v1 := Lib.cell_of_heap h 1
  have k2 : w.cell? ⟨bx, 2, none⟩ = some v2 := Lib.cell_of_heap h 2
  have k3 : w.cell? ⟨bx, 3, none⟩ = some v3 := Lib.cell_of_heap h 3
  clear ho hw hm h
  unfold CkEnd at c ⊢
  generalize chk o = b at *
  cases b with
  | true =>
    simp only [if_true] at c ⊢
    go_enter Tryz.func141, Tryz.ntmps141
    go_wp2_with (go_at_call 142; (with_reducible refine c.mono ?_); rintro e w1 ⟨rfl, hb⟩)
    go_end0
    exact ⟨rfl, hb⟩
  | false =>
    simp only [Bool.false_eq_true, if_false] at c ⊢
    go_enter Tryz.func141, Tryz.ntmps141
    go_wp2_with (go_at_call 142; (with_reducible refine c.mono ?_); rintro e w1 ⟨rfl, hb⟩)
    exact ⟨rfl, rfl, hb⟩
set_option maxRecDepth 100000 in
set_option maxHeartbeats 4000000 in
/-- the program's Check -/
theorem Check_ {w : World} {n₀ : Nat} {v0 v1 v2 v3 : Value} {o : ObjV} (hn : n₀ ≤ w.heap.size) (ho : ObjAt n₀ w v0 v1 v2 v3 o) (hw : o.Wf) (hm : o.ws.length ≤ maxLen ∧ o.ds.length ≤ maxLen ∧ o.ss.length ≤ maxLen ∧ o.rs.length ≤ maxLen) :
    Calls Tryz.prog 117 #[.agg #[v0, v1, v2, v3]] w fun e w' => e = .returned (.int .i64 (ckI (chk o))) ∧ Below w.heap.size w w' := by
  have hmf : ∀ (fn : Fn) (first cap : Array Value) (w : World), (Instr.makeFunc fn first cap).run Tryz.prog w = .ok (.func fn first cap) w := fun _ _ _ _ => rfl
  have h0 := heap_alloc_new w (.cells #[v0, v1, v2, v3] TO)
  have hB : Below w.heap.size w (w.alloc (.cells #[v0, v1, v2, v3] TO)) := (Below.refl _ _).alloc (Nat.le_refl _) _
  have c := check1_ w.heap.size (w := (w.alloc (.cells #[v0, v1, v2, v3] TO)).alloc (.cells #[.int .i64 0] 34)) (by simp; omega) (ho.below ((hB.alloc (by simp) _).mono hn)) hw hm ((Lib.alloc_old _ _ _ (by simp)).trans h0)
  unfold CkEnd at c
  obtain ⟨p0, q0, rfl, -⟩ := ho.ws
  obtain ⟨p1, q1, rfl, -⟩ := ho.ds
  obtain ⟨p2, q2, rfl, -⟩ := ho.ss
  obtain ⟨p3, q3, rfl, -⟩ := ho.rs
  clear ho hw hm
  generalize chk o = b at *
  cases b with
  | true =>
    simp only [if_true] at c
    have hc := fault_ok_check w.heap.size _ (Below w.heap.size w) (c.mono fun e w' ⟨he, hb⟩ => ⟨he, (hb.block _ (by simp)).trans (heap_alloc_new _ _), (hB.alloc (by simp) _).trans (hb.mono (by simp; omega))⟩)
    have HC := Lib.hid hc
    clear hc h0 hB c
    go_enter Tryz.func117, Tryz.ntmps117
    go_wp2_with (go_at_call 140; (with_reducible refine HC.out.mono ?_); rintro e w1 ⟨rfl, w2, hw2, hw1⟩; have HW := Lib.hid hw1; have H2 := Lib.hid hw2; clear hw1 hw2)
    go_ret
    refine ⟨rfl, ?_⟩
    rw [HW.out]
    exact H2.out.setCell (p := ⟨_, 0, none⟩) (by simp) _
  | false =>
    simp only [Bool.false_eq_true, if_false] at c
    have hc := fault_bad_check w.heap.size _ (Below w.heap.size w) (c.mono fun e w' ⟨he, hb⟩ => ⟨he, (hb.block _ (by simp)).trans (heap_alloc_new _ _), (hB.alloc (by simp) _).trans (hb.mono (by simp; omega))⟩)
    have HC := Lib.hid hc
    clear hc h0 hB c
    go_enter Tryz.func117, Tryz.ntmps117
    go_wp2_with (go_at_call 140; (with_reducible refine HC.out.mono ?_); rintro e w1 ⟨rfl, w2, hw2, hw1⟩; have HW := Lib.hid hw1; have H2 := Lib.hid hw2; clear hw1 hw2)
    go_ret
    refine ⟨rfl, ?_⟩
    rw [HW.out]
    have h3 := H2.out.setCell (p := ⟨(w.alloc (.cells #[.slice p0 o.ws.length q0, .slice p1 o.ds.length q1, .slice p2 o.ss.length q2, .slice p3 o.rs.length q3] TO)).heap.size, 0, none⟩) (by simp) (.int .i64 2)
    exact h3.alloc h3.size _
end OCh
end Go.Proofs.YtlmblfkcmhgdaaaGreat
