/-
  What a program under way holds in memory; and addresses of targets: a contract. Conditions: those that Env names.
  One relocation carried out in the image: a contract where it fits, and one where it is too far. Conditions: those that Env names.
  The start, the texts and the data, put where they stand: a contract. Conditions: those that Env names.
  All relocations carried out, or the first that is too far thrown: a contract. Conditions: those that Env names.
-/
import Derived.Test.YtlmblfkcmhgdaaaGreatLinkQa
import Derived.Test.YtlmblfkcmhgdaaaGreatLayQa
import Derived.Deep.RegionHeld3
import Derived.Test.YtlmblfkcmhgdaaaGreatPatQa
import Derived.Deep.RegionLaw
import Derived.Laws.IdiomCopy
namespace Go.Proofs.YtlmblfkcmhgdaaaGreat
open Go.RowKit
set_option linter.unusedVariables false
set_option linter.unusedSimpArgs false
namespace KE
open OO OJ RsM LM LL LP KB KC KM RsB
/-- all but one block of what there was stands -/
structure Fr (g : Nat) (w w' : World) : Prop where
  os : w'.os = w.os
  tape : w'.tape = w.tape
  out : w'.output = w.output
  sz : w.heap.size ≤ w'.heap.size
  oth : ∀ k, k ≠ g → k < w.heap.size → w'.heap[k]? = w.heap[k]?
theorem Fr.refl (g : Nat) (w : World) : Fr g w w := ⟨rfl, rfl, rfl, Nat.le_refl _, fun _ _ _ => rfl⟩
theorem Fr.trans {g : Nat} {u v w : World} (h : Fr g u v) (k : Fr g v w) : Fr g u w :=
  ⟨k.os.trans h.os, k.tape.trans h.tape, k.out.trans h.out, Nat.le_trans h.sz k.sz, fun i hi hl => (k.oth i hi (Nat.lt_of_lt_of_le hl h.sz)).trans (h.oth i hi hl)⟩
theorem Fr.put {g : Nat} {v w : World} (h : Put g v w) : Fr g v w := ⟨h.os, h.tape, h.out, Nat.le_of_eq h.sz.symm, fun k hk _ => h.oth k hk⟩
theorem Fr.of {g n : Nat} {v w : World} (h : Below n v w) (hn : v.heap.size ≤ n) : Fr g v w := ⟨h.os, h.tape, h.output, h.size, fun k _ hl => h.block k (by omega)⟩
theorem Fr.below {g n : Nat} {v w : World} (h : Fr g v w) (hn : n ≤ g) (hv : n ≤ v.heap.size) : Below n v w := ⟨h.os, h.tape, h.out, h.sz, fun k hk => h.oth k (by omega) (by omega)⟩
theorem Fr.drew {g : Nat} {v w : World} (h : Fr g v w) : Fr g v w.drew := ⟨h.os, h.tape, h.out, h.sz, h.oth⟩
theorem Fr.alloc {g : Nat} {v w : World} (h : Fr g v w) (o : Obj) : Fr g v (w.alloc o) := h.trans (Fr.of ((Below.refl _ _).alloc (Nat.le_refl _) _) (Nat.le_refl _))
theorem Fr.cell {g b o : Nat} {v w : World} (h : Fr g v w) (hb : b ≠ g) (hl : b < v.heap.size) : w.cell? ⟨b, o, none⟩ = v.cell? ⟨b, o, none⟩ := World.cell?_of_block (w := v) (h.oth b hb hl)
/-- rows of targets -/
def TgtsB (n₀ : Nat) (w : World) (tv : Value) (rows : List (List (Int × Int))) : Prop :=
  Sl n₀ tv rows.length fun b o => ∀ i r, rows[i]? = some r → ∃ v, w.cell? ⟨b, o + i, none⟩ = some v ∧ Sl n₀ v r.length fun b' o' => ∀ j t, r[j]? = some t → w.cell? ⟨b', o' + j * 2, none⟩ = some (.int .i64 t.1) ∧ w.cell? ⟨b', o' + j * 2 + 1, none⟩ = some (.int .i64 t.2)
theorem TgtsB.below {n₀ : Nat} {w w' : World} {tv : Value} {rows : List (List (Int × Int))} (h : TgtsB n₀ w tv rows) (hb : Below n₀ w w') : TgtsB n₀ w' tv rows :=
  Sl.mono h (Nat.le_refl _) fun b o hlt hr i r hi => by
    obtain ⟨v, h1, h2⟩ := hr i r hi
    exact ⟨v, (hb.cell (p := ⟨b, o + i, none⟩) hlt).trans h1, Sl.mono h2 (Nat.le_refl _) fun b' o' hlt' hr' j t hj => ⟨(hb.cell (p := ⟨b', o' + j * 2, none⟩) hlt').trans (hr' j t hj).1, (hb.cell (p := ⟨b', o' + j * 2 + 1, none⟩) hlt').trans (hr' j t hj).2⟩⟩
/-- a program whose image lies in block g -/
structure Env (bp g N : Nat) (objs : List ObjV) (ov tv pv : Value) (mi mk : Int) (w : World) : Prop where
  c0 : w.cell? ⟨bp, 0, none⟩ = some ov
  c1 : w.cell? ⟨bp, 1, none⟩ = some (.int .i64 mi)
  c2 : w.cell? ⟨bp, 2, none⟩ = some (.int .i64 mk)
  c3 : w.cell? ⟨bp, 3, none⟩ = some tv
  c4 : w.cell? ⟨bp, 4, none⟩ = some pv
  c5 : w.cell? ⟨bp, 5, none⟩ = some (.slice (some ⟨g, 0, none⟩) N N)
  lt : bp < g
  gw : g < w.heap.size
  ob : ObjsAt g w ov objs
  pl : PlAt g w pv (szL objs)
  tg : TgtsB g w tv (tgL objs)
section
variable {bp g N : Nat} {objs : List ObjV} {ov tv pv : Value} {mi mk : Int} {w w' : World}
theorem Env.below (h : Env bp g N objs ov tv pv mi mk w) (hb : Below g w w') : Env bp g N objs ov tv pv mi mk w' := by
  have hl := h.lt
  exact ⟨(hb.cell (p := ⟨bp, 0, none⟩) hl).trans h.c0, (hb.cell (p := ⟨bp, 1, none⟩) hl).trans h.c1, (hb.cell (p := ⟨bp, 2, none⟩) hl).trans h.c2, (hb.cell (p := ⟨bp, 3, none⟩) hl).trans h.c3, (hb.cell (p := ⟨bp, 4, none⟩) hl).trans h.c4, (hb.cell (p := ⟨bp, 5, none⟩) hl).trans h.c5, hl, Nat.lt_of_lt_of_le h.gw hb.size,
    h.ob.same (Same.of hb (Nat.le_refl _)), PlAt.below h.pl hb, TgtsB.below h.tg hb⟩
theorem Env.fr (h : Env bp g N objs ov tv pv mi mk w) (f : Fr g w w') : Env bp g N objs ov tv pv mi mk w' := h.below (f.below (Nat.le_refl _) (Nat.le_of_lt h.gw))
set_option maxRecDepth 100000 in
set_option maxHeartbeats 8000000 in
theorem address_ (E : Env bp g N objs ov tv pv mi mk w) (ti tk : Nat) {o' : ObjV} {d : SymV} (h1 : objs[ti]? = some o') (h2 : o'.ss[tk]? = some d) :
    Calls Tryz.prog 72 #[.pointer (some ⟨bp, 0, none⟩), .agg #[.int .i64 (ti : Int), .int .i64 (tk : Int)]] w fun e w' => e = .returned (.int .u32 (adrOf objs ti tk)) ∧ Below w.heap.size w w' := by
  have hti : ti < objs.length := (List.getElem?_eq_some_iff.1 h1).1
  have htk : tk < o'.ss.length := (List.getElem?_eq_some_iff.1 h2).1
  have hD : adrOf objs ti tk = adr (textAt (szL objs) ti : Nat) (dataAt (szL objs) ti : Nat) d.sect d.val := by
    unfold adrOf
    have e1 : obAt objs ti = o' := by unfold obAt; rw [List.getD_eq_getElem?_getD, h1]; rfl
    have e2 : o'.ss.getD tk noSym = d := by rw [List.getD_eq_getElem?_getD, h2]; rfl
    simp only [Int.toNat_natCast]
    rw [e1, e2]
  rw [hD]
  obtain ⟨po, co, rfl, ho⟩ := E.ob
  obtain ⟨ob, oo, rfl, hob, ho1, ho2, hall⟩ := ho (by omega)
  obtain ⟨v0, v1, v2, v3, -, -, k2, -, hoa⟩ := hall ti o' h1
  obtain ⟨ps, cs, rfl, hss⟩ := hoa.ss
  obtain ⟨sb, so, rfl, hsb, hs1, hs2, hsym⟩ := hss (by omega)
  have hsy := hsym tk d h2
  obtain ⟨pp, cp, rfl, hp⟩ := E.pl
  rw [szL_length] at hp
  obtain ⟨pb, poo, rfl, hpb, hp1, hp2, hpl⟩ := hp (by omega)
  obtain ⟨p0, p1⟩ := hpl ti (by omega)
  have e0 := E.c0
  have e4 := E.c4
  have hg := E.gw
  have hl := E.lt
  have ca := fun w => LQ.Address_ (textAt (szL objs) ti : Nat) (dataAt (szL objs) ti : Nat) d w
  clear E hall hoa hss hsym hp hpl ho hD h1 h2
  rw [szL_length] at e4
  generalize (textAt (szL objs) ti : Nat) = A at *
  generalize (dataAt (szL objs) ti : Nat) = D at *
  obtain ⟨s0, s1, s2, s3, s4⟩ := hsy
  unfold maxLen at ho2 hs2 hp2
  obtain ⟨W1, hW1⟩ : ∃ W1, W1 = w.alloc (.cells #[.int .i64 (ti : Int), .int .i64 (tk : Int)] 76) := ⟨_, rfl⟩
  have hb1 : Below w.heap.size w W1 := by rw [hW1]; exact (Below.refl _ _).alloc (Nat.le_refl _) _
  have hs1 : W1.heap.size = w.heap.size + 1 := by rw [hW1, World.size_alloc]
  have b0 : W1.cell? ⟨w.heap.size, 0, none⟩ = some (.int .i64 (ti : Int)) := by rw [hW1]; exact Lib.cell_of_heap (heap_alloc_new w _) 0
  have b1 : W1.cell? ⟨w.heap.size, 1, none⟩ = some (.int .i64 (tk : Int)) := by rw [hW1]; exact Lib.cell_of_heap (heap_alloc_new w _) 1
  have HSS := Lib.hid (show ∀ w', Below W1.heap.size W1 w' → (w'.cell? ⟨bp, 0, none⟩ = some (.slice (some ⟨ob, oo, none⟩) objs.length co) ∧ w'.cell? ⟨bp, 4, none⟩ = some (.slice (some ⟨pb, poo, none⟩) objs.length cp) ∧ w'.cell? ⟨ob, oo + ti * 4 + 2, none⟩ = some (.slice (some ⟨sb, so, none⟩) o'.ss.length cs) ∧ w'.cell? ⟨pb, poo + ti * 2, none⟩ = some (.int .i64 (A : Int)) ∧ w'.cell? ⟨pb, poo + ti * 2 + 1, none⟩ = some (.int .i64 (D : Int)) ∧ w'.cell? ⟨sb, so + tk * 5, none⟩ = some (.string d.name) ∧ w'.cell? ⟨sb, so + tk * 5 + 1, none⟩ = some (.int .i64 d.sect) ∧ w'.cell? ⟨sb, so + tk * 5 + 2, none⟩ = some (.int .i64 d.val) ∧ w'.cell? ⟨sb, so + tk * 5 + 3, none⟩ = some (.int .i64 d.frame) ∧ w'.cell? ⟨sb, so + tk * 5 + 4, none⟩ = some (.bool d.glob) ∧ w'.cell? ⟨w.heap.size, 0, none⟩ = some (.int .i64 (ti : Int)) ∧ w'.cell? ⟨w.heap.size, 1, none⟩ = some (.int .i64 (tk : Int))) from fun w' hb => by
    have hc := hb1.trans (hb.mono (by omega))
    exact ⟨(hc.cell (p := ⟨bp, 0, none⟩) (by show bp < w.heap.size; omega)).trans e0, (hc.cell (p := ⟨bp, 4, none⟩) (by show bp < w.heap.size; omega)).trans e4, (hc.cell (p := ⟨ob, oo + ti * 4 + 2, none⟩) (by show ob < w.heap.size; omega)).trans k2, (hc.cell (p := ⟨pb, poo + ti * 2, none⟩) (by show pb < w.heap.size; omega)).trans p0, (hc.cell (p := ⟨pb, poo + ti * 2 + 1, none⟩) (by show pb < w.heap.size; omega)).trans p1,
     (hc.cell (p := ⟨sb, so + tk * 5, none⟩) (by show sb < w.heap.size; omega)).trans s0, (hc.cell (p := ⟨sb, so + tk * 5 + 1, none⟩) (by show sb < w.heap.size; omega)).trans s1, (hc.cell (p := ⟨sb, so + tk * 5 + 2, none⟩) (by show sb < w.heap.size; omega)).trans s2, (hc.cell (p := ⟨sb, so + tk * 5 + 3, none⟩) (by show sb < w.heap.size; omega)).trans s3, (hc.cell (p := ⟨sb, so + tk * 5 + 4, none⟩) (by show sb < w.heap.size; omega)).trans s4,
     (hb.cell (p := ⟨w.heap.size, 0, none⟩) (by show w.heap.size < W1.heap.size; omega)).trans b0, (hb.cell (p := ⟨w.heap.size, 1, none⟩) (by show w.heap.size < W1.heap.size; omega)).trans b1⟩)
  have d1 : decide ((ti : Int) < (objs.length : Int)) = true := decide_eq_true (by omega)
  have d2 : decide ((tk : Int) < (o'.ss.length : Int)) = true := decide_eq_true (by omega)
  have d3 : decide ((0 : Int) ≤ (ti : Int)) = true := decide_eq_true (by omega)
  have d4 : decide ((0 : Int) ≤ (tk : Int)) = true := decide_eq_true (by omega)
  have hk1 : (ti : Int) < (objs.length : Int) := by omega
  have hk2 : (tk : Int) < (o'.ss.length : Int) := by omega
  have hk3 : (0 : Int) ≤ (ti : Int) := by omega
  have hk4 : (0 : Int) ≤ (tk : Int) := by omega
  have HB1 := Lib.hid hb1
  have HW1 := Lib.hid hs1
  clear e0 e4 k2 p0 p1 s0 s1 s2 s3 s4 b0 b1 hb1 hs1
  go_enter Tryz.func72, Tryz.ntmps72
  go_upto_region 1 with fail
  rw [← hW1]
  clear hW1
  go_region_held3 (fun w' => (w'.cell? ⟨bp, 0, none⟩ = some (.slice (some ⟨ob, oo, none⟩) objs.length co) ∧ w'.cell? ⟨bp, 4, none⟩ = some (.slice (some ⟨pb, poo, none⟩) objs.length cp) ∧ w'.cell? ⟨ob, oo + ti * 4 + 2, none⟩ = some (.slice (some ⟨sb, so, none⟩) o'.ss.length cs) ∧ w'.cell? ⟨pb, poo + ti * 2, none⟩ = some (.int .i64 (A : Int)) ∧ w'.cell? ⟨pb, poo + ti * 2 + 1, none⟩ = some (.int .i64 (D : Int)) ∧ w'.cell? ⟨sb, so + tk * 5, none⟩ = some (.string d.name) ∧ w'.cell? ⟨sb, so + tk * 5 + 1, none⟩ = some (.int .i64 d.sect) ∧ w'.cell? ⟨sb, so + tk * 5 + 2, none⟩ = some (.int .i64 d.val) ∧ w'.cell? ⟨sb, so + tk * 5 + 3, none⟩ = some (.int .i64 d.frame) ∧ w'.cell? ⟨sb, so + tk * 5 + 4, none⟩ = some (.bool d.glob) ∧ w'.cell? ⟨w.heap.size, 0, none⟩ = some (.int .i64 (ti : Int)) ∧ w'.cell? ⟨w.heap.size, 1, none⟩ = some (.int .i64 (tk : Int)))) (first | exact HSS.out _ (Below.refl _ _) | exact HSS.out _ (Below.refl _ _).drew | exact HSS.out _ HB2.out | go_keep)
    ((go_at_call 35; (with_reducible refine (ca _).mono ?_); rintro e w2 ⟨rfl, hb2⟩; have HB2 := Lib.hid ((Below.refl W1.heap.size W1).drew.trans (show Below W1.heap.size W1.drew w2 from hb2)); clear hb2))
  go_wp2
  go_ret
  exact ⟨rfl, HB1.out.trans (HB2.out.mono (by have := HW1.out; omega))⟩
end
end KE
end Go.Proofs.YtlmblfkcmhgdaaaGreat
namespace Go.Proofs.YtlmblfkcmhgdaaaGreat
open Go.RowKit
set_option linter.unusedVariables false
set_option linter.unusedSimpArgs false
namespace KP
open OO OJ RsM LM LL LP KB KC KM KE PM
abbrev TW : TypeId := 46
theorem row_one (w : World) (x : Int) : Row .u32 (w.alloc (.cells #[.int .u32 x] TW)) w.heap.size 0 [x] := by
  intro j y hj
  match j, hj with
  | 0, hj => cases hj; exact Lib.cell_of_heap (heap_alloc_new w _) 0
  | j + 1, hj => simp at hj
section
variable {bp g N : Nat} {objs : List ObjV} {ov tv pv : Value} {mi mk : Int} {w w' : World} {bs : List Int}
set_option maxRecDepth 100000 in
set_option maxHeartbeats 4000000 in
theorem patch_ok (E : Env bp g N objs ov tv pv mi mk w) (hg : w.heap[g]? = some (.cells (img bs).toArray TU (0, 0))) (hN : bs.length = N) (hM : N ≤ 2097152) (hb : OJ.Bytes bs) (kd v : Int) (p : Nat) (hv : 0 ≤ v ∧ v ≤ 4294967295) (hp : p + 4 ≤ N)
    (hE : pE kd (word bs p) v p = 0) :
    Calls Tryz.prog 71 #[.pointer (some ⟨bp, 0, none⟩), .int .i64 kd, .int .u32 v, .int .u32 (p : Int)] w fun e w' =>
      e = .returned (.tuple #[]) ∧ w'.heap[g]? = some (.cells (img (put4 bs p (pW kd (word bs p) v p))).toArray TU (0, 0)) ∧ Fr g w w' := by
  have hW := word_bd hb p
  have cw := word_ p E.c5 hg hN hM hp hb
  have cp := fun w => PC.patch_ kd (word bs p) v p ⟨hW.1, hW.2⟩ hv ⟨by omega, by omega⟩ w
  rw [hE] at cp
  have hX := pw_bd (k := kd) (x := word bs p) (p := p) hv
  have HP4 := Lib.hid (show ∀ x, putW bs p [x] [x].length = put4 bs p x from fun x => rfl)
  generalize pW kd (word bs p) v p = X at *
  generalize word bs p = W at *
  have cq := fun (w1 : World) (h1 : Below w.heap.size w w1) => by
    have E1 := E.fr (Fr.alloc (Fr.of h1 (Nat.le_refl _)) (.cells #[.int .u32 X] TW))
    have hgw := E.gw
    have hs := h1.size
    have hg1 : (w1.alloc (.cells #[.int .u32 X] TW)).heap[g]? = some (.cells (img bs).toArray TU (0, 0)) := (Lib.alloc_old _ _ _ (by omega)).trans ((h1.block g hgw).trans hg)
    exact putWords_ (w := w1.alloc (.cells #[.int .u32 X] TW)) (xs := [X]) (c := 1) (p := some ⟨w1.heap.size, 0, none⟩) p (Nat.ne_of_lt E1.lt) E1.c5 hg1 hN hM (by simpa using hp) (fun _ => ⟨w1.heap.size, 0, rfl, by omega, row_one w1 X⟩) (by intro x hx; simp at hx; subst hx; omega)
  simp only [List.length_cons, List.length_nil, Nat.zero_add] at cq
  clear hE hb hg hW E
  go_enter Tryz.func71, Tryz.ntmps71
  go_wp2_with (first
    | (go_at_call 102; (with_reducible refine cw.mono ?_); rintro e w' ⟨rfl, rfl⟩)
    | (go_at_call 101; (with_reducible refine (cp _).mono ?_); rintro e w1 ⟨rfl, hb1⟩; have cq1 := cq w1 hb1; have HB1 := Lib.hid hb1; clear hb1 cp cq)
    | (go_at_call 69; (with_reducible refine cq1.mono ?_); rintro e w2 ⟨rfl, hg2, hp2⟩; have HG2 := Lib.hid hg2; have HP2 := Lib.hid hp2; clear hg2 hp2 cq1))
  go_end0
  exact ⟨rfl, HG2.out, (Fr.alloc (Fr.of HB1.out (Nat.le_refl _)) _).trans (Fr.put HP2.out)⟩
set_option maxRecDepth 100000 in
set_option maxHeartbeats 4000000 in
theorem patch_bad (E : Env bp g N objs ov tv pv mi mk w) (hg : w.heap[g]? = some (.cells (img bs).toArray TU (0, 0))) (hN : bs.length = N) (hM : N ≤ 2097152) (hb : OJ.Bytes bs) (kd v : Int) (p : Nat) (hv : 0 ≤ v ∧ v ≤ 4294967295) (hp : p + 4 ≤ N)
    (hE : pE kd (word bs p) v p ≠ 0) :
    Calls Tryz.prog 71 #[.pointer (some ⟨bp, 0, none⟩), .int .i64 kd, .int .u32 v, .int .u32 (p : Int)] w fun e w' =>
      e = .panicked [{ v := .iface 119 (.int .i64 (pE kd (word bs p) v p)), recovered := false }] ∧ Below w.heap.size w w' := by
  have hW := word_bd hb p
  have cw := word_ p E.c5 hg hN hM hp hb
  have cp := fun w => PC.patch_ kd (word bs p) v p ⟨hW.1, hW.2⟩ hv ⟨by omega, by omega⟩ w
  generalize pE kd (word bs p) v p = X at *
  generalize pW kd (word bs p) v p = Y at *
  generalize word bs p = W at *
  have hX : (X != 0) = true := by simpa using hE
  clear hE hb hg hW E
  go_enter Tryz.func71, Tryz.ntmps71
  go_wp2_with (first
    | (go_at_call 102; (with_reducible refine cw.mono ?_); rintro e w' ⟨rfl, rfl⟩)
    | (go_at_call 101; (with_reducible refine (cp _).mono ?_); rintro e w1 ⟨rfl, hb1⟩; have HB1 := Lib.hid hb1; clear hb1 cp))
  exact ⟨rfl, rfl, HB1.out⟩
end
end KP
end Go.Proofs.YtlmblfkcmhgdaaaGreat
namespace Go.Proofs.YtlmblfkcmhgdaaaGreat
open Go.RowKit
set_option linter.unusedVariables false
set_option linter.unusedSimpArgs false
namespace KL
open OO OJ RsM LM LL LP KB KC KM KE
theorem start_eq : KS.insL.map KS.wordOf = startL := rfl
theorem obAt_get {objs : List ObjV} {k : Nat} (h : k < objs.length) : objs[k]? = some (obAt objs k) := by rw [obAt_eq h]; exact List.getElem?_eq_getElem h
theorem u8_one : (Tryz.prog.info? TU).map (·.size) = some 1 := by kernel_rfl
theorem Bytes.cells (ds : List Int) : ∀ v ∈ img ds, v.oneCell' = true := fun v hv => by
  obtain ⟨x, _, rfl⟩ := List.mem_map.1 hv
  rfl
theorem put_row (w : World) (g : Nat) (cs : Array Value) : Put g w (w.setRow g cs) := ⟨rfl, rfl, rfl, by simp [World.setRow], fun k hk => setRow_other w g k cs (by omega)⟩
/-- bytes laid over others: nothing else has turned -/
theorem copy_run {P : Program} (w : World) (dT sT ty el : TypeId) (hu : P.underlying dT = some (.slice el)) (hz : (P.info? el).map (·.size) = some 1)
    (dp sp : Option Addr) (m mc n nc : Nat) (g off : Nat) (L : List Value) (t : TypeId) (hg : w.heap[g]? = some (.cells L.toArray t (0, 0))) (cs : List Value) (hn : cs.length = Nat.min n m)
    (hpos : 0 < cs.length → dp = some ⟨g, off, none⟩ ∧ ∃ ad, sp = some ad ∧ ∀ j v, cs[j]? = some v → w.cell? (ad.add j) = some v) (hfit : off + cs.length ≤ L.length) (h1 : ∀ v ∈ cs, v.oneCell' = true) :
    ∃ w', (Builtin.copy_ #[dT, sT] ty #[.slice dp m mc, .slice sp n nc]).run P w = .ok (goInt cs.length) w' ∧ w'.heap[g]? = some (.cells (splice L off cs).toArray t (0, 0)) ∧ Put g w w' := by
  rcases Nat.eq_zero_or_pos cs.length with h0 | h0
  · have e : cs = [] := List.eq_nil_of_length_eq_zero h0
    refine ⟨w, ?_, by rw [e]; simpa [splice] using hg, Put.refl _ _⟩
    rw [h0]
    exact run_copy_none (P := P) w dT sT ty el dp sp m mc n nc hu hz (by omega)
  · obtain ⟨e1, ad, e2, hsrc⟩ := hpos h0
    rw [e1, e2]
    refine ⟨_, run_copy_row (P := P) w dT sT ty el g off m mc ad n nc L.toArray t cs hu hz hg hn hsrc (by simpa using hfit) h1, ?_, put_row _ _ _⟩
    simpa [splice] using setRow_heap w g _ _ t _ hg
section
variable {bp g N : Nat} {objs : List ObjV} {ov tv pv : Value} {mi mk : Int} {w w' : World} {bs : List Int}
set_option maxRecDepth 100000 in
set_option maxHeartbeats 8000000 in
theorem lay_ (E : Env bp g N objs ov tv pv mi mk w) (hN : N = dend (szL objs)) (hM : N ≤ 2097152) (hw : ∀ o ∈ objs, o.Wf) (hm : objs.length ≤ 100000) (hg : w.heap[g]? = some (.cells (img (zeros N)).toArray TU (0, 0))) :
    Calls Tryz.prog 44 #[.pointer (some ⟨bp, 0, none⟩)] w fun e w' => e = .returned (.tuple #[]) ∧ w'.heap[g]? = some (.cells (img (laid objs)).toArray TU (0, 0)) ∧ Below g w w' := by
  have hgw := E.gw
  have hlt := E.lt
  have hT0 := tend_le (szL objs)
  have cs := KS.start_ w
  rw [start_eq] at cs
  have HE := Lib.hid E
  have HG := Lib.hid hg
  have HW := Lib.hid hw
  have HN := Lib.hid hN
  have cq := fun (w1 : World) (gs c : Nat) (h1 : Below w.heap.size w w1) (h2 : w.heap.size ≤ gs) (h3 : Row .u32 w1 gs 0 startL) =>
    (show Calls Tryz.prog 69 #[.pointer (some ⟨bp, 0, none⟩), .int .i64 0, .slice (some ⟨gs, 0, none⟩) 3 c] w1 fun e w' => e = .returned (.tuple #[]) ∧ w'.heap[g]? = some (.cells (img (putW (zeros N) 0 startL 3)).toArray TU (0, 0)) ∧ Put g w1 w' from
      putWords_ (w := w1) (xs := startL) (c := c) (p := some ⟨gs, 0, none⟩) 0 (Nat.ne_of_lt HE.out.lt) (HE.out.below (h1.mono (Nat.le_of_lt HE.out.gw))).c5 ((h1.block g HE.out.gw).trans HG.out) (by simp [zeros]) hM (by show 0 + 4 * 3 ≤ N; rw [HN.out]; have := tend_le (szL objs); omega) (fun _ => ⟨gs, 0, rfl, by have := HE.out.gw; omega, h3⟩) (by
        intro x hx
        simp only [startL, List.mem_cons, List.not_mem_nil, or_false] at hx
        rcases hx with rfl | rfl | rfl <;> (have := CL.enc_bd; first | exact ⟨(this _ _ _ _ _).1, by have := (this 40 1 0 0 0).2; omega⟩ | exact ⟨(this _ _ _ _ _).1, by have := (this 18 17 0 0 3).2; omega⟩ | exact ⟨(this _ _ _ _ _).1, by have := (this 42 0 0 0 0).2; omega⟩)))
  obtain ⟨po, co, rfl, ho⟩ := E.ob
  have HO := Lib.hid ho
  have e0 := E.c0
  obtain ⟨pp, cp, rfl, hp⟩ := E.pl
  rw [szL_length] at hp
  have HPL := Lib.hid hp
  have e4 := E.c4
  rw [szL_length] at e4
  have E4 := Lib.hid e4
  have E5 := Lib.hid E.c5
  clear E hg hw hN ho hp e4
  go_enter Tryz.func44, Tryz.ntmps44
  go_wp2_with (first
    | (go_at_call 70; (with_reducible refine cs.mono ?_); rintro e w1 ⟨gs, c, rfl, h2, h2', h3, h1⟩; have cq1 := cq w1 gs c h1 h2 h3; have H1 := Lib.hid h1; have e0' := (h1.cell (p := ⟨bp, 0, none⟩) (by show bp < w.heap.size; omega)).trans e0; clear h1 h3 cs cq)
    | (go_at_call 69; (with_reducible refine cq1.mono ?_); rintro e w2 ⟨rfl, hg2, hp2⟩; have HG2 := Lib.hid hg2; have e0'' := (hp2.cell (o := 0) (Nat.ne_of_lt hlt)).trans e0'; have HB2 := Lib.hid ((H1.out.mono (Nat.le_of_lt hgw)).trans (hp2.below (Nat.le_refl _))); clear hg2 hp2 cq1))
  go_loopw [12] (fun i wr => ∃ k : Nat, k ≤ objs.length ∧ i = .int .i64 k ∧ Hid (wr.heap[g]? = some (.cells (img (layTo objs (putW (zeros N) 0 startL 3) k)).toArray TU (0, 0))) ∧ Hid (Below g w wr)) (fun i _ => objs.length - (intOf i).toNat)
  case atStart => exact ⟨0, Nat.zero_le _, rfl, HG2, HB2⟩
  case round =>
    obtain ⟨k, hk, rfl, HGk, HBk⟩ := hrel
    by_cases hlt' : k < objs.length
    · have hwrs := HBk.out.size
      have hti := text_in hlt'
      have hdi := data_in hlt'
      rw [← HN.out] at hti hdi
      have hlen := layTo_len (objs := objs) (bs := putW (zeros N) 0 startL 3) (by rw [putW_length, ← HN.out]; simp [zeros]) k hk
      rw [← HN.out] at hlen
      have HNX := Lib.hid (show layTo objs (putW (zeros N) 0 startL 3) (k + 1) = putO objs k (layTo objs (putW (zeros N) 0 startL 3) k) from rfl)
      unfold putO at HNX
      generalize layTo objs (putW (zeros N) 0 startL 3) k = bs at *
      obtain ⟨ob, oo, rfl, hob, ho1, ho2, hall⟩ := HO.out (by omega)
      obtain ⟨pb, poo, rfl, hpb, hp1, hp2, hpl⟩ := HPL.out (by omega)
      obtain ⟨P0, P1⟩ := hpl k (by omega)
      have P0 := (HBk.out.cell (p := ⟨pb, poo + k * 2, none⟩) hpb).trans P0
      have P1 := (HBk.out.cell (p := ⟨pb, poo + k * 2 + 1, none⟩) hpb).trans P1
      obtain ⟨v0, v1, v2, v3, k0, k1, k2, k3, hoa⟩ := hall k _ (obAt_get hlt')
      have k0 := (HBk.out.cell (p := ⟨ob, oo + k * 4, none⟩) hob).trans k0
      have k1 := (HBk.out.cell (p := ⟨ob, oo + k * 4 + 1, none⟩) hob).trans k1
      have k2 := (HBk.out.cell (p := ⟨ob, oo + k * 4 + 2, none⟩) hob).trans k2
      have k3 := (HBk.out.cell (p := ⟨ob, oo + k * 4 + 3, none⟩) hob).trans k3
      have hwf := obAt_wf HW.out k
      obtain ⟨p0, q0, rfl, hws⟩ := hoa.ws
      obtain ⟨p1, q1, rfl, hds⟩ := hoa.ds
      obtain ⟨p2, q2, rfl, -⟩ := hoa.ss
      obtain ⟨p3, q3, rfl, -⟩ := hoa.rs
      have e4 := (HBk.out.cell (p := ⟨bp, 4, none⟩) hlt).trans E4.out
      have e5 := (HBk.out.cell (p := ⟨bp, 5, none⟩) hlt).trans E5.out
      have hwb := hwf.ws
      have hdb := hwf.ds
      clear hall hoa hpl hwf
      generalize textAt (szL objs) k = A at *
      generalize dataAt (szL objs) k = D at *
      generalize (obAt objs k).ws = ws at *
      generalize (obAt objs k).ds = ds at *
      generalize (obAt objs k).ss.length = nss at *
      generalize (obAt objs k).rs.length = nrs at *
      obtain ⟨W2, hW2⟩ : ∃ W2, W2 = wr.alloc (.cells #[.slice p0 ws.length q0, .slice p1 ds.length q1, .slice p2 nss q2, .slice p3 nrs q3] TO) := ⟨_, rfl⟩
      have hb2 : Below wr.heap.size wr W2 := by rw [hW2]; exact (Below.refl _ _).alloc (Nat.le_refl _) _
      have hs2 : W2.heap.size = wr.heap.size + 1 := by rw [hW2, World.size_alloc]
      have b0 : W2.cell? ⟨wr.heap.size, 0, none⟩ = some (.slice p0 ws.length q0) := by rw [hW2]; exact Lib.cell_of_heap (heap_alloc_new wr _) 0
      have b1 : W2.cell? ⟨wr.heap.size, 1, none⟩ = some (.slice p1 ds.length q1) := by rw [hW2]; exact Lib.cell_of_heap (heap_alloc_new wr _) 1
      have hgr : g < wr.heap.size := by omega
      have HSS := Lib.hid (show ∀ w', Fr g W2 w' → (w'.cell? ⟨bp, 4, none⟩ = some (.slice (some ⟨pb, poo, none⟩) objs.length cp) ∧ w'.cell? ⟨bp, 5, none⟩ = some (.slice (some ⟨g, 0, none⟩) N N) ∧ w'.cell? ⟨pb, poo + k * 2, none⟩ = some (.int .i64 (A : Int)) ∧ w'.cell? ⟨pb, poo + k * 2 + 1, none⟩ = some (.int .i64 (D : Int)) ∧ w'.cell? ⟨wr.heap.size, 0, none⟩ = some (.slice p0 ws.length q0) ∧ w'.cell? ⟨wr.heap.size, 1, none⟩ = some (.slice p1 ds.length q1)) from fun w' hf => by
        have hc : Fr g wr w' := (Fr.of hb2 (Nat.le_refl _)).trans hf
        exact ⟨(hc.cell (by omega) (by omega)).trans e4, (hc.cell (by omega) (by omega)).trans e5, (hc.cell (by omega) (by omega)).trans P0, (hc.cell (by omega) (by omega)).trans P1, (hf.cell (by omega) (by omega)).trans b0, (hf.cell (by omega) (by omega)).trans b1⟩)
      have cp2 := putWords_ (w := W2.drew) (bs := bs) (xs := ws) (c := q0) (p := p0) A (by omega) (HSS.out _ (Fr.refl _ _).drew).2.1 ((hb2.block g hgr).trans HGk.out) hlen hM (by omega) (fun h0 => by
        obtain ⟨b, o, e, hb, -, -, hr⟩ := hws h0
        exact ⟨b, o, e, by omega, row_below hr ((HBk.out.trans (hb2.mono (by omega))).drew) hb⟩) hwb
      have HDS := Lib.hid hds
      have HDB := Lib.hid hdb
      have HB2' := Lib.hid hb2
      have HS2 := Lib.hid hs2
      unfold maxLen at ho2 hp2
      have d1 : (k : Int) < (objs.length : Int) := by omega
      have d2 : (0 : Int) ≤ (k : Int) := by omega
      clear P0 P1 e4 e5 b0 b1 hb2 hs2 hds hdb hws hwb
      go_upto_region 4 with fail
      rw [← hW2]
      clear hW2 k0 k1 k2 k3
      go_region_held3 (fun w' => (w'.cell? ⟨bp, 4, none⟩ = some (.slice (some ⟨pb, poo, none⟩) objs.length cp) ∧ w'.cell? ⟨bp, 5, none⟩ = some (.slice (some ⟨g, 0, none⟩) N N) ∧ w'.cell? ⟨pb, poo + k * 2, none⟩ = some (.int .i64 (A : Int)) ∧ w'.cell? ⟨pb, poo + k * 2 + 1, none⟩ = some (.int .i64 (D : Int)) ∧ w'.cell? ⟨wr.heap.size, 0, none⟩ = some (.slice p0 ws.length q0) ∧ w'.cell? ⟨wr.heap.size, 1, none⟩ = some (.slice p1 ds.length q1))) (first | exact HSS.out _ (Fr.refl _ _) | exact HSS.out _ (Fr.refl _ _).drew | exact HSS.out _ HF4.out | go_keep)
        ((go_at_call 69; (with_reducible refine cp2.mono ?_); rintro e w4 ⟨rfl, hg4, hp4⟩; have HG4 := Lib.hid hg4; have HF4 := Lib.hid ((Fr.refl g W2).drew.trans (Fr.put hp4)); clear hg4 hp4 cp2))
      have HN' := Lib.hid hlen
      have hpl' : (img (putW bs A ws ws.length)).length = N := by rw [img_length, putW_length, hlen]
      have HGX := Lib.hid (show splice (img (putW bs A ws ws.length)) D (img ds) = img (splice (putW bs A ws ws.length) D ds) from img_splice _ _ _)
      generalize putW bs A ws ws.length = bs2 at *
      have HCP := Lib.hid (show 0 < (img ds).length → ∃ ad, p1 = some ad ∧ ∀ j v, (img ds)[j]? = some v → w4.cell? (ad.add j) = some v from fun h0 => by
        rw [img_length] at h0
        obtain ⟨b, o, e, hb, -, -, hr⟩ := HDS.out h0
        refine ⟨_, e, fun j v hv => ?_⟩
        unfold img at hv
        rw [List.getElem?_map] at hv
        cases hd : ds[j]? with
        | none => rw [hd] at hv; cases hv
        | some x =>
          rw [hd] at hv
          cases hv
          rw [add_plain]
          exact row_below hr ((HBk.out.trans (HB2'.out.mono (by omega))).trans (HF4.out.below (Nat.le_refl _) (by have := HS2.out; omega))) hb j x hd)
      have hil : (img ds).length = ds.length := img_length ds
      have hic := Bytes.cells ds
      have HFX := Lib.hid (show ∀ w', Put g w4 w' → (w'.cell? ⟨bp, 4, none⟩ = some (.slice (some ⟨pb, poo, none⟩) objs.length cp) ∧ w'.cell? ⟨bp, 5, none⟩ = some (.slice (some ⟨g, 0, none⟩) N N) ∧ w'.cell? ⟨pb, poo + k * 2, none⟩ = some (.int .i64 (A : Int)) ∧ w'.cell? ⟨pb, poo + k * 2 + 1, none⟩ = some (.int .i64 (D : Int)) ∧ w'.cell? ⟨wr.heap.size, 0, none⟩ = some (.slice p0 ws.length q0) ∧ w'.cell? ⟨wr.heap.size, 1, none⟩ = some (.slice p1 ds.length q1)) from fun w' hp => HSS.out _ (HF4.out.trans (Fr.put hp)))
      generalize img ds = cs at *
      generalize img bs2 = bv at *
      have K0 : D ≤ N := by omega
      by_cases hDN : D = N
      · have K2 : ds.length = 0 := by omega
        obtain ⟨w5, hrun, hg5, hp5⟩ := copy_run (P := Tryz.prog) w4.drew 26 26 3 TU Tryz.underlying26 u8_one (some ⟨g, 0, none⟩) p1 0 0 ds.length q1 g D bv TU HG4.out cs (by rw [hil, K2]; rfl) (fun h0 => absurd h0 (by omega)) (by omega) hic
        have HG5 := Lib.hid hg5
        have HP5 := Lib.hid ((Put.refl g w4).drew.trans hp5)
        clear hg5 hp5
        rw [K2] at hrun
        go_upto_region 5 with fail
        go_region_held3 (fun w' => (w'.cell? ⟨bp, 4, none⟩ = some (.slice (some ⟨pb, poo, none⟩) objs.length cp) ∧ w'.cell? ⟨bp, 5, none⟩ = some (.slice (some ⟨g, 0, none⟩) N N) ∧ w'.cell? ⟨pb, poo + k * 2, none⟩ = some (.int .i64 (A : Int)) ∧ w'.cell? ⟨pb, poo + k * 2 + 1, none⟩ = some (.int .i64 (D : Int)) ∧ w'.cell? ⟨wr.heap.size, 0, none⟩ = some (.slice p0 ws.length q0) ∧ w'.cell? ⟨wr.heap.size, 1, none⟩ = some (.slice p1 ds.length q1))) (first | exact HFX.out _ (Put.refl _ _) | exact HFX.out _ (Put.refl _ _).drew | exact HFX.out _ HP5.out | go_keep)
          ((rw [hrun]; go_simp))
        go_wp2
        refine ⟨⟨k + 1, by omega, by go_num, Lib.hid ?_, Lib.hid ((HBk.out.trans (HB2'.out.mono (by omega))).trans ((HF4.out.trans (Fr.put HP5.out)).below (Nat.le_refl _) (by have := HS2.out; omega)))⟩, by simp [intOf]; omega⟩
        rw [HNX.out, ← HGX.out]
        exact HG5.out
      · have K1 : D < N := by omega
        obtain ⟨w5, hrun, hg5, hp5⟩ := copy_run (P := Tryz.prog) w4.drew 26 26 3 TU Tryz.underlying26 u8_one (some ⟨g, D, none⟩) p1 (N - D) (N - D) ds.length q1 g D bv TU HG4.out cs (by rw [hil]; exact (Nat.min_eq_left (by omega)).symm) (fun h0 => ⟨rfl, HCP.out h0⟩) (by omega) hic
        have HG5 := Lib.hid hg5
        have HP5 := Lib.hid ((Put.refl g w4).drew.trans hp5)
        clear hg5 hp5
        go_upto_region 5 with fail
        go_region_held3 (fun w' => (w'.cell? ⟨bp, 4, none⟩ = some (.slice (some ⟨pb, poo, none⟩) objs.length cp) ∧ w'.cell? ⟨bp, 5, none⟩ = some (.slice (some ⟨g, 0, none⟩) N N) ∧ w'.cell? ⟨pb, poo + k * 2, none⟩ = some (.int .i64 (A : Int)) ∧ w'.cell? ⟨pb, poo + k * 2 + 1, none⟩ = some (.int .i64 (D : Int)) ∧ w'.cell? ⟨wr.heap.size, 0, none⟩ = some (.slice p0 ws.length q0) ∧ w'.cell? ⟨wr.heap.size, 1, none⟩ = some (.slice p1 ds.length q1))) (first | exact HFX.out _ (Put.refl _ _) | exact HFX.out _ (Put.refl _ _).drew | exact HFX.out _ HP5.out | go_keep)
          ((rw [hrun]; go_simp))
        go_wp2
        refine ⟨⟨k + 1, by omega, by go_num, Lib.hid ?_, Lib.hid ((HBk.out.trans (HB2'.out.mono (by omega))).trans ((HF4.out.trans (Fr.put HP5.out)).below (Nat.le_refl _) (by have := HS2.out; omega)))⟩, by simp [intOf]; omega⟩
        rw [HNX.out, ← HGX.out]
        exact HG5.out
    · obtain rfl : k = objs.length := by omega
      go_wp2
      go_end0
      exact ⟨rfl, by rw [← show layTo objs (putW (zeros N) 0 startL 3) objs.length = laid objs by unfold laid; rw [← HN.out]]; exact HGk.out, HBk.out⟩
end
end KL
end Go.Proofs.YtlmblfkcmhgdaaaGreat
namespace Go.Proofs.YtlmblfkcmhgdaaaGreat
open Go.RowKit
set_option linter.unusedVariables false
set_option linter.unusedSimpArgs false
namespace KR
open OO OJ RsM LM LL LP KB KC KM KE KP KL KN PM RsY RsB
abbrev TL : TypeId := 59
def RelOut (g : Nat) (objs : List ObjV) (w : World) (e : Ending) (w' : World) : Prop := Below g w w' ∧
  (((linkS objs).2 = 0 ∧ e = .returned (.tuple #[]) ∧ w'.heap[g]? = some (.cells (img (linkS objs).1).toArray TU (0, 0))) ∨
   ((linkS objs).2 ≠ 0 ∧ e = .panicked [{ v := .iface 119 (.int .i64 (linkS objs).2), recovered := false }]))
def Now (g N : Nat) (s : St) (w wr : World) (bs : List Int) : Prop := s = (bs, 0) ∧ bs.length = N ∧ OJ.Bytes bs ∧ wr.heap[g]? = some (.cells (img bs).toArray TU (0, 0)) ∧ Below g w wr
section
variable {bp g N : Nat} {objs : List ObjV} {ov tv pv : Value} {mi mk : Int} {w w' : World}
set_option maxRecDepth 100000 in
set_option maxHeartbeats 16000000 in
theorem relocate_ (E : Env bp g N objs ov tv pv mi mk w) (hN : N = dend (szL objs)) (hM : N ≤ 2097152) (hw : ∀ o ∈ objs, o.Wf) (hm : objs.length ≤ 100000) (hmr : ∀ o ∈ objs, o.rs.length ≤ 100000) (hmain : mainOut objs = (mi, mk, 0)) (hg : w.heap[g]? = some (.cells (img (laid objs)).toArray TU (0, 0))) :
    Calls Tryz.prog 45 #[.pointer (some ⟨bp, 0, none⟩)] w (RelOut g objs w) := by
  obtain ⟨hrc, ma, mb, mo, md, rfl, rfl, hma, hmb, hmd⟩ := main_at hmain
  have hgw := E.gw
  have hlt := E.lt
  have hz := tend_le (szL objs)
  have hll := laid_len objs
  rw [← hN] at hll
  have hlb := laid_bytes hw
  have ca := address_ E ma mb hma hmb
  have e1 := E.c1
  have e2 := E.c2
  have hadr : 0 ≤ adrOf objs ma mb ∧ adrOf objs ma mb ≤ 4294967295 := by unfold adrOf; have := adr_bd (textAt (szL objs) (ma : Int).toNat : Nat) (dataAt (szL objs) (ma : Int).toNat : Nat) ((obAt objs (ma : Int).toNat).ss.getD (mb : Int).toNat noSym).sect ((obAt objs (ma : Int).toNat).ss.getD (mb : Int).toNat noSym).val; omega
  have hs0 : start0 objs = stp (laid objs) 4 (adrOf objs ma mb) (0 : Nat) := by unfold start0; rw [hmain]; rfl
  have HE := Lib.hid E
  have HG := Lib.hid hg
  by_cases h0 : pE 4 (word (laid objs) 0) (adrOf objs ma mb) (0 : Nat) = 0
  · have hs1 := stp_yes h0
    rw [← hs0] at hs1
    have hl1 : (put4 (laid objs) 0 (pW 4 (word (laid objs) 0) (adrOf objs ma mb) (0 : Nat))).length = N := by rw [put4_length]; exact hll
    have hb1 := put4_bytes hlb 0 (pW 4 (word (laid objs) 0) (adrOf objs ma mb) (0 : Nat))
    have cp := fun (w1 : World) (h1 : Below w.heap.size w w1) =>
      (show Calls Tryz.prog 71 #[.pointer (some ⟨bp, 0, none⟩), .int .i64 4, .int .u32 (adrOf objs ma mb), .int .u32 0] w1 _ from
        patch_ok (HE.out.below (h1.mono (Nat.le_of_lt HE.out.gw))) ((h1.block g HE.out.gw).trans HG.out) hll hM hlb 4 (adrOf objs ma mb) 0 hadr (by omega) h0)
    generalize put4 (laid objs) 0 (pW 4 (word (laid objs) 0) (adrOf objs ma mb) (0 : Nat)) = bs1 at *
    have HS1 := Lib.hid hs1
    have HL1 := Lib.hid hl1
    have HB1 := Lib.hid hb1
    have hLS : linkS objs = allTo objs (start0 objs) objs.length := by unfold linkS; rw [hs1]; rfl
    have HLS := Lib.hid hLS
    obtain ⟨po, co, rfl, ho⟩ := E.ob
    have HO := Lib.hid ho
    have e0 := E.c0
    obtain ⟨pp, cp', rfl, hp⟩ := E.pl
    rw [szL_length] at hp
    have HPL := Lib.hid hp
    have e4 := E.c4
    rw [szL_length] at e4
    have E4 := Lib.hid e4
    obtain ⟨pt, ct, rfl, ht⟩ := E.tg
    rw [KZ.tgL_ok hrc] at ht
    have HT := Lib.hid ht
    have e3 := E.c3
    rw [KZ.tgL_ok hrc] at e3
    have E3 := Lib.hid e3
    have HW := Lib.hid hw
    have HMR := Lib.hid hmr
    have HRC := Lib.hid hrc
    have HN := Lib.hid hN
    clear ho hp ht e3 e4 E hg hs1 hl1 hb1 hLS hs0 h0 hll hlb hN hw hmr hrc hmain hz
    generalize hA0 : adrOf objs ma mb = A0 at *
    have HA0 := Lib.hid hA0
    clear hA0
    go_enter Tryz.func45, Tryz.ntmps45
    go_wp2_with (first
      | (go_at_call 72; (with_reducible refine ca.mono ?_); rintro e w1 ⟨rfl, h1⟩; have cp1 := cp w1 h1; have e0' := (h1.cell (p := ⟨bp, 0, none⟩) (by show bp < w.heap.size; omega)).trans e0; have H1 := Lib.hid (h1.mono (Nat.le_of_lt hgw)); clear h1 ca cp)
      | (go_at_call 71; (with_reducible refine cp1.mono ?_); rintro e w2 ⟨rfl, hg2, hf2⟩; have HG2 := Lib.hid hg2; have hgw1 := H1.out.size; have HB2 := Lib.hid (H1.out.trans (hf2.below (Nat.le_refl _) (by omega))); have e0'' := (HB2.out.cell (p := ⟨bp, 0, none⟩) hlt).trans e0; clear hg2 hf2 cp1 e0'))
    go_loopw [20] (fun ix wr => ∃ i : Nat, i ≤ objs.length ∧ ix = .int .i64 i ∧ ∃ bs, Hid (Now g N (allTo objs (start0 objs) i) w wr bs)) (fun ix _ => objs.length - (intOf ix).toNat)
    case atStart => exact ⟨0, Nat.zero_le _, rfl, bs1, Lib.hid ⟨HS1.out, HL1.out, HB1.out, HG2.out, HB2.out⟩⟩
    case round =>
      obtain ⟨i, hi, rfl, bsi, HNi⟩ := hrel
      by_cases hlt' : i < objs.length
      · obtain ⟨ob, oo, rfl, hob, ho1, ho2, hall⟩ := HO.out (by omega)
        obtain ⟨v0, v1, v2, v3, k0, k1, k2, k3, hoa⟩ := hall i _ (obAt_get hlt')
        have k0 := (HNi.out.2.2.2.2.cell (p := ⟨ob, oo + i * 4, none⟩) hob).trans k0
        have k1 := (HNi.out.2.2.2.2.cell (p := ⟨ob, oo + i * 4 + 1, none⟩) hob).trans k1
        have k2 := (HNi.out.2.2.2.2.cell (p := ⟨ob, oo + i * 4 + 2, none⟩) hob).trans k2
        have k3 := (HNi.out.2.2.2.2.cell (p := ⟨ob, oo + i * 4 + 3, none⟩) hob).trans k3
        obtain ⟨q0, d0, rfl, -⟩ := hoa.ws
        obtain ⟨q1, d1, rfl, -⟩ := hoa.ds
        obtain ⟨q2, d2, rfl, -⟩ := hoa.ss
        obtain ⟨q3, d3, rfl, hrs⟩ := hoa.rs
        have HRS := Lib.hid hrs
        have hrl := HMR.out _ (show obAt objs i ∈ objs by rw [obAt_eq hlt']; exact List.getElem_mem hlt')
        have hwf := obAt_wf HW.out i
        have HWF := Lib.hid hwf
        unfold maxLen at ho2
        have z1 : (i : Int) < (objs.length : Int) := by omega
        have z2 : (0 : Int) ≤ (i : Int) := by omega
        clear hall hoa hrs hwf
        obtain ⟨nr, hnr⟩ : ∃ nr, nr = (obAt objs i).rs.length := ⟨_, rfl⟩
        rw [← hnr] at k3 hrl
        have HNR := Lib.hid hnr
        clear hnr
        obtain ⟨wo, rfl⟩ : ∃ wo : World, wo = wr := ⟨_, rfl⟩
        go_wp2
        have hb3 : Below g w (wo.alloc (.cells #[.slice q0 (obAt objs i).ws.length d0, .slice q1 (obAt objs i).ds.length d1, .slice q2 (obAt objs i).ss.length d2, .slice q3 nr d3] TO)) := HNi.out.2.2.2.2.alloc (by have := HNi.out.2.2.2.2.size; omega) _
        go_loopw [28] (fun ix wr => ∃ k : Nat, k ≤ nr ∧ ix = .int .i64 k ∧ ∃ bs, Hid (Now g N (relTo objs i (allTo objs (start0 objs) i) k) w wr bs)) (fun ix _ => nr - (intOf ix).toNat)
        case atStart =>
          refine ⟨0, Nat.zero_le _, rfl, bsi, Lib.hid ⟨HNi.out.1, HNi.out.2.1, HNi.out.2.2.1, ?_, hb3⟩⟩
          have hs := HNi.out.2.2.2.2.size
          exact (Lib.alloc_old _ _ _ (by omega)).trans HNi.out.2.2.2.1
        case round =>
          obtain ⟨k, hk, rfl, bs, HNk⟩ := hrel
          by_cases hltk : k < nr
          · have hnr := HNR.out
            obtain ⟨wst, wle⟩ := where_in HRC.out (by rw [← HN.out]; exact hM) hlt' (k := k) (by omega)
            rw [← HN.out] at wle
            obtain ⟨sy0, sy1⟩ := rel_sym (show ORl.relOk (obAt objs i).ws (obAt objs i).ds.length (obAt objs i).ss.length (relV objs i k) = true from rel_ok (KN.chk_at HRC.out hlt') (k := k) (by omega))
            obtain ⟨ti, tk, o', d, rt, t1, t2, t3, t4, t5, t6, -⟩ := tgt_at HRC.out hlt' sy0 sy1
            have hrv : (obAt objs i).rs[k]? = some (relV objs i k) := by unfold relV; rw [List.getD_eq_getElem?_getD, List.getElem?_eq_getElem (by omega)]; rfl
            obtain ⟨sb, so, rfl, hsb, hs1, hs2_, hrel⟩ := HRS.out (by omega)
            unfold maxLen at hs2_
            have hra := hrel k _ hrv
            have hwr := HNk.out.2.2.2.2.size
            have hBk := HNk.out.2.2.2.2
            have r0 := (hBk.cell (p := ⟨sb, so + k * 5, none⟩) hsb).trans hra.c0
            have r1 := (hBk.cell (p := ⟨sb, so + k * 5 + 1, none⟩) hsb).trans hra.c1
            have r2 := (hBk.cell (p := ⟨sb, so + k * 5 + 2, none⟩) hsb).trans hra.c2
            have r3 := (hBk.cell (p := ⟨sb, so + k * 5 + 3, none⟩) hsb).trans hra.c3
            have r4 := (hBk.cell (p := ⟨sb, so + k * 5 + 4, none⟩) hsb).trans hra.c4
            obtain ⟨tb, to_, rfl, htb, ht1, ht2, htall⟩ := HT.out (by omega)
            obtain ⟨vr, y2, hvr⟩ := htall i rt t4
            obtain ⟨pr, cr, rfl, hvr⟩ := hvr
            rw [t5] at y2 hvr
            obtain ⟨rb, ro, rfl, hrb, hr1, hr2, hrow⟩ := hvr (by omega)
            obtain ⟨y0, y1⟩ := hrow _ _ t6
            obtain ⟨pb, poo, rfl, hpb, hp1, hp2, hpl⟩ := HPL.out (by omega)
            obtain ⟨y3, y4⟩ := hpl i (by omega)
            have P0 := (hBk.cell (p := ⟨pb, poo + i * 2, none⟩) hpb).trans y3
            have P1 := (hBk.cell (p := ⟨pb, poo + i * 2 + 1, none⟩) hpb).trans y4
            have c_r := (hBk.cell (p := ⟨tb, to_ + i, none⟩) htb).trans y2
            have c_t0 := (hBk.cell (p := ⟨rb, ro + (relV objs i k).sym.toNat * 2, none⟩) hrb).trans y0
            have c_t1 := (hBk.cell (p := ⟨rb, ro + (relV objs i k).sym.toNat * 2 + 1, none⟩) hrb).trans y1
            have e3 := (hBk.cell (p := ⟨bp, 3, none⟩) hlt).trans E3.out
            have e4 := (hBk.cell (p := ⟨bp, 4, none⟩) hlt).trans E4.out
            have hval : KM.valOf objs i k = (adrOf objs ti tk + (relV objs i k).add) % 4294967296 := by unfold KM.valOf; rw [t1]
            have hadr : 0 ≤ adrOf objs ti tk ∧ adrOf objs ti tk < 4294967296 := by unfold adrOf; exact adr_bd _ _ _ _
            have hwh : whereOf objs i k = adr (textAt (szL objs) i : Nat) (dataAt (szL objs) i : Nat) (relV objs i k).sect (relV objs i k).place := rfl
            have hnext : relTo objs i (allTo objs (start0 objs) i) (k + 1) = stp bs (relV objs i k).kind (KM.valOf objs i k) (whereN objs i k : Nat) := by rw [relTo, HNk.out.1, if_pos rfl, wst]
            have hfar := fun he => far_at (s := start0 objs) hlt' (k := k) (by omega) HNk.out.1 he
            rw [wst] at hwh hfar
            have hwfr := HWF.out.rs _ (List.mem_of_getElem? hrv)
            have hEk := HE.out.below hBk
            have HEK := Lib.hid hEk
            have ca := fun (W : World) (h : Fr g wr W) => address_ (HEK.out.fr h) ti tk t2 t3
            have hm1 := (HNk.out.2.1)
            have hm2 := (HNk.out.2.2.1)
            have hm3 := (HNk.out.2.2.2.1)
            have HM3 := Lib.hid hm3
            obtain ⟨sy, hsy⟩ : ∃ sy : Nat, (relV objs i k).sym = sy := ⟨(relV objs i k).sym.toNat, by omega⟩
            rw [hsy] at r3 c_t0 c_t1 sy1
            rw [Int.toNat_natCast] at c_t0 c_t1
            have HNX := Lib.hid hnext
            have HFAR := Lib.hid hfar
            have HWH := Lib.hid hwh
            clear hra hrel hrow htall hpl hrv t4 t6 t1 t2 t3 hnext hfar hwh wst sy0 hEk hm3 y0 y1 y2 y3 y4
            have cwh := fun w => LQ.Where_ (textAt (szL objs) i : Nat) (dataAt (szL objs) i : Nat) (relV objs i k) w
            generalize (textAt (szL objs) i : Nat) = A at *
            generalize (dataAt (szL objs) i : Nat) = D at *
            generalize (obAt objs i).ss.length = nss at *
            rw [← HWH.out] at cwh
            generalize whereN objs i k = pn at *
            generalize adrOf objs ti tk = AD at *
            generalize KM.valOf objs i k = VV at *
            generalize relV objs i k = rr at *
            obtain ⟨se, pl, kd, sy', ad⟩ := rr
            simp only at r0 r1 r2 r3 r4 hval cwh HNX HFAR hsy
            subst hsy
            have HVV := Lib.hid (show IntKind.u32.wrap (AD + IntKind.u32.wrap ad) = VV by rw [hval, u32_mod, u32_mod]; omega)
            have hvb : 0 ≤ VV ∧ VV ≤ 4294967295 := by rw [hval]; omega
            clear hval
            obtain ⟨W2, hW2⟩ : ∃ W2, W2 = wr.alloc (.cells #[.int .i64 se, .int .i64 pl, .int .i64 kd, .int .i64 (sy : Int), .int .i64 ad] TL) := ⟨_, rfl⟩
            have hb2 : Below wr.heap.size wr W2 := by rw [hW2]; exact (Below.refl _ _).alloc (Nat.le_refl _) _
            have hs2 : W2.heap.size = wr.heap.size + 1 := by rw [hW2, World.size_alloc]
            have b0 : W2.cell? ⟨wr.heap.size, 0, none⟩ = some (.int .i64 se) := by rw [hW2]; exact Lib.cell_of_heap (heap_alloc_new wr _) 0
            have b1 : W2.cell? ⟨wr.heap.size, 1, none⟩ = some (.int .i64 pl) := by rw [hW2]; exact Lib.cell_of_heap (heap_alloc_new wr _) 1
            have b2 : W2.cell? ⟨wr.heap.size, 2, none⟩ = some (.int .i64 kd) := by rw [hW2]; exact Lib.cell_of_heap (heap_alloc_new wr _) 2
            have b3 : W2.cell? ⟨wr.heap.size, 3, none⟩ = some (.int .i64 (sy : Int)) := by rw [hW2]; exact Lib.cell_of_heap (heap_alloc_new wr _) 3
            have b4 : W2.cell? ⟨wr.heap.size, 4, none⟩ = some (.int .i64 ad) := by rw [hW2]; exact Lib.cell_of_heap (heap_alloc_new wr _) 4
            have hgr : g < wr.heap.size := by omega
            have HSS := Lib.hid (show ∀ w', Fr g W2 w' → (w'.cell? ⟨bp, 3, none⟩ = some (.slice (some ⟨tb, to_, none⟩) objs.length ct) ∧ w'.cell? ⟨bp, 4, none⟩ = some (.slice (some ⟨pb, poo, none⟩) objs.length cp') ∧ w'.cell? ⟨tb, to_ + i, none⟩ = some (.slice (some ⟨rb, ro, none⟩) nss cr) ∧ w'.cell? ⟨rb, ro + sy * 2, none⟩ = some (.int .i64 (ti : Int)) ∧ w'.cell? ⟨rb, ro + sy * 2 + 1, none⟩ = some (.int .i64 (tk : Int)) ∧ w'.cell? ⟨pb, poo + i * 2, none⟩ = some (.int .i64 (A : Int)) ∧ w'.cell? ⟨pb, poo + i * 2 + 1, none⟩ = some (.int .i64 (D : Int)) ∧ w'.cell? ⟨wr.heap.size, 0, none⟩ = some (.int .i64 se) ∧ w'.cell? ⟨wr.heap.size, 1, none⟩ = some (.int .i64 pl) ∧ w'.cell? ⟨wr.heap.size, 2, none⟩ = some (.int .i64 kd) ∧ w'.cell? ⟨wr.heap.size, 3, none⟩ = some (.int .i64 (sy : Int)) ∧ w'.cell? ⟨wr.heap.size, 4, none⟩ = some (.int .i64 ad)) from fun w' hf => by
              have hc : Fr g wr w' := (Fr.of hb2 (Nat.le_refl _)).trans hf
              exact ⟨(hc.cell (by omega) (by omega)).trans e3, (hc.cell (by omega) (by omega)).trans e4, (hc.cell (by omega) (by omega)).trans c_r, (hc.cell (by omega) (by omega)).trans c_t0, (hc.cell (by omega) (by omega)).trans c_t1, (hc.cell (by omega) (by omega)).trans P0, (hc.cell (by omega) (by omega)).trans P1,
                (hf.cell (by omega) (by omega)).trans b0, (hf.cell (by omega) (by omega)).trans b1, (hf.cell (by omega) (by omega)).trans b2, (hf.cell (by omega) (by omega)).trans b3, (hf.cell (by omega) (by omega)).trans b4⟩)
            have HB2' := Lib.hid hb2
            have HS2 := Lib.hid hs2
            have HF2 := Lib.hid (Fr.of (g := g) hb2 (Nat.le_refl _))
            unfold maxLen at ht2 hr2 hp2
            have z3 : (sy : Int) < (nss : Int) := by omega
            have z4 : (0 : Int) ≤ (sy : Int) := by omega
            have z5 : (k : Int) < (nr : Int) := by omega
            have z6 : (0 : Int) ≤ (k : Int) := by omega
            have ca2 := ca W2.drew HF2.out.drew
            have HBK := Lib.hid hBk
            clear P0 P1 e3 e4 b0 b1 b2 b3 b4 hb2 hs2 c_r c_t0 c_t1 ca hBk hnr t5
            go_upto_region 7 with fail
            rw [← hW2]
            clear hW2 r0 r1 r2 r3 r4
            go_region_held3 (fun w' => (w'.cell? ⟨bp, 3, none⟩ = some (.slice (some ⟨tb, to_, none⟩) objs.length ct) ∧ w'.cell? ⟨bp, 4, none⟩ = some (.slice (some ⟨pb, poo, none⟩) objs.length cp') ∧ w'.cell? ⟨tb, to_ + i, none⟩ = some (.slice (some ⟨rb, ro, none⟩) nss cr) ∧ w'.cell? ⟨rb, ro + sy * 2, none⟩ = some (.int .i64 (ti : Int)) ∧ w'.cell? ⟨rb, ro + sy * 2 + 1, none⟩ = some (.int .i64 (tk : Int)) ∧ w'.cell? ⟨pb, poo + i * 2, none⟩ = some (.int .i64 (A : Int)) ∧ w'.cell? ⟨pb, poo + i * 2 + 1, none⟩ = some (.int .i64 (D : Int)) ∧ w'.cell? ⟨wr.heap.size, 0, none⟩ = some (.int .i64 se) ∧ w'.cell? ⟨wr.heap.size, 1, none⟩ = some (.int .i64 pl) ∧ w'.cell? ⟨wr.heap.size, 2, none⟩ = some (.int .i64 kd) ∧ w'.cell? ⟨wr.heap.size, 3, none⟩ = some (.int .i64 (sy : Int)) ∧ w'.cell? ⟨wr.heap.size, 4, none⟩ = some (.int .i64 ad))) (first | exact HSS.out _ (Fr.refl _ _) | exact HSS.out _ (Fr.refl _ _).drew | exact HSS.out _ HF4.out | go_keep)
              ((go_at_call 72; (with_reducible refine ca2.mono ?_); rintro e w4 ⟨rfl, hb4⟩; have HF4 := Lib.hid ((Fr.refl g W2).drew.trans (Fr.of hb4 (Nat.le_refl _))); have HG4 := Lib.hid ((hb4.block g (by show g < W2.heap.size; have := HS2.out; omega)).trans ((HB2'.out.block g hgr).trans HM3.out)); clear hb4 ca2))
            rw [HVV.out]
            clear HVV
            have hz4 := HF4.out.sz
            by_cases hE : pE kd (word bs pn) VV pn = 0
            · have cpo := fun (W : World) (h : Fr g wr W) (hgW : W.heap[g]? = some (.cells (img bs).toArray TU (0, 0))) => patch_ok (HEK.out.fr h) hgW hm1 hM hm2 kd VV pn hvb wle hE
              have hst := stp_yes hE
              have HPL4 := Lib.hid (put4_length bs pn (pW kd (word bs pn) VV pn))
              have HPB4 := Lib.hid (put4_bytes hm2 pn (pW kd (word bs pn) VV pn))
              have HST := Lib.hid (HNX.out.trans hst)
              generalize put4 bs pn (pW kd (word bs pn) VV pn) = bs' at *
              clear hst hE HFAR HNX
              go_upto_region 8 with fail
              go_region_held3 (fun w' => (w'.cell? ⟨bp, 3, none⟩ = some (.slice (some ⟨tb, to_, none⟩) objs.length ct) ∧ w'.cell? ⟨bp, 4, none⟩ = some (.slice (some ⟨pb, poo, none⟩) objs.length cp') ∧ w'.cell? ⟨tb, to_ + i, none⟩ = some (.slice (some ⟨rb, ro, none⟩) nss cr) ∧ w'.cell? ⟨rb, ro + sy * 2, none⟩ = some (.int .i64 (ti : Int)) ∧ w'.cell? ⟨rb, ro + sy * 2 + 1, none⟩ = some (.int .i64 (tk : Int)) ∧ w'.cell? ⟨pb, poo + i * 2, none⟩ = some (.int .i64 (A : Int)) ∧ w'.cell? ⟨pb, poo + i * 2 + 1, none⟩ = some (.int .i64 (D : Int)) ∧ w'.cell? ⟨wr.heap.size, 0, none⟩ = some (.int .i64 se) ∧ w'.cell? ⟨wr.heap.size, 1, none⟩ = some (.int .i64 pl) ∧ w'.cell? ⟨wr.heap.size, 2, none⟩ = some (.int .i64 kd) ∧ w'.cell? ⟨wr.heap.size, 3, none⟩ = some (.int .i64 (sy : Int)) ∧ w'.cell? ⟨wr.heap.size, 4, none⟩ = some (.int .i64 ad))) (first | exact HSS.out _ HF4.out | exact HSS.out _ HF4.out.drew | exact HSS.out _ HF5.out | exact HSS.out _ HF6.out | go_keep)
                ((first
                  | (go_at_call 73; (with_reducible refine (cwh _).mono ?_); rintro e w5 ⟨rfl, hb5⟩; have HF5 := Lib.hid (HF4.out.drew.trans (Fr.of hb5 (Nat.le_refl _))); have hg5 := (hb5.block g (by show g < w4.heap.size; have := HS2.out; omega)).trans HG4.out; have cp5 := cpo w5 (HF2.out.trans HF5.out) hg5; clear hb5 cpo hg5)
                  | (go_at_call 71; (with_reducible refine cp5.mono ?_); rintro e w6 ⟨rfl, hg6, hf6⟩; have HG6 := Lib.hid hg6; have HF6 := Lib.hid (HF5.out.trans hf6); clear hg6 hf6 cp5)))
              go_wp2
              go_roundw
              case rel => exact ⟨k + 1, by omega, by go_num, bs', Lib.hid ⟨HST.out, HPL4.out.trans hm1, HPB4.out, HG6.out, HBK.out.trans ((HF2.out.trans HF6.out).below (Nat.le_refl _) (Nat.le_of_lt hgr))⟩⟩
              case measure => simp [intOf]; omega
            · have cpo := fun (W : World) (h : Fr g wr W) (hgW : W.heap[g]? = some (.cells (img bs).toArray TU (0, 0))) => patch_bad (HEK.out.fr h) hgW hm1 hM hm2 kd VV pn hvb wle hE
              have hst := stp_no hE
              have hfar := HFAR.out (by rw [hst]; exact hE)
              rw [← HLS.out, hst] at hfar
              have HLF := Lib.hid (show (linkS objs).2 = pE kd (word bs pn) VV pn by rw [hfar])
              generalize pE kd (word bs pn) VV pn = code at *
              have HE0 := Lib.hid hE
              clear hst hE HFAR HNX hfar
              go_upto_region 8 with fail
              refine wp_region_held_drew (S := fun w' => (w'.cell? ⟨bp, 3, none⟩ = some (.slice (some ⟨tb, to_, none⟩) objs.length ct) ∧ w'.cell? ⟨bp, 4, none⟩ = some (.slice (some ⟨pb, poo, none⟩) objs.length cp') ∧ w'.cell? ⟨tb, to_ + i, none⟩ = some (.slice (some ⟨rb, ro, none⟩) nss cr) ∧ w'.cell? ⟨rb, ro + sy * 2, none⟩ = some (.int .i64 (ti : Int)) ∧ w'.cell? ⟨rb, ro + sy * 2 + 1, none⟩ = some (.int .i64 (tk : Int)) ∧ w'.cell? ⟨pb, poo + i * 2, none⟩ = some (.int .i64 (A : Int)) ∧ w'.cell? ⟨pb, poo + i * 2 + 1, none⟩ = some (.int .i64 (D : Int)) ∧ w'.cell? ⟨wr.heap.size, 0, none⟩ = some (.int .i64 se) ∧ w'.cell? ⟨wr.heap.size, 1, none⟩ = some (.int .i64 pl) ∧ w'.cell? ⟨wr.heap.size, 2, none⟩ = some (.int .i64 kd) ∧ w'.cell? ⟨wr.heap.size, 3, none⟩ = some (.int .i64 (sy : Int)) ∧ w'.cell? ⟨wr.heap.size, 4, none⟩ = some (.int .i64 ad))) (by kernel_rfl) (HSS.out _ HF4.out.drew) (fun hHeld => ?_)
              refine wpAnyH_take (i := 0) (oi := _) (v := ?_) rfl (by kernel_rfl) (by kernel_rfl) (by kernel_rfl) (fun _ _ _ h => h) (Or.inl ⟨by rfl, ?_⟩) hHeld ?_
              rotate_left
              · intro w2 hw; go_simp; with_reducible rfl
              simp only [Act.put, List.setIfInBounds_toArray, List.set_cons_zero, List.set_cons_succ]
              refine wpAnyH_take (i := 1) (oi := _) (v := ?_) rfl (by kernel_rfl) (by kernel_rfl) (by kernel_rfl) (fun _ _ _ h => h) (Or.inl ⟨by rfl, ?_⟩) hHeld ?_
              rotate_left
              · intro w2 hw; go_simp; with_reducible rfl
              simp only [Act.put, List.setIfInBounds_toArray, List.set_cons_zero, List.set_cons_succ]
              refine wpAnyH_take (i := 2) (oi := _) (v := ?_) rfl (by kernel_rfl) (by kernel_rfl) (by kernel_rfl) (fun _ _ _ h => h) (Or.inl ⟨by rfl, ?_⟩) hHeld ?_
              rotate_left
              · intro w2 hw; go_simp; with_reducible rfl
              simp only [Act.put, List.setIfInBounds_toArray, List.set_cons_zero, List.set_cons_succ]
              refine wpAnyH_take (i := 3) (oi := _) (v := ?_) rfl (by kernel_rfl) (by kernel_rfl) (by kernel_rfl) (fun _ _ _ h => h) (Or.inl ⟨by rfl, ?_⟩) hHeld ?_
              rotate_left
              · intro w2 hw; go_simp; with_reducible rfl
              simp only [Act.put, List.setIfInBounds_toArray, List.set_cons_zero, List.set_cons_succ]
              refine wpAnyH_take (i := 4) (oi := _) (v := ?_) rfl (by kernel_rfl) (by kernel_rfl) (by kernel_rfl) (fun _ _ _ h => h) (Or.inl ⟨by rfl, ?_⟩) hHeld ?_
              rotate_left
              · intro w2 hw; go_simp; with_reducible rfl
              simp only [Act.put, List.setIfInBounds_toArray, List.set_cons_zero, List.set_cons_succ]
              refine wpAnyH_take (i := 5) (oi := _) (v := ?_) rfl (by kernel_rfl) (by kernel_rfl) (by kernel_rfl) (fun _ _ _ h => h) (Or.inl ⟨by rfl, ?_⟩) hHeld ?_
              rotate_left
              · intro w2 hw; go_simp; with_reducible rfl
              simp only [Act.put, List.setIfInBounds_toArray, List.set_cons_zero, List.set_cons_succ]
              refine wpAnyH_take (i := 6) (oi := _) (v := ?_) rfl (by kernel_rfl) (by kernel_rfl) (by kernel_rfl) (fun _ _ _ h => h) (Or.inl ⟨by rfl, ?_⟩) hHeld ?_
              rotate_left
              · intro w2 hw; go_simp; with_reducible rfl
              simp only [Act.put, List.setIfInBounds_toArray, List.set_cons_zero, List.set_cons_succ]
              refine wpAnyH_take (i := 7) (oi := _) (v := ?_) rfl (by kernel_rfl) (by kernel_rfl) (by kernel_rfl) (fun _ _ _ h => h) (Or.inl ⟨by rfl, ?_⟩) hHeld ?_
              rotate_left
              · intro w2 hw; go_simp; with_reducible rfl
              simp only [Act.put, List.setIfInBounds_toArray, List.set_cons_zero, List.set_cons_succ]
              refine wpAnyH_take (i := 8) (oi := _) (v := ?_) rfl (by kernel_rfl) (by kernel_rfl) (by kernel_rfl) (fun _ _ _ h => h) (Or.inl ⟨by rfl, ?_⟩) hHeld ?_
              rotate_left
              · intro w2 hw; go_simp; with_reducible rfl
              simp only [Act.put, List.setIfInBounds_toArray, List.set_cons_zero, List.set_cons_succ]
              refine wpAnyH_take (i := 9) (oi := _) (v := ?_) rfl (by kernel_rfl) (by kernel_rfl) (by kernel_rfl) (fun _ _ _ h => h) (Or.inl ⟨by rfl, ?_⟩) hHeld ?_
              rotate_left
              · intro w2 hw; go_simp; with_reducible rfl
              simp only [Act.put, List.setIfInBounds_toArray, List.set_cons_zero, List.set_cons_succ]
              refine wpAnyH_take (i := 10) (oi := _) (v := ?_) rfl (by kernel_rfl) (by kernel_rfl) (by kernel_rfl) (fun _ _ _ h => h) (Or.inl ⟨by rfl, ?_⟩) hHeld ?_
              rotate_left
              · intro w2 hw; go_simp; with_reducible rfl
              simp only [Act.put, List.setIfInBounds_toArray, List.set_cons_zero, List.set_cons_succ]
              refine wpAnyH_take (i := 11) (oi := _) (v := ?_) rfl (by kernel_rfl) (by kernel_rfl) (by kernel_rfl) (fun _ _ _ h => h) (Or.inl ⟨by rfl, ?_⟩) hHeld ?_
              rotate_left
              · intro w2 hw; go_simp; with_reducible rfl
              simp only [Act.put, List.setIfInBounds_toArray, List.set_cons_zero, List.set_cons_succ]
              refine wpAnyH_ready (rs := [12]) (by kernel_rfl) (by simp) ?_
              refine AllReadyH.cons (o := _) rfl (fun K hK => ?_) AllReadyH.nil
              go_simp
              refine (cwh _).mono ?_
              rintro e w5 ⟨rfl, hb5⟩
              have HF5 := Lib.hid (HF4.out.drew.trans (Fr.of hb5 (Nat.le_refl _)))
              have hg5 := (hb5.block g (by show g < w4.heap.size; have := HS2.out; omega)).trans HG4.out
              have cp5 := cpo w5 (HF2.out.trans HF5.out) hg5
              clear hb5 cpo hg5
              refine hK.out _ _ (HSS.out _ HF5.out) (fun hHeld2 => ?_)
              clear hK K
              refine wpAnyH_ready (rs := [13]) (by kernel_rfl) (by simp) ?_
              refine AllReadyH.cons (o := _) rfl (fun K hK => ?_) AllReadyH.nil
              go_simp
              refine cp5.mono ?_
              rintro e w6 ⟨rfl, hb6⟩
              exact ⟨rfl, HBK.out.trans ((HF2.out.trans (HF5.out.trans (Fr.of (g := g) hb6 (Nat.le_refl _)))).below (Nat.le_refl _) (Nat.le_of_lt hgr)), .inr ⟨by rw [HLF.out]; exact HE0.out, by rw [HLF.out]⟩⟩
          · obtain rfl : k = nr := by omega
            have hN2 := HNk.out
            rw [HNR.out] at hN2
            go_wp2
            exact ⟨⟨i + 1, by omega, by go_num, bs, Lib.hid hN2⟩, by simp [intOf]; omega⟩
      · obtain rfl : i = objs.length := by omega
        have hN1 := HNi.out
        rw [show allTo objs (start0 objs) objs.length = linkS objs from HLS.out.symm] at hN1
        go_wp2
        go_end0
        exact ⟨hN1.2.2.2.2, .inl ⟨by rw [hN1.1], rfl, by rw [hN1.1]; exact hN1.2.2.2.1⟩⟩
  · have hs1 := stp_no h0
    rw [← hs0] at hs1
    have hLS : (linkS objs).2 = pE 4 (word (laid objs) 0) (adrOf objs ma mb) (0 : Nat) := by unfold linkS; rw [hs1]; simp only; rw [if_neg h0]
    have cp := fun (w1 : World) (h1 : Below w.heap.size w w1) =>
      (show Calls Tryz.prog 71 #[.pointer (some ⟨bp, 0, none⟩), .int .i64 4, .int .u32 (adrOf objs ma mb), .int .u32 0] w1 _ from
        patch_bad (HE.out.below (h1.mono (Nat.le_of_lt HE.out.gw))) ((h1.block g HE.out.gw).trans HG.out) hll hM hlb 4 (adrOf objs ma mb) 0 hadr (by omega) h0)
    rw [← hLS] at cp h0
    have H0 := Lib.hid h0
    clear hs1 hLS hs0 h0 hll hlb hN hw hmr hmain hz E hg
    generalize hA0 : adrOf objs ma mb = A0 at *
    have HA0 := Lib.hid hA0
    clear hA0
    generalize hcd : (linkS objs).2 = code at *
    have HCD := Lib.hid hcd
    clear hcd
    go_enter Tryz.func45, Tryz.ntmps45
    go_wp2_with (first
      | (go_at_call 72; (with_reducible refine ca.mono ?_); rintro e w1 ⟨rfl, h1⟩; have cp1 := cp w1 h1; have H1 := Lib.hid (h1.mono (Nat.le_of_lt hgw)); clear h1 ca cp)
      | (go_at_call 71; (with_reducible refine cp1.mono ?_); rintro e w2 ⟨rfl, hb2⟩; have HB2 := Lib.hid (H1.out.trans (hb2.mono (by have := H1.out.size; omega))); clear hb2 cp1))
    refine ⟨rfl, HB2.out, .inr ⟨by rw [HCD.out]; exact H0.out, by rw [HCD.out]⟩⟩
end
end KR
end Go.Proofs.YtlmblfkcmhgdaaaGreat
