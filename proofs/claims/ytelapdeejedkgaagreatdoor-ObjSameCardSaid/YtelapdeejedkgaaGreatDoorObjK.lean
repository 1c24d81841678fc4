/-
  The law ObjSame: what stands behind its card: the drawn region by an invariant. Conditions: the objects lie in memory, and their numbers are of their kinds.
-/
import Derived.Test.YtelapdeejedkgaaGreatDoorObjV
import Derived.Test.YtelapdeejedkgaaGreatDoorObjE
import Derived.Test.YtelapdeejedkgaaGreatDoorObjG
import Derived.Test.YtelapdeejedkgaaGreatDoorObjY
namespace Go.Proofs.YtelapdeejedkgaaGreatDoor
open Go.RowKit
set_option linter.unusedVariables false
set_option linter.unusedSimpArgs false
namespace OK
open OO OJ OL OB OI
open OG hiding TO Inv Inv.next
open OE hiding TO
open OZ hiding TO
abbrev TO : TypeId := 27
def dst (i : Nat) : Nat := if i = 13 then 4 else 18 + i
theorem dst_inj {i j : Nat} (hi : i < 14) (hj : j < 14) (h : j ≠ i) : ¬ dst j = dst i := by
  unfold dst
  split <;> split <;> omega
def val (A B : Value) (s : Bool) : Nat → Value
  | 0 => A | 1 => B | 2 => .bool s | 3 => A | 4 => B | 5 => .bool s | 8 => A | 9 => A | _ => .bool true
def Fact (A B : Value) (o : ObjV) (s : Bool) (t : Array Value) (w : World) (i : Nat) : Prop :=
  if i = 10 then ∃ z0 z1 z2 z3, t.getD (dst 10) undef = .agg #[z0, z1, z2, z3] ∧ ObjAt w.heap.size w z0 z1 z2 z3 o else t.getD (dst i) undef = val A B s i
structure Inv (w0 : World) (N : Nat) (A B : Value) (o : ObjV) (s : Bool) (listed : Array Bool) (a : Act) (w : World) : Prop where
  d : a.defers = []
  sz : a.tmps.size = 31
  t2 : a.tmps.getD 2 undef = .pointer (some ⟨N, 0, none⟩)
  t3 : a.tmps.getD 3 undef = .pointer (some ⟨N + 1, 0, none⟩)
  bel : Below w0.heap.size w0 w
  f : ∀ i, i < 14 → listed.getD i false = true → Fact A B o s a.tmps w i
theorem Inv.next {w0 : World} {N : Nat} {A B : Value} {o : ObjV} {s : Bool} {listed : Array Bool} {a : Act} {W W' : World} (hI : Inv w0 N A B o s listed a W) (hs : listed.size = 14) (i : Nat) (hi : i < 14) (h0 : listed.getD i true = false) (v : Value)
    (hb : Below W.heap.size W W') (hnew : Fact A B o s (a.put (some (dst i)) v).tmps W' i) : Inv w0 N A B o s (listed.setIfInBounds i true) (a.put (some (dst i)) v) W' := by
  have hd : dst i < 31 := by unfold dst; split <;> omega
  have hd4 : 4 ≤ dst i := by unfold dst; split <;> omega
  have pg := put_get (a := a) (d := dst i) (v := v) (by rw [hI.sz]; exact hd)
  have sg := fun j => set_at (listed := listed) (i := i) (j := j) (by omega)
  refine ⟨hI.d, by show (a.tmps.setIfInBounds _ _).size = 31; rw [Array.size_setIfInBounds]; exact hI.sz, by rw [pg, if_neg (by omega)]; exact hI.t2, by rw [pg, if_neg (by omega)]; exact hI.t3, hI.bel.trans (hb.mono hI.bel.size), fun j hj hl => ?_⟩
  by_cases he : j = i
  · subst he; exact hnew
  · rw [sg, if_neg he] at hl
    have hf := hI.f j hj hl
    have hne := dst_inj hi hj he
    unfold Fact at hf ⊢
    by_cases h10 : j = 10
    · rw [if_pos h10] at hf ⊢
      subst h10
      obtain ⟨z0, z1, z2, z3, hz, ho⟩ := hf
      exact ⟨z0, z1, z2, z3, by rw [pg, if_neg hne]; exact hz, (ho.below hb).up hb.size⟩
    · rw [if_neg h10] at hf ⊢
      rw [pg, if_neg hne]; exact hf
theorem Inv.next' {w0 : World} {N : Nat} {A B : Value} {o : ObjV} {s : Bool} {listed : Array Bool} {a : Act} {W W' : World} (hI : Inv w0 N A B o s listed a W) (hs : listed.size = 14) (i : Nat) (hi : i < 14) (h10 : i ≠ 10) (h0 : listed.getD i true = false) (v : Value)
    (hb : Below W.heap.size W W') (hv : v = val A B s i) : Inv w0 N A B o s (listed.setIfInBounds i true) (a.put (some (dst i)) v) W' :=
  hI.next hs i hi h0 v hb (by
    have hd : dst i < 31 := by unfold dst; split <;> omega
    unfold Fact
    rw [if_neg h10, put_get (by rw [hI.sz]; exact hd), if_pos rfl]; exact hv)
theorem Inv.get {w0 : World} {N : Nat} {A B : Value} {o : ObjV} {s : Bool} {listed : Array Bool} {a : Act} {W : World} (hI : Inv w0 N A B o s listed a W) {i : Nat} (hi : i < 14) (h10 : i ≠ 10) (h : listed.getD i false = true) : a.tmps[dst i]?.getD undef = val A B s i := by
  have := hI.f i hi h
  unfold Fact at this
  rw [if_neg h10, Array.getD_eq_getD_getElem?] at this
  exact this
theorem Inv.copy {w0 : World} {N : Nat} {A B : Value} {o : ObjV} {s : Bool} {listed : Array Bool} {a : Act} {W : World} (hI : Inv w0 N A B o s listed a W) (h : listed.getD 10 false = true) : ∃ z0 z1 z2 z3, a.tmps[28]?.getD undef = .agg #[z0, z1, z2, z3] ∧ ObjAt W.heap.size W z0 z1 z2 z3 o := by
  have := hI.f 10 (by decide) h
  unfold Fact at this
  rw [if_pos rfl] at this
  obtain ⟨z0, z1, z2, z3, hz, ho⟩ := this
  exact ⟨z0, z1, z2, z3, by rw [← Array.getD_eq_getD_getElem?]; exact hz, ho⟩
/-- an operation whose guard holds -/
theorem op_g {P : Program} {ops : Array Oper} {Q : Exit → Act → World → Prop} {i : Nat} {o : Oper} {K : Act → World → Prop} {a : Act} {w : World} (ho : ops[i]? = some o) (hw : Region.wanted o (yielded ops a.tmps) = true) (h : o.wp P a w K Q) : wpOp P ops Q i K a w := by
  unfold wpOp
  rw [ho]
  simp only [hw, if_true]
  exact .inl h
theorem got {a : Act} {k : Nat} {b : Bool} (h : a.tmps[k]?.getD undef = .bool b) : a.tmps[k]? = some (.bool b) := by
  cases e : a.tmps[k]? with
  | none => rw [e] at h; cases h
  | some v => rw [e] at h; exact congrArg some h
set_option maxRecDepth 100000 in
set_option maxHeartbeats 8000000 in
theorem law_ {w : World} {a0 a1 a2 a3 b0 b1 b2 b3 : Value} {oa ob : ObjV} (hl : OS.Laid w) (ha : ObjAt w.heap.size w a0 a1 a2 a3 oa) (wa : oa.Wf) (hb : ObjAt w.heap.size w b0 b1 b2 b3 ob) (wb : ob.Wf) :
    Calls Tryz.prog 6 #[.agg #[a0, a1, a2, a3], .agg #[b0, b1, b2, b3]] w fun e w' => e = .returned (.bool true) ∧ Below w.heap.size w w' := by
  have mixed : Tryz.prog.follows Departure.mixedOrders = true := by kernel_rfl
  have hBel : Below w.heap.size w ((w.alloc (.cells #[a0, a1, a2, a3] TO)).alloc (.cells #[b0, b1, b2, b3] TO)) := ((Below.refl _ _).alloc (Nat.le_refl _) _).alloc (by simp) _
  have h1 : ((w.alloc (.cells #[a0, a1, a2, a3] TO)).alloc (.cells #[b0, b1, b2, b3] TO)).heap[w.heap.size]? = some (.cells #[a0, a1, a2, a3] TO (0, 0)) := (Lib.alloc_old _ _ _ (by simp)).trans (heap_alloc_new w _)
  have h2 : ((w.alloc (.cells #[a0, a1, a2, a3] TO)).alloc (.cells #[b0, b1, b2, b3] TO)).heap[w.heap.size + 1]? = some (.cells #[b0, b1, b2, b3] TO (0, 0)) := by
    have := heap_alloc_new (w.alloc (.cells #[a0, a1, a2, a3] TO)) (.cells #[b0, b1, b2, b3] TO)
    rwa [World.size_alloc] at this
  have HA := Lib.hid (ha.below hBel)
  have HBo := Lib.hid (hb.below hBel)
  have HL := Lib.hid (hl.on hBel)
  have HBel := Lib.hid hBel
  have MA := Lib.hid (lens ha)
  have MB := Lib.hid (lens hb)
  have HWA := Lib.hid wa
  have HWB := Lib.hid wb
  obtain ⟨p0, q0, rfl, -⟩ := ha.ws
  obtain ⟨p1, q1, rfl, -⟩ := ha.ds
  obtain ⟨p2, q2, rfl, -⟩ := ha.ss
  obtain ⟨p3, q3, rfl, -⟩ := ha.rs
  obtain ⟨s0, t0, rfl, -⟩ := hb.ws
  obtain ⟨s1, t1, rfl, -⟩ := hb.ds
  obtain ⟨s2, t2, rfl, -⟩ := hb.ss
  obtain ⟨s3, t3, rfl, -⟩ := hb.rs
  have hsz : w.heap.size + 2 ≤ ((w.alloc (.cells #[.slice p0 oa.ws.length q0, .slice p1 oa.ds.length q1, .slice p2 oa.ss.length q2, .slice p3 oa.rs.length q3] TO)).alloc (.cells #[.slice s0 ob.ws.length t0, .slice s1 ob.ds.length t1, .slice s2 ob.ss.length t2, .slice s3 ob.rs.length t3] TO)).heap.size := by simp
  have HSZ := Lib.hid hsz
  clear ha hb wa wb hBel hl hsz
  cases hx0 : few oa <;> cases hx1 : few ob
  all_goals
    have HX0 := Lib.hid hx0
    have HX1 := Lib.hid hx1
    clear hx0 hx1
    go_enter Tryz.func6, Tryz.ntmps6
    go_upto_region 1 with (fail)
    generalize (w.alloc (.cells #[.slice p0 oa.ws.length q0, .slice p1 oa.ds.length q1, .slice p2 oa.ss.length q2, .slice p3 oa.rs.length q3] TO)).alloc (.cells #[.slice s0 ob.ws.length t0, .slice s1 ob.ds.length t1, .slice s2 ob.ss.length t2, .slice s3 ob.rs.length t3] TO) = W at *
    have KC := Lib.hid (fun (W' : World) (hb : Below W.heap.size W W') => (⟨(Lib.cell_of_heap ((hb.block _ (by have := HSZ.out; omega)).trans h1) 0), (Lib.cell_of_heap ((hb.block _ (by have := HSZ.out; omega)).trans h1) 1), (Lib.cell_of_heap ((hb.block _ (by have := HSZ.out; omega)).trans h1) 2), (Lib.cell_of_heap ((hb.block _ (by have := HSZ.out; omega)).trans h1) 3), (Lib.cell_of_heap ((hb.block _ (by have := HSZ.out; omega)).trans h2) 0), (Lib.cell_of_heap ((hb.block _ (by have := HSZ.out; omega)).trans h2) 1), (Lib.cell_of_heap ((hb.block _ (by have := HSZ.out; omega)).trans h2) 2), (Lib.cell_of_heap ((hb.block _ (by have := HSZ.out; omega)).trans h2) 3)⟩ :
      W'.cell? ⟨w.heap.size, 0, none⟩ = some (.slice p0 oa.ws.length q0) ∧ W'.cell? ⟨w.heap.size, 1, none⟩ = some (.slice p1 oa.ds.length q1) ∧ W'.cell? ⟨w.heap.size, 2, none⟩ = some (.slice p2 oa.ss.length q2) ∧ W'.cell? ⟨w.heap.size, 3, none⟩ = some (.slice p3 oa.rs.length q3) ∧
      W'.cell? ⟨w.heap.size + 1, 0, none⟩ = some (.slice s0 ob.ws.length t0) ∧ W'.cell? ⟨w.heap.size + 1, 1, none⟩ = some (.slice s1 ob.ds.length t1) ∧ W'.cell? ⟨w.heap.size + 1, 2, none⟩ = some (.slice s2 ob.ss.length t2) ∧ W'.cell? ⟨w.heap.size + 1, 3, none⟩ = some (.slice s3 ob.rs.length t3)))
    have KA := Lib.hid (fun (W' : World) (hb : Below W.heap.size W W') => HA.out.below (hb.mono (by have := HSZ.out; omega : w.heap.size ≤ W.heap.size)))
    have KB := Lib.hid (fun (W' : World) (hb : Below W.heap.size W W') => HBo.out.below (hb.mono (by have := HSZ.out; omega : w.heap.size ≤ W.heap.size)))
    have KL := Lib.hid (fun (W' : World) (hb : Below W.heap.size W W') => HL.out.on hb)
    have KN := Lib.hid (fun (W' : World) (hb : Below W.heap.size W W') => (Nat.le_trans (by have := HSZ.out; omega : w.heap.size ≤ W.heap.size) hb.size : w.heap.size ≤ W'.heap.size))
    have KF0 := Lib.hid (fun (W' : World) (hb : Below W.heap.size W W') => few_ (KN.out W' hb) (KA.out W' hb) (fun s hs => (HWA.out.ss s hs).name) MA.out)
    have KF1 := Lib.hid (fun (W' : World) (hb : Below W.heap.size W W') => few_ (KN.out W' hb) (KB.out W' hb) (fun s hs => (HWB.out.ss s hs).name) MB.out)
    rw [HX0.out] at KF0
    rw [HX1.out] at KF1
    have HB0 := Lib.hid (Below.refl W.heap.size W)
    clear h1 h2
  rotate_right 1
  · skip
    go_upto_region 3 with (first
      | (go_at_call 10
         (first
          | (with_reducible refine (OA.awake_ _ (KL.out _ HB3.out)).mono ?_; rintro e w4 ⟨rfl, hb4⟩; have HB4 := Lib.hid (HB3.out.trans (hb4.mono HB3.out.size)); clear hb4)
          | (with_reducible refine (OA.awake_ _ (KL.out _ HB2.out)).mono ?_; rintro e w4 ⟨rfl, hb4⟩; have HB4 := Lib.hid (HB2.out.trans (hb4.mono HB2.out.size)); clear hb4)
          | (with_reducible refine (OA.awake_ _ (KL.out _ HB0.out)).mono ?_; rintro e w1 ⟨rfl, hb1⟩; have HB1 := Lib.hid hb1; clear hb1; obtain ⟨f0, f1, f2, f3, g0, g1, g2, g3⟩ := KC.out _ HB1.out)))
      | (go_at_call 11
         (first
          | (with_reducible refine (KF1.out _ HB2.out).mono ?_; rintro e w3 ⟨rfl, hb3⟩; have HB3 := Lib.hid (HB2.out.trans (hb3.mono HB2.out.size)); clear hb3)
          | (with_reducible refine (KF0.out _ HB1.out).mono ?_; rintro e w2 ⟨rfl, hb2⟩; have HB2 := Lib.hid (HB1.out.trans (hb2.mono HB1.out.size)); clear hb2; obtain ⟨f0, f1, f2, f3, g0, g1, g2, g3⟩ := KC.out _ HB2.out))))
    have hlim := lim_of_few HX0.out
    refine region_ (Inv := Inv w3 w.heap.size (.agg #[.slice p0 oa.ws.length q0, .slice p1 oa.ds.length q1, .slice p2 oa.ss.length q2, .slice p3 oa.rs.length q3]) (.agg #[.slice s0 ob.ws.length t0, .slice s1 ob.ds.length t1, .slice s2 ob.ss.length t2, .slice s3 ob.rs.length t3]) oa (sameO oa ob)) mixed ?ahead ?init ?step ?done
    case ahead => exact ahead_of (by kernel_rfl)
    case init =>
      have hno : ∀ j, (Array.replicate 14 false).getD j false = false := fun j => by
        rw [Array.getD_eq_getD_getElem?, Array.getElem?_replicate]
        split <;> rfl
      refine ⟨rfl, rfl, rfl, rfl, Below.drew (Below.refl _ _), fun i _ h => ?_⟩
      exact absurd ((hno _).symm.trans h) (by decide)
    case step =>
      intro i op hop listed a W1 hs h0 haft hI
      have hs : listed.size = 14 := hs
      have hi : i < 14 := (Array.getElem?_eq_some_iff.1 hop).1
      match i, hi with
      | 0, _ =>
        cases hop
        refine op_ rfl rfl ?_
        have tt : a.tmps[2]?.getD undef = _ := (Array.getD_eq_getD_getElem?).symm.trans hI.t2
        obtain ⟨f0, f1, f2, f3, g0, g1, g2, g3⟩ := KC.out W1 (HB3.out.trans (hI.bel.mono HB3.out.size))
        have HI := Lib.hid hI
        clear hI
        go_simp
        exact HI.out.next' hs 0 (by decide) (by decide) h0 _ (Below.refl _ _) rfl
      | 1, _ =>
        cases hop
        refine op_ rfl rfl ?_
        have tt : a.tmps[3]?.getD undef = _ := (Array.getD_eq_getD_getElem?).symm.trans hI.t3
        obtain ⟨f0, f1, f2, f3, g0, g1, g2, g3⟩ := KC.out W1 (HB3.out.trans (hI.bel.mono HB3.out.size))
        have HI := Lib.hid hI
        clear hI
        go_simp
        exact HI.out.next' hs 1 (by decide) (by decide) h0 _ (Below.refl _ _) rfl
      | 2, _ =>
        cases hop
        refine op_ rfl rfl ?_
        have t18 : a.tmps[18]?.getD undef = _ := hI.get (i := 0) (by decide) (by decide) (haft ⟨0, .data⟩ (by simp) rfl)
        have t19 : a.tmps[19]?.getD undef = _ := hI.get (i := 1) (by decide) (by decide) (haft ⟨1, .data⟩ (by simp) rfl)
        simp only [val] at t18 t19
        have cc := Same_ (KN.out W1 (HB3.out.trans (hI.bel.mono HB3.out.size))) (KA.out W1 (HB3.out.trans (hI.bel.mono HB3.out.size))) (KB.out W1 (HB3.out.trans (hI.bel.mono HB3.out.size)))
        have HI := Lib.hid hI
        clear hI
        go_simp
        (with_reducible refine cc.mono ?_)
        rintro e W2 ⟨rfl, hb⟩
        exact HI.out.next' hs 2 (by decide) (by decide) h0 _ hb rfl
      | 3, _ =>
        cases hop
        refine op_ rfl rfl ?_
        have tt : a.tmps[2]?.getD undef = _ := (Array.getD_eq_getD_getElem?).symm.trans hI.t2
        obtain ⟨f0, f1, f2, f3, g0, g1, g2, g3⟩ := KC.out W1 (HB3.out.trans (hI.bel.mono HB3.out.size))
        have HI := Lib.hid hI
        clear hI
        go_simp
        exact HI.out.next' hs 3 (by decide) (by decide) h0 _ (Below.refl _ _) rfl
      | 4, _ =>
        cases hop
        refine op_ rfl rfl ?_
        have tt : a.tmps[3]?.getD undef = _ := (Array.getD_eq_getD_getElem?).symm.trans hI.t3
        obtain ⟨f0, f1, f2, f3, g0, g1, g2, g3⟩ := KC.out W1 (HB3.out.trans (hI.bel.mono HB3.out.size))
        have HI := Lib.hid hI
        clear hI
        go_simp
        exact HI.out.next' hs 4 (by decide) (by decide) h0 _ (Below.refl _ _) rfl
      | 5, _ =>
        cases hop
        refine op_ rfl rfl ?_
        have t21 : a.tmps[21]?.getD undef = _ := hI.get (i := 3) (by decide) (by decide) (haft ⟨3, .data⟩ (by simp) rfl)
        have t22 : a.tmps[22]?.getD undef = _ := hI.get (i := 4) (by decide) (by decide) (haft ⟨4, .data⟩ (by simp) rfl)
        simp only [val] at t21 t22
        have cc := OY.RSame_ (KN.out W1 (HB3.out.trans (hI.bel.mono HB3.out.size))) (KA.out W1 (HB3.out.trans (hI.bel.mono HB3.out.size))) (KB.out W1 (HB3.out.trans (hI.bel.mono HB3.out.size))) HWA.out HWB.out
        have HI := Lib.hid hI
        clear hI
        go_simp
        (with_reducible refine cc.mono ?_)
        rintro e W2 ⟨rfl, hb⟩
        exact HI.out.next' hs 5 (by decide) (by decide) h0 _ hb rfl
      | 6, _ =>
        cases hop
        refine op_ rfl rfl ?_
        have t20 : a.tmps[20]?.getD undef = _ := hI.get (i := 2) (by decide) (by decide) (haft ⟨2, .data⟩ (by simp) rfl)
        have t23 : a.tmps[23]?.getD undef = _ := hI.get (i := 5) (by decide) (by decide) (haft ⟨5, .data⟩ (by simp) rfl)
        have HI := Lib.hid hI
        clear hI
        go_simp
        exact HI.out.next' hs 6 (by decide) (by decide) h0 _ (Below.refl _ _) (by simp [val])
      | 7, _ =>
        cases hop
        refine op_ rfl rfl ?_
        have t24 : a.tmps[24]?.getD undef = _ := hI.get (i := 6) (by decide) (by decide) (haft ⟨6, .data⟩ (by simp) rfl)
        have HI := Lib.hid hI
        clear hI
        go_simp
        exact HI.out.next' hs 7 (by decide) (by decide) h0 _ (Below.refl _ _) rfl
      | 8, _ =>
        cases hop
        have t25 : a.tmps[25]?.getD undef = .bool true := hI.get (i := 7) (by decide) (by decide) (haft ⟨7, .guard⟩ (by simp) rfl)
        refine op_g rfl (by simp [Region.wanted, yielded, got t25]) ?_
        have tt : a.tmps[2]?.getD undef = _ := (Array.getD_eq_getD_getElem?).symm.trans hI.t2
        obtain ⟨f0, f1, f2, f3, g0, g1, g2, g3⟩ := KC.out W1 (HB3.out.trans (hI.bel.mono HB3.out.size))
        have HI := Lib.hid hI
        clear hI t25
        go_simp
        exact HI.out.next' hs 8 (by decide) (by decide) h0 _ (Below.refl _ _) rfl
      | 9, _ =>
        cases hop
        have t25 : a.tmps[25]?.getD undef = .bool true := hI.get (i := 7) (by decide) (by decide) (haft ⟨7, .guard⟩ (by simp) rfl)
        refine op_g rfl (by simp [Region.wanted, yielded, got t25]) ?_
        have tt : a.tmps[2]?.getD undef = _ := (Array.getD_eq_getD_getElem?).symm.trans hI.t2
        obtain ⟨f0, f1, f2, f3, g0, g1, g2, g3⟩ := KC.out W1 (HB3.out.trans (hI.bel.mono HB3.out.size))
        have HI := Lib.hid hI
        clear hI t25
        go_simp
        exact HI.out.next' hs 9 (by decide) (by decide) h0 _ (Below.refl _ _) rfl
      | 10, _ =>
        cases hop
        have t25 : a.tmps[25]?.getD undef = .bool true := hI.get (i := 7) (by decide) (by decide) (haft ⟨7, .guard⟩ (by simp) rfl)
        refine op_g rfl (by simp [Region.wanted, yielded, got t25]) ?_
        have t27 : a.tmps[27]?.getD undef = _ := hI.get (i := 9) (by decide) (by decide) (haft ⟨9, .data⟩ (by simp) rfl)
        simp only [val] at t27
        have cc := own_ ((KA.out W1 (HB3.out.trans (hI.bel.mono HB3.out.size))).up (KN.out W1 (HB3.out.trans (hI.bel.mono HB3.out.size)))) hlim
        have HI := Lib.hid hI
        clear hI t25
        go_simp
        (with_reducible refine cc.mono ?_)
        rintro e W2 ⟨u, rfl, hb, hrows⟩
        refine HI.out.next hs 10 (by decide) h0 _ hb ?_
        have hz := HI.out.sz
        unfold Fact
        rw [if_pos rfl]
        exact ⟨u 0, u 1, u 2, u 3, (put_get (by rw [hz]; decide) _).trans (if_pos rfl), copy_at hrows⟩
      | 11, _ =>
        cases hop
        have t25 : a.tmps[25]?.getD undef = .bool true := hI.get (i := 7) (by decide) (by decide) (haft ⟨7, .guard⟩ (by simp) rfl)
        refine op_g rfl (by simp [Region.wanted, yielded, got t25]) ?_
        have t26 : a.tmps[26]?.getD undef = _ := hI.get (i := 8) (by decide) (by decide) (haft ⟨8, .data⟩ (by simp) rfl)
        obtain ⟨z0, z1, z2, z3, t28, hz⟩ := hI.copy (haft ⟨10, .data⟩ (by simp) rfl)
        simp only [val] at t26
        have cc := Same_ (Nat.le_refl _) ((KA.out W1 (HB3.out.trans (hI.bel.mono HB3.out.size))).up (KN.out W1 (HB3.out.trans (hI.bel.mono HB3.out.size)))) hz
        rw [sameO_refl] at cc
        have HI := Lib.hid hI
        clear hI t25 hz
        go_simp
        (with_reducible refine cc.mono ?_)
        rintro e W2 ⟨rfl, hb⟩
        exact HI.out.next' hs 11 (by decide) (by decide) h0 _ hb rfl
      | 12, _ =>
        cases hop
        refine op_ rfl rfl ?_
        have t25 : a.tmps[25]?.getD undef = _ := hI.get (i := 7) (by decide) (by decide) (haft ⟨7, .data⟩ (by simp) rfl)
        have t29 : a.tmps[29]?.getD undef = _ := hI.get (i := 11) (by decide) (by decide) (haft ⟨11, .data⟩ (by simp) rfl)
        have HI := Lib.hid hI
        clear hI
        go_simp
        exact HI.out.next' hs 12 (by decide) (by decide) h0 _ (Below.refl _ _) rfl
      | 13, _ =>
        cases hop
        refine op_ rfl rfl ?_
        have t30 : a.tmps[30]?.getD undef = _ := hI.get (i := 12) (by decide) (by decide) (haft ⟨12, .data⟩ (by simp) rfl)
        have HI := Lib.hid hI
        clear hI
        go_simp
        exact HI.out.next' hs 13 (by decide) (by decide) h0 _ (Below.refl _ _) rfl
      | i + 14, h => exact absurd h (by omega)
    case done =>
      intro listed a W1 hall hI
      have t4 : a.tmps[4]?.getD undef = .bool true := hI.get (i := 13) (by decide) (by decide) (hall 13 (by decide))
      have hd := hI.d
      have HB := Lib.hid hI.bel
      clear hI hall
      go_wp2
      refine bodyPost_ret (v := .bool true) (by simp [results, Tryz.results6, go_sem, t4]) hd ⟨rfl, HBel.out.trans ((HB3.out.trans (HB.out.mono HB3.out.size)).mono (by have := HSZ.out; omega))⟩
  all_goals
    go_wp2_with (first
      | (go_at_call 10
         (first
          | (with_reducible refine (OA.awake_ _ (KL.out _ HB3.out)).mono ?_; rintro e w4 ⟨rfl, hb4⟩; have HB4 := Lib.hid (HB3.out.trans (hb4.mono HB3.out.size)); clear hb4)
          | (with_reducible refine (OA.awake_ _ (KL.out _ HB2.out)).mono ?_; rintro e w4 ⟨rfl, hb4⟩; have HB4 := Lib.hid (HB2.out.trans (hb4.mono HB2.out.size)); clear hb4)
          | (with_reducible refine (OA.awake_ _ (KL.out _ HB0.out)).mono ?_; rintro e w1 ⟨rfl, hb1⟩; have HB1 := Lib.hid hb1; clear hb1; obtain ⟨f0, f1, f2, f3, g0, g1, g2, g3⟩ := KC.out _ HB1.out)))
      | (go_at_call 11
         (first
          | (with_reducible refine (KF1.out _ HB2.out).mono ?_; rintro e w3 ⟨rfl, hb3⟩; have HB3 := Lib.hid (HB2.out.trans (hb3.mono HB2.out.size)); clear hb3)
          | (with_reducible refine (KF0.out _ HB1.out).mono ?_; rintro e w2 ⟨rfl, hb2⟩; have HB2 := Lib.hid (HB1.out.trans (hb2.mono HB1.out.size)); clear hb2; obtain ⟨f0, f1, f2, f3, g0, g1, g2, g3⟩ := KC.out _ HB2.out))))
    go_ret
    exact ⟨rfl, HBel.out.trans (HB4.out.mono (by have := HSZ.out; omega))⟩
end OK
end Go.Proofs.YtelapdeejedkgaaGreatDoor
