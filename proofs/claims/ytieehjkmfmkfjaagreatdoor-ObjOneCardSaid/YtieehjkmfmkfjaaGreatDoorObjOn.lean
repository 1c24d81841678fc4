/-
  The law ObjOne: what stands behind its card. Conditions: the objects lie in memory, and their numbers are of their kinds.
-/
import Derived.Test.YtieehjkmfmkfjaaGreatDoorObjV
import Derived.Test.YtieehjkmfmkfjaaGreatDoorObjE
import Derived.Test.YtieehjkmfmkfjaaGreatDoorObjPr
import Derived.Test.YtieehjkmfmkfjaaGreatDoorObjZ
namespace Go.Proofs.YtieehjkmfmkfjaaGreatDoor
open Go.RowKit
set_option linter.unusedVariables false
set_option linter.unusedSimpArgs false
namespace OOn
open OO OJ OB OE OCk OPr
open OZ hiding TO
abbrev TO : TypeId := 27
def ckI := OCh.ckI
theorem toList_ne {a b : ByteArray} (h : a ≠ b) : (a.toList == b.toList) = false := by
  rw [beq_eq_false_iff_ne]
  intro e
  refine h (ByteArray.ext (Array.toList_inj.1 ?_))
  rwa [ByteArray.toList_eq, ByteArray.toList_eq] at e
theorem symB_eq {x y : SymV} (h : OX.symB x y = true) : x = y := by
  obtain ⟨n, a, b, c, d⟩ := x
  obtain ⟨n', a', b', c', d'⟩ := y
  unfold OX.symB at h
  simp only [Bool.and_eq_true, beq_iff_eq] at h
  obtain ⟨h0, rfl, rfl, rfl, rfl⟩ := h
  have : n = n' := by
    rw [ByteArray.toList_eq, ByteArray.toList_eq] at h0
    exact ByteArray.ext (Array.toList_inj.1 h0)
  rw [this]
theorem relB_eq {x y : RelV} (h : OX.relB x y = true) : x = y := by
  obtain ⟨n, a, b, c, d⟩ := x
  obtain ⟨n', a', b', c', d'⟩ := y
  unfold OX.relB at h
  simp only [Bool.and_eq_true, beq_iff_eq] at h
  obtain ⟨rfl, rfl, rfl, rfl, rfl⟩ := h
  rfl
theorem sameO_eq {a b : ObjV} (h : sameO a b = true) : a = b := by
  obtain ⟨a0, a1, a2, a3⟩ := a
  obtain ⟨b0, b1, b2, b3⟩ := b
  unfold sameO at h
  simp only [Bool.and_eq_true] at h
  obtain ⟨h0, h1, h2, h3⟩ := h
  have i : ∀ x y : Int, OX.intB x y = true → x = y := fun x y h => by unfold OX.intB at h; simpa using h
  rw [OX.same_eq i h0, OX.same_eq i h1, OX.same_eq (fun x y => symB_eq) h2, OX.same_eq (fun x y => relB_eq) h3]
open Classical in
theorem sameO_dec (a b : ObjV) : sameO a b = decide (a = b) := by
  by_cases h : a = b
  · subst h; rw [sameO_refl, decide_eq_true rfl]
  · rw [decide_eq_false h]
    cases e : sameO a b with
    | false => rfl
    | true => exact absurd (sameO_eq e) h
open Classical in
set_option maxRecDepth 100000 in
set_option maxHeartbeats 16000000 in
theorem law_ {w : World} {a0 a1 a2 a3 b0 b1 b2 b3 : Value} {oa ob : ObjV} (hl : OS.Laid w) (ha : ObjAt w.heap.size w a0 a1 a2 a3 oa) (wa : oa.Wf) (hb : ObjAt w.heap.size w b0 b1 b2 b3 ob) (wb : ob.Wf) :
    Calls Tryz.prog 5 #[.agg #[a0, a1, a2, a3], .agg #[b0, b1, b2, b3]] w fun e w' => e = .returned (.bool true) ∧ Below w.heap.size w w' := by
  have hBel : Below w.heap.size w ((w.alloc (.cells #[a0, a1, a2, a3] TO)).alloc (.cells #[b0, b1, b2, b3] TO)) := ((Below.refl _ _).alloc (Nat.le_refl _) _).alloc (by simp) _
  have h1 : ((w.alloc (.cells #[a0, a1, a2, a3] TO)).alloc (.cells #[b0, b1, b2, b3] TO)).heap[w.heap.size]? = some (.cells #[a0, a1, a2, a3] TO (0, 0)) := (Lib.alloc_old _ _ _ (by simp)).trans (heap_alloc_new w _)
  have h2 : ((w.alloc (.cells #[a0, a1, a2, a3] TO)).alloc (.cells #[b0, b1, b2, b3] TO)).heap[w.heap.size + 1]? = some (.cells #[b0, b1, b2, b3] TO (0, 0)) := by
    have := heap_alloc_new (w.alloc (.cells #[a0, a1, a2, a3] TO)) (.cells #[b0, b1, b2, b3] TO)
    rwa [World.size_alloc] at this
  have HA := Lib.hid (ha.below hBel)
  have HBo := Lib.hid (hb.below hBel)
  have HL := Lib.hid (hl.on hBel)
  have HBel := Lib.hid hBel
  have MA := Lib.hid (lens ha)
  have MB := Lib.hid (lens hb)
  have HWA := Lib.hid wa
  have HWB := Lib.hid wb
  obtain ⟨p0, q0, rfl, -⟩ := ha.ws
  obtain ⟨p1, q1, rfl, -⟩ := ha.ds
  obtain ⟨p2, q2, rfl, -⟩ := ha.ss
  obtain ⟨p3, q3, rfl, -⟩ := ha.rs
  obtain ⟨s0, t0, rfl, -⟩ := hb.ws
  obtain ⟨s1, t1, rfl, -⟩ := hb.ds
  obtain ⟨s2, t2, rfl, -⟩ := hb.ss
  obtain ⟨s3, t3, rfl, -⟩ := hb.rs
  have hsz : w.heap.size + 2 ≤ ((w.alloc (.cells #[.slice p0 oa.ws.length q0, .slice p1 oa.ds.length q1, .slice p2 oa.ss.length q2, .slice p3 oa.rs.length q3] TO)).alloc (.cells #[.slice s0 ob.ws.length t0, .slice s1 ob.ds.length t1, .slice s2 ob.ss.length t2, .slice s3 ob.rs.length t3] TO)).heap.size := by simp
  have HSZ := Lib.hid hsz
  clear ha hb wa wb hBel hl hsz
  have HI := Lib.hid (fun (c : chk oa = true) (d : chk ob = true) (e : prS oa = prS ob) => prS_inj HWA.out HWB.out c d e)
  cases hx0 : few oa <;> cases hx1 : few ob <;> cases hc0 : chk oa <;> cases hc1 : chk ob <;> by_cases hab : oa = ob
  all_goals
    have HX0 := Lib.hid hx0
    have HX1 := Lib.hid hx1
    have HC0 := Lib.hid hc0
    have HC1 := Lib.hid hc1
    have HAB := Lib.hid hab
    clear hx0 hx1 hc0 hc1 hab
    go_enter Tryz.func5, Tryz.ntmps5
    go_upto_region 1 with (fail)
    generalize (w.alloc (.cells #[.slice p0 oa.ws.length q0, .slice p1 oa.ds.length q1, .slice p2 oa.ss.length q2, .slice p3 oa.rs.length q3] TO)).alloc (.cells #[.slice s0 ob.ws.length t0, .slice s1 ob.ds.length t1, .slice s2 ob.ss.length t2, .slice s3 ob.rs.length t3] TO) = W at *
    have KC := Lib.hid (fun (W' : World) (hb : Below W.heap.size W W') => (⟨(Lib.cell_of_heap ((hb.block _ (by have := HSZ.out; omega)).trans h1) 0), (Lib.cell_of_heap ((hb.block _ (by have := HSZ.out; omega)).trans h1) 1), (Lib.cell_of_heap ((hb.block _ (by have := HSZ.out; omega)).trans h1) 2), (Lib.cell_of_heap ((hb.block _ (by have := HSZ.out; omega)).trans h1) 3), (Lib.cell_of_heap ((hb.block _ (by have := HSZ.out; omega)).trans h2) 0), (Lib.cell_of_heap ((hb.block _ (by have := HSZ.out; omega)).trans h2) 1), (Lib.cell_of_heap ((hb.block _ (by have := HSZ.out; omega)).trans h2) 2), (Lib.cell_of_heap ((hb.block _ (by have := HSZ.out; omega)).trans h2) 3)⟩ :
      W'.cell? ⟨w.heap.size, 0, none⟩ = some (.slice p0 oa.ws.length q0) ∧ W'.cell? ⟨w.heap.size, 1, none⟩ = some (.slice p1 oa.ds.length q1) ∧ W'.cell? ⟨w.heap.size, 2, none⟩ = some (.slice p2 oa.ss.length q2) ∧ W'.cell? ⟨w.heap.size, 3, none⟩ = some (.slice p3 oa.rs.length q3) ∧
      W'.cell? ⟨w.heap.size + 1, 0, none⟩ = some (.slice s0 ob.ws.length t0) ∧ W'.cell? ⟨w.heap.size + 1, 1, none⟩ = some (.slice s1 ob.ds.length t1) ∧ W'.cell? ⟨w.heap.size + 1, 2, none⟩ = some (.slice s2 ob.ss.length t2) ∧ W'.cell? ⟨w.heap.size + 1, 3, none⟩ = some (.slice s3 ob.rs.length t3)))
    have KA := Lib.hid (fun (W' : World) (hb : Below W.heap.size W W') => HA.out.below (hb.mono (by have := HSZ.out; omega : w.heap.size ≤ W.heap.size)))
    have KB := Lib.hid (fun (W' : World) (hb : Below W.heap.size W W') => HBo.out.below (hb.mono (by have := HSZ.out; omega : w.heap.size ≤ W.heap.size)))
    have KL := Lib.hid (fun (W' : World) (hb : Below W.heap.size W W') => HL.out.on hb)
    have KN := Lib.hid (fun (W' : World) (hb : Below W.heap.size W W') => (Nat.le_trans (by have := HSZ.out; omega : w.heap.size ≤ W.heap.size) hb.size : w.heap.size ≤ W'.heap.size))
    have KF0 := Lib.hid (fun (W' : World) (hb : Below W.heap.size W W') => few_ (KN.out W' hb) (KA.out W' hb) (fun s hs => (HWA.out.ss s hs).name) MA.out)
    have KF1 := Lib.hid (fun (W' : World) (hb : Below W.heap.size W W') => few_ (KN.out W' hb) (KB.out W' hb) (fun s hs => (HWB.out.ss s hs).name) MB.out)
    have KP0 := Lib.hid (fun (W' : World) (hb : Below W.heap.size W W') => print_ ((KA.out W' hb).up (KN.out W' hb)) HWA.out (KL.out W' hb))
    have KP1 := Lib.hid (fun (W' : World) (hb : Below W.heap.size W W') => print_ ((KB.out W' hb).up (KN.out W' hb)) HWB.out (KL.out W' hb))
    have KS := Lib.hid (fun (W' : World) (hb : Below W.heap.size W W') => Same_ (KN.out W' hb) (KA.out W' hb) (KB.out W' hb))
    rw [HX0.out] at KF0
    rw [HX1.out] at KF1
    rw [HC0.out] at KP0
    rw [HC1.out] at KP1
    simp only [OCh.ckI, if_true, Bool.false_eq_true, if_false] at KP0 KP1
    have HB0 := Lib.hid (Below.refl W.heap.size W)
    clear h1 h2
  all_goals first
    | (exfalso; have h1 := HC0.out; have h2 := HC1.out; have h3 := HAB.out; have h4 := HX0.out; have h5 := HX1.out; subst h3; rw [h1] at h2; cases h2; done)
    | (exfalso; have h1 := HX0.out; have h2 := HX1.out; have h3 := HAB.out; subst h3; rw [h1] at h2; cases h2; done)
    | skip
  all_goals
    have HS := Lib.hid (show sameO oa ob = decide (oa = ob) from sameO_dec oa ob)
    rw [HS.out] at KS
    first
      | (rw [show decide (oa = ob) = true from decide_eq_true HAB.out] at KS)
      | (rw [show decide (oa = ob) = false from decide_eq_false HAB.out] at KS)
    have HE := Lib.hid (⟨fun (h : oa = ob) => congrArg prS h, fun (h : ¬ oa = ob) c d e => h (HI.out c d e)⟩ : (oa = ob → prS oa = prS ob) ∧ (¬ oa = ob → chk oa = true → chk ob = true → prS oa ≠ prS ob))
    clear HI
    generalize prS oa = sa at *
    generalize prS ob = sb at *
    first
      | (have he : sa = sb := HE.out.1 HAB.out; subst he)
      | (have hne := toList_ne (HE.out.2 HAB.out HC0.out HC1.out))
      | skip
    go_wp2_with (first
      | (go_at_call 8
         (first
          | (with_reducible refine (OA.awake_ _ (KL.out _ HB3.out)).mono ?_; rintro e w4 ⟨rfl, hb4⟩; have HB4 := Lib.hid (HB3.out.trans (hb4.mono HB3.out.size)); clear hb4)
          | (with_reducible refine (OA.awake_ _ (KL.out _ HB2.out)).mono ?_; rintro e w4 ⟨rfl, hb4⟩; have HB4 := Lib.hid (HB2.out.trans (hb4.mono HB2.out.size)); clear hb4)
          | (with_reducible refine (OA.awake_ _ (KL.out _ HB0.out)).mono ?_; rintro e w1 ⟨rfl, hb1⟩; have HB1 := Lib.hid hb1; clear hb1; obtain ⟨f0, f1, f2, f3, g0, g1, g2, g3⟩ := KC.out _ HB1.out)))
      | (go_at_call 9
         (first
          | (with_reducible refine (KF1.out _ HB2.out).mono ?_; rintro e w3 ⟨rfl, hb3⟩; have HB3 := Lib.hid (HB2.out.trans (hb3.mono HB2.out.size)); clear hb3; obtain ⟨f0, f1, f2, f3, g0, g1, g2, g3⟩ := KC.out _ HB3.out)
          | (with_reducible refine (KF0.out _ HB1.out).mono ?_; rintro e w2 ⟨rfl, hb2⟩; have HB2 := Lib.hid (HB1.out.trans (hb2.mono HB1.out.size)); clear hb2; obtain ⟨f0, f1, f2, f3, g0, g1, g2, g3⟩ := KC.out _ HB2.out)))
      | (go_at_call 11
         (first
          | (with_reducible refine (KP1.out _ HB5.out).mono ?_; rintro e w6 ⟨rfl, hb6⟩; have HB6 := Lib.hid (HB5.out.trans (hb6.mono HB5.out.size)); have HB4 := HB6; clear hb6; obtain ⟨f0, f1, f2, f3, g0, g1, g2, g3⟩ := KC.out _ HB6.out)
          | (with_reducible refine (KP0.out _ HB3.out).mono ?_; rintro e w5 ⟨rfl, hb5⟩; have HB5 := Lib.hid (HB3.out.trans (hb5.mono HB3.out.size)); clear hb5; obtain ⟨f0, f1, f2, f3, g0, g1, g2, g3⟩ := KC.out _ HB5.out)))
      | (go_at_call 17; (with_reducible refine (KS.out _ HB6.out).mono ?_); rintro e w7 ⟨rfl, hb7⟩; clear HB4; have HB4 := Lib.hid (HB6.out.trans (hb7.mono HB6.out.size)); clear hb7))
    go_ret
    exact ⟨rfl, HBel.out.trans (HB4.out.mono (by have := HSZ.out; omega))⟩
end OOn
end Go.Proofs.YtieehjkmfmkfjaaGreatDoor
