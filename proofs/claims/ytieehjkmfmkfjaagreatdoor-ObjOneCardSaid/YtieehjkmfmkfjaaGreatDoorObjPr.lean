/-
  The program's Print of any object, or of what is none: a contract. Conditions: Go's own variables hold what its text lays; the object lies in memory.
-/
import Derived.Test.YtieehjkmfmkfjaaGreatDoorObjS
import Derived.Test.YtieehjkmfmkfjaaGreatDoorObjCi
import Derived.Test.YtieehjkmfmkfjaaGreatDoorObjInj
import Derived.Test.YtieehjkmfmkfjaaGreatDoorObjB
namespace Go.Proofs.YtieehjkmfmkfjaaGreatDoor
open Go.RowKit
set_option linter.unusedVariables false
set_option linter.unusedSimpArgs false
namespace OPr
open OO OJ OCk OCh OU OS
theorem sym_of {nt nd : Nat} {ss : List SymV} (h : symsTo nt nd ss ss.length = true) (s : SymV) (hs : s ∈ ss) : symOk nt nd s = true := by
  obtain ⟨k, hk, rfl⟩ := List.getElem_of_mem hs
  unfold symsTo at h
  have := List.all_eq_true.1 h k (List.mem_range.2 hk)
  rw [symAt_eq hk, Bool.and_eq_true] at this
  exact this.2
theorem chk_parts {o : ObjV} (h : chk o = true) : (o.ws.length ≤ 65536 ∧ o.ds.length ≤ 65536 ∧ o.ds.length % 8 = 0) ∧ (o.ss.length ≤ 600 ∧ o.rs.length ≤ 65536) ∧ symsTo o.ws.length o.ds.length o.ss o.ss.length = true ∧ relsTo o.ws o.ds.length o.ss.length o.rs o.rs.length = true := by
  unfold chk lensB at h
  simp only [Bool.and_eq_true, decide_eq_true_eq] at h
  exact ⟨h.1.1, h.1.2, h.2.1, h.2.2⟩
theorem chk_name {o : ObjV} (h : chk o = true) (s : SymV) (hs : s ∈ o.ss) : OM.nameB s.name = true := by
  have := sym_of (chk_parts h).2.2.1 s hs
  unfold symOk at this
  exact (Bool.and_eq_true _ _ ▸ this : _ ∧ _).1
theorem chk_lim {o : ObjV} (h : chk o = true) : o.Lim := by
  obtain ⟨⟨a, b, c⟩, ⟨d, e⟩, f, g⟩ := chk_parts h
  refine ⟨a, b, by omega, e, fun s hs => ?_⟩
  have := chk_name h s hs
  unfold OM.nameB at this
  simp only [Bool.and_eq_true, decide_eq_true_eq] at this
  omega
/-- an object's text, or nothing -/
def prS (o : ObjV) : ByteArray := if chk o then ⟨(objL o).toArray⟩ else ⟨#[]⟩
set_option maxRecDepth 100000 in
set_option maxHeartbeats 4000000 in
theorem print_ {w : World} {o : ObjV} {v0 v1 v2 v3 : Value} (ho : ObjAt w.heap.size w v0 v1 v2 v3 o) (hw : o.Wf) (hL : Laid w) :
    Calls Tryz.prog 11 #[.agg #[v0, v1, v2, v3]] w fun e w' => e = .returned (.tuple #[.string (prS o), .int .i64 (ckI (chk o))]) ∧ Below w.heap.size w w' := by
  have hm := OB.lens ho
  cases hc : chk o with
  | true =>
    have := print_ok ho hw (chk_lim hc) (chk_parts hc).1.2.2 hL (fun w' hb => by
      have := Check_ (w := w') (n₀ := w.heap.size) hb.size (ho.below hb) hw hm
      rw [hc] at this
      exact this)
    unfold prS ckI
    rw [hc]
    exact this
  | false =>
    have hB1 : Below w.heap.size w (w.alloc (.cells #[v0, v1, v2, v3] OCh.TO)) := (Below.refl _ _).alloc (Nat.le_refl _) _
    have c1 := Check_ (w := w.alloc (.cells #[v0, v1, v2, v3] OCh.TO)) (n₀ := w.heap.size) hB1.size (ho.below hB1) hw hm
    rw [hc] at c1
    have HC := Lib.hid hc
    have HB := Lib.hid hB1
    clear ho hw hL hm hc hB1
    simp only [ckI, Bool.false_eq_true, if_false] at c1 ⊢
    go_enter Tryz.func11, Tryz.ntmps11
    go_wp2_with (go_at_call 13; (with_reducible refine c1.mono ?_); rintro e w1 ⟨rfl, hb1⟩; have HB1 := Lib.hid hb1; clear hb1)
    go_ret2
    exact ⟨by unfold prS; rw [HC.out]; rfl, HB.out.trans (HB1.out.mono (by simp))⟩
/-- one text, one object -/
theorem prS_inj {a b : ObjV} (wa : a.Wf) (wb : b.Wf) (ha : chk a = true) (hb : chk b = true) (h : prS a = prS b) : a = b := by
  unfold prS at h
  rw [ha, hb] at h
  simp only [if_true, ByteArray.mk.injEq, List.toArray_inj] at h
  have h : objL a = objL b := by simpa using h
  exact OInj.obj_inj wa wb (fun s hs => OInj.plain_name (chk_name ha s hs)) (fun s hs => OInj.plain_name (chk_name hb s hs)) (chk_parts ha).1.2.2 (chk_parts hb).1.2.2 h
end OPr
end Go.Proofs.YtieehjkmfmkfjaaGreatDoor
