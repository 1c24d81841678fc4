/-
  The program's Print of what is an object: a contract. Conditions: Go's own variables hold what its text lays; the object is not too great to be gone through; Check answers that it is one.
-/
import Derived.Test.YtieehjkmfmkfjaaGreatDoorObjQ
namespace Go.Proofs.YtieehjkmfmkfjaaGreatDoor
open Go.RowKit
set_option linter.unusedVariables false
set_option linter.unusedSimpArgs false
namespace OS
open OL OO OP OF OW OQ OJ
/-- Go's own variables hold what its text lays -/
structure Laid (w : World) : Prop where
  tab : Lib.TabIs Tryz.prog w "internal/strconv.uint64pow10" .u64 Lib.pow10Tab
  hex : RH.Tab w
  max : ∃ m : Int, w.cell? ⟨1, 0, none⟩ = some (.int .i64 m)
  maxlt : 1 < w.heap.size
  syn : ∃ te pe, w.cell? ⟨2, 0, none⟩ = some (.iface te pe)
  synlt : 2 < w.heap.size
  rng : ∃ te pe, w.cell? ⟨3, 0, none⟩ = some (.iface te pe)
  rnglt : 3 < w.heap.size
theorem Laid.on {w w' : World} (h : Laid w) (hb : Below w.heap.size w w') : Laid w' := by
  refine ⟨(Lib.tabBelow_of_tabIs h.tab) w' hb, OD.Tab.below h.hex hb (Nat.le_refl _), ?_, Nat.lt_of_lt_of_le h.maxlt hb.size, ?_, Nat.lt_of_lt_of_le h.synlt hb.size, ?_, Nat.lt_of_lt_of_le h.rnglt hb.size⟩
  · obtain ⟨m, hm⟩ := h.max
    exact ⟨m, (hb.cell (p := ⟨_, 0, none⟩) h.maxlt).trans hm⟩
  · obtain ⟨a, b, hm⟩ := h.syn
    exact ⟨a, b, (hb.cell (p := ⟨_, 0, none⟩) h.synlt).trans hm⟩
  · obtain ⟨a, b, hm⟩ := h.rng
    exact ⟨a, b, (hb.cell (p := ⟨_, 0, none⟩) h.rnglt).trans hm⟩
theorem objL_ne (o : ObjV) : objL o ≠ [] := by
  intro e
  have := congrArg List.length e
  unfold objL t5 lineL at this
  simp at this
set_option maxRecDepth 100000 in
set_option maxHeartbeats 4000000 in
theorem print_ok {w : World} {o : ObjV} {v0 v1 v2 v3 : Value} (ho : ObjAt w.heap.size w v0 v1 v2 v3 o) (hw : o.Wf) (hl : o.Lim) (hd8 : o.ds.length % 8 = 0) (hL : Laid w)
    (hck : ∀ w', Below w.heap.size w w' → Calls Tryz.prog 13 #[.agg #[v0, v1, v2, v3]] w' fun e w'' => e = .returned (.int .i64 0) ∧ Below w'.heap.size w' w'') :
    Calls Tryz.prog 11 #[.agg #[v0, v1, v2, v3]] w fun e w' => e = .returned (.tuple #[.string ⟨(objL o).toArray⟩, .int .i64 0]) ∧ Below w.heap.size w w' := by
  have hB1 : Below w.heap.size w (w.alloc (.cells #[v0, v1, v2, v3] TO)) := (Below.refl _ _).alloc (Nat.le_refl _) _
  have c1 := hck _ hB1
  have hbx := heap_alloc_new w (.cells #[v0, v1, v2, v3] TO)
  obtain ⟨p0, q0, rfl, -⟩ := ho.ws
  obtain ⟨p1, q1, rfl, -⟩ := ho.ds
  obtain ⟨p2, q2, rfl, -⟩ := ho.ss
  obtain ⟨p3, q3, rfl, -⟩ := ho.rs
  have HO := Lib.hid ho
  have HL := Lib.hid hL
  have HW := Lib.hid hw
  have HM := Lib.hid hl
  have HBX := Lib.hid hbx
  have H8 := Lib.hid hd8
  have HE := Lib.hid (objL_ne o)
  clear hck ho hw hl hL hbx hd8
  go_enter Tryz.func11, Tryz.ntmps11
  go_upto_region 4 with (go_at_call 13; (with_reducible refine c1.mono ?_); rintro e w1 ⟨rfl, hb1⟩; have HB := Lib.hid hb1; clear hb1 c1)
  have hbx1 : w1.heap[w.heap.size]? = some (.cells #[.slice p0 o.ws.length q0, .slice p1 o.ds.length q1, .slice p2 o.ss.length q2, .slice p3 o.rs.length q3] TO (0, 0)) := (HB.out.block _ (by simp)).trans HBX.out
  have hw1 : Below w.heap.size w w1 := hB1.trans (HB.out.mono (by simp))
  have hlt1 : w.heap.size < w1.heap.size := lt_of_get hbx1
  have hT0 : Txt w.heap.size w1.heap.size [] (w1.alloc (.cells #[.pointer none, .slice none 0 0] TW)) := .inl ⟨by omega, .slice none 0 0, heap_alloc_new w1 _, World.ownsRowF_nil _ _ _ _, by simp [Value.ownBlock]⟩
  have hw2 : Below w.heap.size w (w1.alloc (.cells #[.pointer none, .slice none 0 0] TW)) := hw1.alloc (by omega) _
  have c2 := object_ hT0 (by simp; omega) (HO.out.below hw2) HW.out HM.out ((Lib.tabBelow_of_tabIs HL.out.tab).on hw2) (fun w' hb => (HL.out.on (hw2.trans hb)).hex) H8.out
  obtain ⟨b0, b1, b2, b3⟩ : w1.cell? ⟨w.heap.size, 0, none⟩ = some (.slice p0 o.ws.length q0) ∧ w1.cell? ⟨w.heap.size, 1, none⟩ = some (.slice p1 o.ds.length q1) ∧ w1.cell? ⟨w.heap.size, 2, none⟩ = some (.slice p2 o.ss.length q2) ∧ w1.cell? ⟨w.heap.size, 3, none⟩ = some (.slice p3 o.rs.length q3) :=
    ⟨Lib.cell_of_heap hbx1 0, Lib.cell_of_heap hbx1 1, Lib.cell_of_heap hbx1 2, Lib.cell_of_heap hbx1 3⟩
  have HW2 := Lib.hid hw2
  clear hB1 hw1 hw2 hT0 hbx1
  go_upto_region 6 with (go_at_call 20; (with_reducible refine c2.mono ?_); rintro e w3 ⟨rfl, ht3, hf3⟩; have HT3 := Lib.hid ht3; have HF3 := Lib.hid hf3; clear ht3 hf3 c2)
  have c3 := string_ w.heap.size w1.heap.size (objL o) w3 HT3.out HE.out
  go_wp2_with (go_at_call 21; (with_reducible refine c3.mono ?_); rintro e w4 ⟨rfl, hb4⟩; have HB4 := Lib.hid hb4; clear hb4 c3)
  go_ret2
  exact ⟨rfl, (HW2.out.trans HF3.out.below).trans HB4.out⟩
theorem none_at (w : World) : ObjAt w.heap.size w (.slice none 0 0) (.slice none 0 0) (.slice none 0 0) (.slice none 0 0) ⟨[], [], [], []⟩ :=
  ⟨⟨none, 0, rfl, fun h => absurd h (by simp)⟩, ⟨none, 0, rfl, fun h => absurd h (by simp)⟩, ⟨none, 0, rfl, fun h => absurd h (by simp)⟩, ⟨none, 0, rfl, fun h => absurd h (by simp)⟩⟩
/-- the text of nothing -/
theorem print_none {w : World} (hL : Laid w) :
    Calls Tryz.prog 11 #[nil4] w fun e w' => e = .returned (.tuple #[.string ⟨(objL ⟨[], [], [], []⟩).toArray⟩, .int .i64 0]) ∧ Below w.heap.size w w' :=
  print_ok (none_at w) ⟨by simp, by intro x hx; simp at hx, by simp, by simp⟩ ⟨by simp, by simp, by simp, by simp, by simp⟩ (by simp) hL fun w' _ => Check_none w'
theorem objL_none : (⟨(objL ⟨[], [], [], []⟩).toArray⟩ : ByteArray) = ⟨#[111, 98, 106, 101, 99, 116, 10, 116, 101, 120, 116, 32, 48, 10, 100, 97, 116, 97, 32, 48, 10, 115, 121, 109, 115, 32, 48, 10, 114, 101, 108, 115, 32, 48, 10, 101, 110, 100, 10]⟩ := by
  decide +kernel
end OS
end Go.Proofs.YtieehjkmfmkfjaaGreatDoor
