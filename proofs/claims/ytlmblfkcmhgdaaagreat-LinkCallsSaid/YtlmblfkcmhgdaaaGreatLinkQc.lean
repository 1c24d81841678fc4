/-
  What is found of objects before they are laid: a contract. Conditions: the objects lie in memory, with not too much in each.
  Objects linked: a contract. Conditions: the objects lie in memory, with not too much in each.
  Link: a contract. Conditions: the objects lie in memory, with not too much in each.
-/
import Derived.Test.YtlmblfkcmhgdaaaGreatLinkQb
import Derived.Test.YtlmblfkcmhgdaaaGreatLinkQa
import Derived.Test.YtlmblfkcmhgdaaaGreatResQb
import Derived.Laws.OwnMore
import Derived.Deep.OwnRows
namespace Go.Proofs.YtlmblfkcmhgdaaaGreat
open Go.RowKit
set_option linter.unusedVariables false
set_option linter.unusedSimpArgs false
namespace KF
open OO OJ RsM LM LL LP KB KC KM KE KL KN KD RsY RsB RsV RsD
abbrev TT2 : TypeId := 76
theorem u8_info : (Tryz.prog.info? 5).map (fun i => (i.zero, i.size, i.bytes)) = some (some (.int .u8 0), 1, 1) := by kernel_rfl
theorem mk_run (N : Nat) (hN : N ≤ 2097152) (w : World) : (Instr.makeSlice 26 (.int .i64 N) (.int .i64 N)).run Tryz.prog w = .ok (.slice (some ⟨w.heap.size, 0, none⟩) N N) (w.alloc (.cells (img (zeros N)).toArray TU)) := by
  have h := run_make_row' (P := Tryz.prog) 26 5 (.int .u8 0) 1 Tryz.underlying26 u8_info rfl .i64 .i64 N (by omega) (by omega) w
  rw [h, show madeCells #[Value.int .u8 0] N = (img (zeros N)).toArray from by
    apply Array.ext'
    rw [toList_madeCells_one]
    simp [img, zeros]]
theorem obAt_of {n₀ : Nat} {w : World} {v : Value} {objs : List ObjV} (h : ObjsAt n₀ w v objs) : ObAt n₀ w v (szL objs) := by
  obtain ⟨p, c, rfl, hh⟩ := h
  refine ⟨p, c, by rw [szL_length], fun h0 => ?_⟩
  rw [szL_length] at h0
  obtain ⟨b, o, e, h1, h2, h3, h4⟩ := hh h0
  refine ⟨b, o, e, h1, by rw [szL_length]; exact h2, h3, fun i x hx => ?_⟩
  have hi : i < objs.length := by rw [← szL_length]; exact (List.getElem?_eq_some_iff.1 hx).1
  obtain ⟨v0, v1, v2, v3, k0, k1, k2, k3, hoa⟩ := h4 i _ (obAt_get hi)
  have hx' := (List.getElem?_eq_getElem (show i < (szL objs).length by rw [szL_length]; exact hi)).symm.trans hx
  rw [szL_get hi] at hx'
  cases hx'
  obtain ⟨p0, q0, rfl, -⟩ := hoa.ws
  obtain ⟨p1, q1, rfl, -⟩ := hoa.ds
  obtain ⟨p2, q2, rfl, -⟩ := hoa.ss
  obtain ⟨p3, q3, rfl, -⟩ := hoa.rs
  exact ⟨p0, q0, p1, q1, p2, _, q2, p3, _, q3, k0, k1, k2, k3⟩
theorem two_at {w1 W : World} {a b : Value} {T : TypeId} (hb : Below (w1.alloc (.cells #[a, b] T)).heap.size (w1.alloc (.cells #[a, b] T)) W) : W.cell? ⟨w1.heap.size, 0, none⟩ = some a ∧ W.cell? ⟨w1.heap.size, 1, none⟩ = some b := by
  have h : W.heap[w1.heap.size]? = some (.cells #[a, b] T (0, 0)) := (hb.block _ (by simp)).trans (heap_alloc_new w1 _)
  exact ⟨Lib.cell_of_heap h 0, Lib.cell_of_heap h 1⟩
def set6 (W : World) (b : Nat) (u0 u1 u2 u3 u4 u5 : Value) : World := (((((W.setCell ⟨b, 0, none⟩ u0).setCell ⟨b, 1, none⟩ u1).setCell ⟨b, 2, none⟩ u2).setCell ⟨b, 3, none⟩ u3).setCell ⟨b, 4, none⟩ u4).setCell ⟨b, 5, none⟩ u5
theorem set6_at {W : World} {b : Nat} {v0 v1 v2 v3 v4 v5 : Value} {T : TypeId} (h : W.heap[b]? = some (.cells #[v0, v1, v2, v3, v4, v5] T (0, 0))) (u0 u1 u2 u3 u4 u5 : Value) : (set6 W b u0 u1 u2 u3 u4 u5).heap[b]? = some (.cells #[u0, u1, u2, u3, u4, u5] T (0, 0)) := by
  have a0 := heap_setCell_same _ b 0 _ _ u0 h
  have a1 := heap_setCell_same _ b 1 _ _ u1 a0
  have a2 := heap_setCell_same _ b 2 _ _ u2 a1
  have a3 := heap_setCell_same _ b 3 _ _ u3 a2
  have a4 := heap_setCell_same _ b 4 _ _ u4 a3
  have a5 := heap_setCell_same _ b 5 _ _ u5 a4
  unfold set6
  simpa using a5
theorem set6_below {B : Nat} {w W : World} (h : Below B w W) {b : Nat} (hb : B ≤ b) (u0 u1 u2 u3 u4 u5 : Value) : Below B w (set6 W b u0 u1 u2 u3 u4 u5) :=
  (((((h.setCell (p := ⟨b, 0, none⟩) hb u0).setCell (p := ⟨b, 1, none⟩) hb u1).setCell (p := ⟨b, 2, none⟩) hb u2).setCell (p := ⟨b, 3, none⟩) hb u3).setCell (p := ⟨b, 4, none⟩) hb u4).setCell (p := ⟨b, 5, none⟩) hb u5
theorem set6_oth (W : World) (b : Nat) (u0 u1 u2 u3 u4 u5 : Value) (k : Nat) (h : k ≠ b) : (set6 W b u0 u1 u2 u3 u4 u5).heap[k]? = W.heap[k]? := by
  unfold set6
  rw [oth_set _ _ _ _ _ h, oth_set _ _ _ _ _ h, oth_set _ _ _ _ _ h, oth_set _ _ _ _ _ h, oth_set _ _ _ _ _ h, oth_set _ _ _ _ _ h]
theorem tgts_move {n₀ lo : Nat} {w w' : World} {tv : Value} {rows : List (List (Int × Int))} (h : TgtsB n₀ w tv rows) (hl : TgtsLo lo w tv) (hs : ∀ b, lo ≤ b → b < n₀ → w'.heap[b]? = w.heap[b]?) : TgtsB n₀ w' tv rows ∧ TgtsLo lo w' tv := by
  obtain ⟨pt, ct, rfl, hh⟩ := h
  refine ⟨⟨pt, ct, rfl, fun h0 => ?_⟩, fun b o m c e => ?_⟩
  · obtain ⟨b, o, e2, hb, h2, h3, h4⟩ := hh h0
    obtain ⟨l1, l2⟩ := hl b o rows.length ct (by rw [e2])
    refine ⟨b, o, e2, hb, h2, h3, fun j r hj => ?_⟩
    obtain ⟨vr, k1, pr, cr, rfl, k2⟩ := h4 j r hj
    refine ⟨_, (cell_same (hs b l1 hb) _).trans k1, pr, cr, rfl, fun hr0 => ?_⟩
    obtain ⟨b', o', e3, hb', q2, q3, q4⟩ := k2 hr0
    subst e3
    have l3 := l2 j (List.getElem?_eq_some_iff.1 hj).1 b' o' r.length cr k1
    exact ⟨b', o', rfl, hb', q2, q3, fun n t hn => ⟨(cell_same (hs b' l3 hb') _).trans (q4 n t hn).1, (cell_same (hs b' l3 hb') _).trans (q4 n t hn).2⟩⟩
  · obtain ⟨l1, l2⟩ := hl b o m c e
    refine ⟨l1, fun i hi b' o' m' c' hc => ?_⟩
    simp only [Value.slice.injEq] at e
    obtain ⟨b2, o2, e2, hb, -⟩ := hh (by omega)
    rw [e.1] at e2
    simp only [Option.some.injEq, Addr.mk.injEq, and_true] at e2
    obtain ⟨rfl, rfl⟩ := e2
    exact l2 i hi b' o' m' c' ((cell_same (hs b l1 hb) _).symm.trans hc)
theorem TgtsB.up {n₀ n₁ : Nat} {w : World} {tv : Value} {rows : List (List (Int × Int))} (h : TgtsB n₀ w tv rows) (hn : n₀ ≤ n₁) : TgtsB n₁ w tv rows :=
  Sl.mono h hn fun b o hlt hr i r hi => by
    obtain ⟨v, h1, h2⟩ := hr i r hi
    exact ⟨v, h1, Sl.mono h2 hn fun b' o' _ hr' => hr'⟩
theorem lo_mono {lo lo' : Nat} {w : World} {tv : Value} (h : TgtsLo lo w tv) (hl : lo' ≤ lo) : TgtsLo lo' w tv := fun b o m c e => ⟨Nat.le_trans hl (h b o m c e).1, fun i hi b' o' m' c' hc => Nat.le_trans hl ((h b o m c e).2 i hi b' o' m' c' hc)⟩
theorem pl_move {n₀ : Nat} {w w' : World} {pv : Value} {l : LM.Sz} (X : Nat → Prop) (h : PlAt n₀ w pv l) (hx : ∀ b, X b → ∃ cs T, w.heap[b]? = some (.cells cs T (0, 0)) ∧ ∀ (o n : Nat), 12 ≤ n → cs[o]? ≠ some (.int .i64 (n : Int)))
    (hs : ∀ b, ¬ X b → b < n₀ → w'.heap[b]? = w.heap[b]?) : PlAt n₀ w' pv l := by
  obtain ⟨p, c, rfl, hh⟩ := h
  refine ⟨p, c, rfl, fun h0 => ?_⟩
  obtain ⟨b, o, e2, hb, h2, h3, h4⟩ := hh h0
  have hn : ¬ X b := fun hX => by
    obtain ⟨cs, T, e, hne⟩ := hx b hX
    have h5 := (h4 0 h0).1
    rw [Lib.cell_of_heap e] at h5
    exact hne _ _ (textAt_le l 0).1 h5
  exact ⟨b, o, e2, hb, h2, h3, fun j hj => ⟨(cell_same (hs b hn hb) _).trans (h4 j hj).1, (cell_same (hs b hn hb) _).trans (h4 j hj).2⟩⟩
theorem no12 (o n : Nat) (h : 12 ≤ n) : zeroP[o]? ≠ some (.int .i64 (n : Int)) := by
  intro e
  unfold zeroP at e
  match o, e with
  | 0, e => simp at e
  | 1, e => simp at e; omega
  | 2, e => simp at e; omega
  | 3, e => simp at e
  | 4, e => simp at e
  | 5, e => simp at e
  | o + 6, e => simp at e
/-- what found answers -/
def Found (objs : List ObjV) (v : Value) (w : World) (e : Ending) (w' : World) : Prop := Below w.heap.size w w' ∧
  ((∃ code : Int, code ≠ 0 ∧ ((mainOut objs).2.2 ≠ 0 ∨ LM.ok (szL objs) = false) ∧ linkOut objs = ([], code) ∧ e = .returned (.tuple #[.agg zeroP, .int .i64 code])) ∨
   (∃ (mi mk : Int) (tv pv : Value) (g : Nat), mainOut objs = (mi, mk, 0) ∧ LM.ok (szL objs) = true ∧ e = .returned (.tuple #[.agg #[v, .int .i64 mi, .int .i64 mk, tv, pv, .slice (some ⟨g, 0, none⟩) (dend (szL objs)) (dend (szL objs))], .int .i64 0]) ∧ w.heap.size < g ∧ w'.heap[g]? = some (.cells (img (zeros (dend (szL objs)))).toArray TU (0, 0)) ∧
     PlAt g w' pv (szL objs) ∧ TgtsB g w' tv (tgL objs) ∧ TgtsLo (w.heap.size + 1) w' tv))
abbrev ZB : Obj := .cells zeroP T80
section
variable {w : World} {n₀ : Nat} {v : Value} {objs : List ObjV}
set_option maxRecDepth 100000 in
set_option maxHeartbeats 8000000 in
theorem found_ (hn : n₀ ≤ w.heap.size) (ho : ObjsAt n₀ w v objs) (hw : ∀ o ∈ objs, o.Wf) (hm : objs.length ≤ 65536) (hms : ∀ o ∈ objs, o.ss.length ≤ maxLen) (hN : (flat objs).length ≤ 100000) (hz : ∀ x ∈ szL objs, x.1 ≤ 4294967296 ∧ x.2 ≤ 4294967296) :
    Calls Tryz.prog 43 #[v] w (Found objs v w) := by
  have hbA : Below w.heap.size w (w.alloc ZB) := (Below.refl _ _).alloc (Nat.le_refl _) _
  have cm := Main_ (w := w.alloc ZB) (n₀ := n₀) (by simp only [World.size_alloc]; omega) (ObjsAt.same ho (Same.of hbA hn)) hw (by omega) hms hN
  have cr := fun (W : World) (h : Below w.heap.size w W) => resolve_ (w := W) (n₀ := n₀) (Nat.le_trans hn h.size) (ObjsAt.same ho (Same.of h hn)) hw (by omega) hms hN
  have HBA := Lib.hid hbA
  have hx0 : (w.alloc ZB).heap[w.heap.size]? = some ZB := heap_alloc_new w _
  have HX0 := Lib.hid hx0
  obtain ⟨mi, mk, mc, hmo⟩ : ∃ mi mk mc, mainOut objs = (mi, mk, mc) := ⟨_, _, _, rfl⟩
  rw [hmo] at cm
  simp only at cm
  have HMO := Lib.hid hmo
  by_cases hmc : mc = 0
  · subst hmc
    obtain ⟨hrc, ma, mb, -, -, -, -, -, -, -⟩ := main_at hmo
    have HRC := Lib.hid hrc
    have cr' := fun (W : World) (h : Below w.heap.size w W) => resolve_lo_ (w := W) (n₀ := n₀) (Nat.le_trans hn h.size) (ObjsAt.same ho (Same.of h hn)) hw (by omega) hms hN
    have HO := Lib.hid ho
    obtain ⟨pv0, cv0, rfl, -⟩ := ho
    have hlz : (szL objs).length ≤ 65536 := by rw [szL_length]; exact hm
    simp only [ZB, zeroP] at hx0 cm
    have hmm := hm
    clear hw hms hN hbA cr hmo hrc
    go_enter Tryz.func43, Tryz.ntmps43
    go_upto_region 2 with (go_at_call 66; (with_reducible refine cm.mono ?_); rintro e w2 ⟨rfl, hb2⟩; have HB2 := Lib.hid hb2; clear hb2 cm)
    have hb3 : Below w.heap.size w (w2.alloc (.cells #[.int .i64 mi, .int .i64 mk] TT2)) := (HBA.out.trans (HB2.out.mono (by simp only [World.size_alloc]; omega))).alloc (Nat.le_trans HBA.out.size HB2.out.size) _
    have hs2 := HB2.out.size
    rw [World.size_alloc] at hs2
    have hx3 : (w2.alloc (.cells #[.int .i64 mi, .int .i64 mk] TT2)).heap[w.heap.size]? = some ZB := by
      rw [Lib.alloc_old _ _ _ (by omega), HB2.out.block _ (by simp only [World.size_alloc]; omega)]
      exact HX0.out
    have HX3 := Lib.hid hx3
    have HB3 := Lib.hid hb3
    have cr := cr' _ hb3
    clear hb3 hx3 cr'
    go_upto_region 5 with (go_at_call 67; (with_reducible refine cr.mono ?_); rintro e w4 ⟨tv, i, k, c, rfl, hout, hb4, hlo⟩; have HOUT := Lib.hid hout; have HLO := Lib.hid hlo; have HB4 := Lib.hid hb4; obtain ⟨pt, ct, rfl, ht⟩ := out_tgts hout; clear hout hlo hb4 cr)
    have hs4 := HB4.out.size
    rw [World.size_alloc] at hs4
    have hb5 : Below w.heap.size w (w4.alloc (.cells #[.int .i64 i, .int .i64 k] TT2)) := (HB3.out.trans (HB4.out.mono (by rw [World.size_alloc]; omega))).alloc (by omega) _
    have hx5 : (w4.alloc (.cells #[.int .i64 i, .int .i64 k] TT2)).heap[w.heap.size]? = some ZB := by
      rw [Lib.alloc_old _ _ _ (by omega), HB4.out.block _ (by rw [World.size_alloc]; omega)]
      exact HX3.out
    have HX5 := Lib.hid hx5
    have HB5 := Lib.hid hb5
    have HM5 := Lib.hid (show Below (w2.alloc (.cells #[.int .i64 mi, .int .i64 mk] TT2)).heap.size (w2.alloc (.cells #[.int .i64 mi, .int .i64 mk] TT2)) (w4.alloc (.cells #[.int .i64 i, .int .i64 k] TT2)) from HB4.out.alloc (by rw [World.size_alloc]; omega) _)
    have hoa : ObAt n₀ (w4.alloc (.cells #[.int .i64 i, .int .i64 k] TT2)) (.slice pv0 objs.length cv0) (szL objs) := ObAt.below (obAt_of HO.out) (hb5.mono hn)
    have HTG := Lib.hid ht
    cases hok : LM.ok (szL objs) with
    | false =>
      have cl := Layout_no (w := w4.alloc (.cells #[.int .i64 i, .int .i64 k] TT2)) hok (Nat.le_trans hn hb5.size) hoa hlz hz
      have hl : linkOut objs = ([], 6) := by unfold linkOut; rw [HMO.out]; simp only; rw [if_neg (by decide), if_pos hok]
      have HL := Lib.hid hl
      have HOKF := Lib.hid hok
      clear hl hok hb5 hx5 hoa ht hz
      go_upto_region 7 with (go_at_call 68; (with_reducible refine cl.mono ?_); rintro e w6 ⟨rfl, hb6⟩; have HB6 := Lib.hid hb6; clear hb6 cl)
      have hb6 : Below w.heap.size w w6 := HB5.out.trans (HB6.out.mono HB5.out.size)
      have hx3 : w6.heap[w.heap.size]? = some ZB := (HB6.out.block _ (by rw [World.size_alloc]; omega)).trans HX5.out
      simp only [ZB, zeroP] at hx3
      have c0 : w6.cell? ⟨w.heap.size, 0, none⟩ = some (.slice none 0 0) := Lib.cell_of_heap hx3 0
      have c1 : w6.cell? ⟨w.heap.size, 1, none⟩ = some (.int .i64 0) := Lib.cell_of_heap hx3 1
      have c2 : w6.cell? ⟨w.heap.size, 2, none⟩ = some (.int .i64 0) := Lib.cell_of_heap hx3 2
      have c3 : w6.cell? ⟨w.heap.size, 3, none⟩ = some (.slice none 0 0) := Lib.cell_of_heap hx3 3
      have c4 : w6.cell? ⟨w.heap.size, 4, none⟩ = some (.slice none 0 0) := Lib.cell_of_heap hx3 4
      have c5 : w6.cell? ⟨w.heap.size, 5, none⟩ = some (.slice none 0 0) := Lib.cell_of_heap hx3 5
      have f0 : w6.frozen? ⟨w.heap.size, 0, none⟩ = false := Lib.frozen_of_heap hx3 _
      have f1 : w6.frozen? ⟨w.heap.size, 1, none⟩ = false := Lib.frozen_of_heap hx3 _
      have f2 : w6.frozen? ⟨w.heap.size, 2, none⟩ = false := Lib.frozen_of_heap hx3 _
      have f3 : w6.frozen? ⟨w.heap.size, 3, none⟩ = false := Lib.frozen_of_heap hx3 _
      have f4 : w6.frozen? ⟨w.heap.size, 4, none⟩ = false := Lib.frozen_of_heap hx3 _
      have f5 : w6.frozen? ⟨w.heap.size, 5, none⟩ = false := Lib.frozen_of_heap hx3 _
      obtain ⟨W7, hW7⟩ : ∃ W7, W7 = set6 w6 w.heap.size (.slice none 0 0) (.int .i64 0) (.int .i64 0) (.slice none 0 0) (.slice none 0 0) (.slice none 0 0) := ⟨_, rfl⟩
      have D := set6_at hx3 (.slice none 0 0) (.int .i64 0) (.int .i64 0) (.slice none 0 0) (.slice none 0 0) (.slice none 0 0)
      rw [← hW7] at D
      have d0 : W7.cell? ⟨w.heap.size, 0, none⟩ = some (.slice none 0 0) := Lib.cell_of_heap D 0
      have d1 : W7.cell? ⟨w.heap.size, 1, none⟩ = some (.int .i64 0) := Lib.cell_of_heap D 1
      have d2 : W7.cell? ⟨w.heap.size, 2, none⟩ = some (.int .i64 0) := Lib.cell_of_heap D 2
      have d3 : W7.cell? ⟨w.heap.size, 3, none⟩ = some (.slice none 0 0) := Lib.cell_of_heap D 3
      have d4 : W7.cell? ⟨w.heap.size, 4, none⟩ = some (.slice none 0 0) := Lib.cell_of_heap D 4
      have d5 : W7.cell? ⟨w.heap.size, 5, none⟩ = some (.slice none 0 0) := Lib.cell_of_heap D 5
      have HB7 : Hid (Below w.heap.size w W7) := Lib.hid (by rw [hW7]; exact set6_below hb6 (Nat.le_refl _) _ _ _ _ _ _)
      unfold set6 at hW7
      have HW7 := Lib.hid hW7
      clear hW7 hx3 hb6 D
      go_wp2
      rw [← HW7.out]
      refine bodyPost_ret (v := .tuple #[.agg zeroP, .int .i64 6]) (by simp [results, Tryz.results43, go_sem, zeroP, d0, d1, d2, d3, d4, d5]) rfl ?_
      exact ⟨HB7.out, .inl ⟨6, by decide, .inr HOKF.out, HL.out, rfl⟩⟩
    | true =>
      have cl := Layout_yes (w := w4.alloc (.cells #[.int .i64 i, .int .i64 k] TT2)) hok (Nat.le_trans hn hb5.size) hoa hlz hz
      have hdl := ok_lim hok
      have HOK := Lib.hid hok
      clear hok hb5 hx5 hoa ht hz
      generalize hnd : dend (szL objs) = nd at *
      have HND := Lib.hid hnd
      clear hnd
      go_upto_region 8 with (go_at_call 68; (with_reducible refine cl.mono ?_); rintro e w6 ⟨pp, cp, rfl, hpl, hb6⟩; have HB6 := Lib.hid hb6; have HPL := Lib.hid hpl; clear hb6 hpl cl)
      have hb6 : Below w.heap.size w w6 := HB5.out.trans (HB6.out.mono HB5.out.size)
      have hs6 := HB6.out.size
      rw [World.size_alloc] at hs6
      have hxo : w6.heap[w.heap.size]? = some ZB := (HB6.out.block _ (by rw [World.size_alloc]; omega)).trans HX5.out
      obtain ⟨m0, m1⟩ := two_at (HM5.out.trans (HB6.out.mono (by rw [World.size_alloc, World.size_alloc]; omega)))
      have m0d : w6.drew.cell? ⟨w2.heap.size, 0, none⟩ = some (.int .i64 mi) := m0
      have m1d : w6.drew.cell? ⟨w2.heap.size, 1, none⟩ = some (.int .i64 mk) := m1
      have hmk := mk_run nd hdl
      obtain ⟨Z, hZ⟩ : ∃ Z, Z = Obj.cells (img (zeros nd)).toArray TU := ⟨_, rfl⟩
      rw [← hZ] at hmk
      have HZ := Lib.hid hZ
      clear hZ
      have m0' : (w6.alloc Z).cell? ⟨w2.heap.size, 0, none⟩ = some (.int .i64 mi) := (World.cell?_alloc_lt (w := w6) (a := ⟨w2.heap.size, 0, none⟩) (o := Z) (by show w2.heap.size < w6.heap.size; omega)).trans m0
      have m1' : (w6.alloc Z).cell? ⟨w2.heap.size, 1, none⟩ = some (.int .i64 mk) := (World.cell?_alloc_lt (w := w6) (a := ⟨w2.heap.size, 1, none⟩) (o := Z) (by show w2.heap.size < w6.heap.size; omega)).trans m1
      have hx3 : (w6.alloc Z).heap[w.heap.size]? = some ZB := (Lib.alloc_old _ _ _ (by show w.heap.size < w6.heap.size; omega)).trans hxo
      simp only [ZB, zeroP] at hx3
      have c0 : (w6.alloc Z).cell? ⟨w.heap.size, 0, none⟩ = some (.slice none 0 0) := Lib.cell_of_heap hx3 0
      have c1 : (w6.alloc Z).cell? ⟨w.heap.size, 1, none⟩ = some (.int .i64 0) := Lib.cell_of_heap hx3 1
      have c2 : (w6.alloc Z).cell? ⟨w.heap.size, 2, none⟩ = some (.int .i64 0) := Lib.cell_of_heap hx3 2
      have c3 : (w6.alloc Z).cell? ⟨w.heap.size, 3, none⟩ = some (.slice none 0 0) := Lib.cell_of_heap hx3 3
      have c4 : (w6.alloc Z).cell? ⟨w.heap.size, 4, none⟩ = some (.slice none 0 0) := Lib.cell_of_heap hx3 4
      have c5 : (w6.alloc Z).cell? ⟨w.heap.size, 5, none⟩ = some (.slice none 0 0) := Lib.cell_of_heap hx3 5
      have f0 : (w6.alloc Z).frozen? ⟨w.heap.size, 0, none⟩ = false := Lib.frozen_of_heap hx3 _
      have f1 : (w6.alloc Z).frozen? ⟨w.heap.size, 1, none⟩ = false := Lib.frozen_of_heap hx3 _
      have f2 : (w6.alloc Z).frozen? ⟨w.heap.size, 2, none⟩ = false := Lib.frozen_of_heap hx3 _
      have f3 : (w6.alloc Z).frozen? ⟨w.heap.size, 3, none⟩ = false := Lib.frozen_of_heap hx3 _
      have f4 : (w6.alloc Z).frozen? ⟨w.heap.size, 4, none⟩ = false := Lib.frozen_of_heap hx3 _
      have f5 : (w6.alloc Z).frozen? ⟨w.heap.size, 5, none⟩ = false := Lib.frozen_of_heap hx3 _
      obtain ⟨W7, hW7⟩ : ∃ W7, W7 = set6 (w6.alloc Z) w.heap.size (.slice pv0 objs.length cv0) (.int .i64 mi) (.int .i64 mk) (.slice pt (tgL objs).length ct) (.slice pp (szL objs).length cp) (.slice (some ⟨w6.heap.size, 0, none⟩) nd nd) := ⟨_, rfl⟩
      have D := set6_at hx3 (.slice pv0 objs.length cv0) (.int .i64 mi) (.int .i64 mk) (.slice pt (tgL objs).length ct) (.slice pp (szL objs).length cp) (.slice (some ⟨w6.heap.size, 0, none⟩) nd nd)
      rw [← hW7] at D
      have d0 : W7.cell? ⟨w.heap.size, 0, none⟩ = some (.slice pv0 objs.length cv0) := Lib.cell_of_heap D 0
      have d1 : W7.cell? ⟨w.heap.size, 1, none⟩ = some (.int .i64 mi) := Lib.cell_of_heap D 1
      have d2 : W7.cell? ⟨w.heap.size, 2, none⟩ = some (.int .i64 mk) := Lib.cell_of_heap D 2
      have d3 : W7.cell? ⟨w.heap.size, 3, none⟩ = some (.slice pt (tgL objs).length ct) := Lib.cell_of_heap D 3
      have d4 : W7.cell? ⟨w.heap.size, 4, none⟩ = some (.slice pp (szL objs).length cp) := Lib.cell_of_heap D 4
      have d5 : W7.cell? ⟨w.heap.size, 5, none⟩ = some (.slice (some ⟨w6.heap.size, 0, none⟩) nd nd) := Lib.cell_of_heap D 5
      have hb7 : Below w.heap.size w W7 := by rw [hW7]; exact set6_below (hb6.alloc hb6.size _) (Nat.le_refl _) _ _ _ _ _ _
      have ho7 : ∀ b, b ≠ w.heap.size → b < w6.heap.size → W7.heap[b]? = w6.heap[b]? := fun b h1 h2 => by rw [hW7, set6_oth _ _ _ _ _ _ _ _ _ h1, Lib.alloc_old _ _ _ h2]
      have hg7 : W7.heap[w6.heap.size]? = some Z := by rw [hW7, set6_oth _ _ _ _ _ _ _ _ _ (by omega)]; exact heap_alloc_new w6 _
      unfold set6 at hW7
      have HW7 := Lib.hid hW7
      have HB7 := Lib.hid hb7
      have HO7 := Lib.hid ho7
      have HG7 := Lib.hid hg7
      clear hW7 hb7 ho7 hg7 D
      have HX6 := Lib.hid hx3
      have HXO := Lib.hid hxo
      have HB6' := Lib.hid hb6
      clear hx3 hb6 hxo
      go_region
      rw [← HW7.out]
      go_wp2
      refine bodyPost_ret (v := .tuple #[.agg #[.slice pv0 objs.length cv0, .int .i64 mi, .int .i64 mk, .slice pt (tgL objs).length ct, .slice pp (szL objs).length cp, .slice (some ⟨w6.heap.size, 0, none⟩) nd nd], .int .i64 0]) (by simp [results, Tryz.results43, go_sem, d0, d1, d2, d3, d4, d5]) rfl ?_
      have key : ∀ b, w2.heap.size + 1 ≤ b → b < w4.heap.size → W7.drew.heap[b]? = w4.heap[b]? := fun b q1 q2 => by
        show W7.heap[b]? = _
        rw [HO7.out b (by omega) (by omega), HB6.out.block b (by rw [World.size_alloc]; omega), Lib.alloc_old _ _ _ q2]
      have hlo4 := HLO.out
      rw [World.size_alloc] at hlo4
      obtain ⟨t1, t2⟩ := tgts_move (w' := W7.drew) (show TgtsB w4.heap.size w4 (.slice pt (tgL objs).length ct) (tgL objs) from ⟨pt, ct, rfl, HTG.out⟩) hlo4 key
      refine ⟨HB7.out.drew, .inr ⟨mi, mk, _, _, w6.heap.size, HMO.out, HOK.out, by rw [HND.out], by omega, ?_, pl_move (fun b => b = w.heap.size) HPL.out (fun b hb => ⟨zeroP, T80, by rw [hb]; exact HXO.out, no12⟩) (fun b q1 q2 => HO7.out b q1 q2), TgtsB.up t1 (by omega), lo_mono t2 (by omega)⟩⟩
      rw [HND.out]
      exact HG7.out.trans (congrArg some HZ.out)
  · have hmc' : (mc != 0) = true := by simpa using hmc
    have HMC := Lib.hid hmc
    have hl : linkOut objs = ([], mc) := by unfold linkOut; rw [hmo]; simp only; rw [if_pos hmc]
    have HL := Lib.hid hl
    clear hmo hmc hl ho hw hms hN hz cr hbA
    simp only [ZB, zeroP] at hx0 cm
    go_enter Tryz.func43, Tryz.ntmps43
    go_upto_region 2 with (go_at_call 66; (with_reducible refine cm.mono ?_); rintro e w2 ⟨rfl, hb2⟩; have HB2 := Lib.hid hb2; clear hb2 cm)
    obtain ⟨W3, hW3⟩ : ∃ W3, W3 = w2.alloc (.cells #[.int .i64 mi, .int .i64 mk] TT2) := ⟨_, rfl⟩
    rw [← hW3]
    have hb3 : Below w.heap.size w W3 := by rw [hW3]; exact (HBA.out.trans (HB2.out.mono (by simp only [World.size_alloc]; omega))).alloc (Nat.le_trans HBA.out.size HB2.out.size) _
    have hx3 : W3.heap[w.heap.size]? = some ZB := by
      have hs := HB2.out.size
      rw [World.size_alloc] at hs
      rw [hW3, Lib.alloc_old _ _ _ (by omega), HB2.out.block _ (by simp only [World.size_alloc]; omega)]
      exact HX0.out
    clear hW3
    have HB3 := Lib.hid hb3
    have HX3 := Lib.hid hx3
    simp only [ZB, zeroP] at hx3
    have c0 : W3.cell? ⟨w.heap.size, 0, none⟩ = some (.slice none 0 0) := Lib.cell_of_heap hx3 0
    have c1 : W3.cell? ⟨w.heap.size, 1, none⟩ = some (.int .i64 0) := Lib.cell_of_heap hx3 1
    have c2 : W3.cell? ⟨w.heap.size, 2, none⟩ = some (.int .i64 0) := Lib.cell_of_heap hx3 2
    have c3 : W3.cell? ⟨w.heap.size, 3, none⟩ = some (.slice none 0 0) := Lib.cell_of_heap hx3 3
    have c4 : W3.cell? ⟨w.heap.size, 4, none⟩ = some (.slice none 0 0) := Lib.cell_of_heap hx3 4
    have c5 : W3.cell? ⟨w.heap.size, 5, none⟩ = some (.slice none 0 0) := Lib.cell_of_heap hx3 5
    have f0 : W3.frozen? ⟨w.heap.size, 0, none⟩ = false := Lib.frozen_of_heap hx3 _
    have f1 : W3.frozen? ⟨w.heap.size, 1, none⟩ = false := Lib.frozen_of_heap hx3 _
    have f2 : W3.frozen? ⟨w.heap.size, 2, none⟩ = false := Lib.frozen_of_heap hx3 _
    have f3 : W3.frozen? ⟨w.heap.size, 3, none⟩ = false := Lib.frozen_of_heap hx3 _
    have f4 : W3.frozen? ⟨w.heap.size, 4, none⟩ = false := Lib.frozen_of_heap hx3 _
    have f5 : W3.frozen? ⟨w.heap.size, 5, none⟩ = false := Lib.frozen_of_heap hx3 _
    obtain ⟨W4, hW4⟩ : ∃ W4, W4 = set6 W3 w.heap.size (.slice none 0 0) (.int .i64 0) (.int .i64 0) (.slice none 0 0) (.slice none 0 0) (.slice none 0 0) := ⟨_, rfl⟩
    have D := set6_at hx3 (.slice none 0 0) (.int .i64 0) (.int .i64 0) (.slice none 0 0) (.slice none 0 0) (.slice none 0 0)
    rw [← hW4] at D
    have d0 : W4.cell? ⟨w.heap.size, 0, none⟩ = some (.slice none 0 0) := Lib.cell_of_heap D 0
    have d1 : W4.cell? ⟨w.heap.size, 1, none⟩ = some (.int .i64 0) := Lib.cell_of_heap D 1
    have d2 : W4.cell? ⟨w.heap.size, 2, none⟩ = some (.int .i64 0) := Lib.cell_of_heap D 2
    have d3 : W4.cell? ⟨w.heap.size, 3, none⟩ = some (.slice none 0 0) := Lib.cell_of_heap D 3
    have d4 : W4.cell? ⟨w.heap.size, 4, none⟩ = some (.slice none 0 0) := Lib.cell_of_heap D 4
    have d5 : W4.cell? ⟨w.heap.size, 5, none⟩ = some (.slice none 0 0) := Lib.cell_of_heap D 5
    have HB4 : Hid (Below w.heap.size w W4) := Lib.hid (by rw [hW4]; exact set6_below HB3.out (Nat.le_refl _) _ _ _ _ _ _)
    unfold set6 at hW4
    clear hx3 hb3 D
    have HW4 := Lib.hid hW4
    clear hW4
    go_wp2
    rw [← HW4.out]
    refine bodyPost_ret (v := .tuple #[.agg zeroP, .int .i64 mc]) (by simp [results, Tryz.results43, go_sem, zeroP, d0, d1, d2, d3, d4, d5]) rfl ?_
    exact ⟨HB4.out, .inl ⟨mc, HMC.out, .inl (by rw [HMO.out]; exact HMC.out), HL.out, rfl⟩⟩
theorem found_no (h : (mainOut objs).2.2 ≠ 0 ∨ LM.ok (szL objs) = false) (hc : Calls Tryz.prog 43 #[v] w (Found objs v w)) :
    ∃ code : Int, code ≠ 0 ∧ (linkOut objs = ([], code)) ∧ Calls Tryz.prog 43 #[v] w fun e w' => e = .returned (.tuple #[.agg zeroP, .int .i64 code]) ∧ Below w.heap.size w w' := by
  refine ⟨(linkOut objs).2, ?_, ?_, hc.mono ?_⟩
  · unfold linkOut
    split
    · assumption
    · rename_i h0
      rcases h with h | h
      · exact absurd h h0
      · rw [if_pos h]; decide
  · unfold linkOut
    split
    · rfl
    · rename_i h0
      rcases h with h | h
      · exact absurd h h0
      · rw [if_pos h]
  · rintro e w' ⟨hb, ⟨code, -, -, h2, rfl⟩ | ⟨mi, mk, tv, pv, g, h1, h2, -⟩⟩
    · rw [h2]; exact ⟨rfl, hb⟩
    · rcases h with h | h
      · rw [h1] at h; exact absurd rfl h
      · rw [h2] at h; cases h
theorem found_yes {mi mk : Int} (hm : mainOut objs = (mi, mk, 0)) (hok : LM.ok (szL objs) = true) (hc : Calls Tryz.prog 43 #[v] w (Found objs v w)) :
    Calls Tryz.prog 43 #[v] w fun e w' => ∃ (tv pv : Value) (g : Nat), e = .returned (.tuple #[.agg #[v, .int .i64 mi, .int .i64 mk, tv, pv, .slice (some ⟨g, 0, none⟩) (dend (szL objs)) (dend (szL objs))], .int .i64 0]) ∧ w.heap.size < g ∧ w'.heap[g]? = some (.cells (img (zeros (dend (szL objs)))).toArray TU (0, 0)) ∧
      PlAt g w' pv (szL objs) ∧ TgtsB g w' tv (tgL objs) ∧ TgtsLo (w.heap.size + 1) w' tv ∧ Below w.heap.size w w' := by
  refine hc.mono ?_
  rintro e w' ⟨hb, ⟨code, -, h, -⟩ | ⟨mi', mk', tv, pv, g, h1, h2, h3, h4, h5, h6, h7, h8⟩⟩
  · rcases h with h | h
    · rw [hm] at h; exact absurd rfl h
    · rw [hok] at h; cases h
  · rw [hm] at h1
    cases h1
    exact ⟨tv, pv, g, h3, h4, h5, h6, h7, h8, hb⟩
end
end KF
end Go.Proofs.YtlmblfkcmhgdaaaGreat
namespace Go.Proofs.YtlmblfkcmhgdaaaGreat
open Go.RowKit
set_option linter.unusedVariables false
set_option linter.unusedSimpArgs false
namespace KK
open OO OJ RsM LM LL LP KB KC KM KE KL KN KD KF KR RsY RsB RsV RsD
abbrev EB (c : Int) : Obj := .cells #[.int .i64 c] T34
def set7 (W : World) (b e : Nat) (u0 u1 u2 u3 u4 u5 x : Value) : World := (set6 W b u0 u1 u2 u3 u4 u5).setCell ⟨e, 0, none⟩ x
theorem set7_p {W : World} {b e : Nat} {v0 v1 v2 v3 v4 v5 : Value} {T : TypeId} (hne : b ≠ e) (h : W.heap[b]? = some (.cells #[v0, v1, v2, v3, v4, v5] T (0, 0))) (u0 u1 u2 u3 u4 u5 x : Value) : (set7 W b e u0 u1 u2 u3 u4 u5 x).heap[b]? = some (.cells #[u0, u1, u2, u3, u4, u5] T (0, 0)) := by
  unfold set7
  rw [oth_set _ _ _ _ _ hne]
  exact set6_at h u0 u1 u2 u3 u4 u5
theorem set7_e {W : World} {b e : Nat} {y : Value} {T : TypeId} (hne : b ≠ e) (h : W.heap[e]? = some (.cells #[y] T (0, 0))) (u0 u1 u2 u3 u4 u5 x : Value) : (set7 W b e u0 u1 u2 u3 u4 u5 x).heap[e]? = some (.cells #[x] T (0, 0)) := by
  have h1 : (set6 W b u0 u1 u2 u3 u4 u5).heap[e]? = some (.cells #[y] T (0, 0)) := by rw [set6_oth _ _ _ _ _ _ _ _ _ (Ne.symm hne)]; exact h
  have := heap_setCell_same _ e 0 _ _ x h1
  unfold set7
  simpa using this
theorem set7_below {B : Nat} {w W : World} (h : Below B w W) {b e : Nat} (hb : B ≤ b) (he : B ≤ e) (u0 u1 u2 u3 u4 u5 x : Value) : Below B w (set7 W b e u0 u1 u2 u3 u4 u5 x) :=
  (set6_below h hb u0 u1 u2 u3 u4 u5).setCell (p := ⟨e, 0, none⟩) he x
theorem set7_oth (W : World) (b e : Nat) (u0 u1 u2 u3 u4 u5 x : Value) (k : Nat) (h1 : k ≠ b) (h2 : k ≠ e) : (set7 W b e u0 u1 u2 u3 u4 u5 x).heap[k]? = W.heap[k]? := by
  unfold set7
  rw [oth_set _ _ _ _ _ h2]
  exact set6_oth _ _ _ _ _ _ _ _ _ h1
/-- what linked answers -/
def Linked (objs : List ObjV) (v : Value) (w : World) (e : Ending) (w' : World) : Prop := Below w.heap.size w w' ∧
  (((linkOut objs).2 ≠ 0 ∧ (linkOut objs).1 = [] ∧ e = .returned (.tuple #[.agg zeroP, .int .i64 (linkOut objs).2])) ∨
   ((linkOut objs).2 = 0 ∧ LM.ok (szL objs) = true ∧ (linkOut objs).1.length = dend (szL objs) ∧ OJ.Bytes (linkOut objs).1 ∧ ∃ (mi mk : Int) (pt : Option Addr) (nt ct : Nat) (pp : Option Addr) (cp g : Nat), mainOut objs = (mi, mk, 0) ∧
     e = .returned (.tuple #[.agg #[v, .int .i64 mi, .int .i64 mk, .slice pt nt ct, .slice pp (szL objs).length cp, .slice (some ⟨g, 0, none⟩) (dend (szL objs)) (dend (szL objs))], .int .i64 0]) ∧ w.heap.size < g ∧ w'.heap[g]? = some (.cells (img (linkOut objs).1).toArray TU (0, 0)) ∧ PlAt g w' (.slice pp (szL objs).length cp) (szL objs)))
theorem links_len (objs : List ObjV) (hw : ∀ o ∈ objs, o.Wf) : (linkS objs).1.length = dend (szL objs) ∧ OJ.Bytes (linkS objs).1 := by
  have key : ∀ (i k : Nat) (s : St), (s.1.length = dend (szL objs) ∧ OJ.Bytes s.1) → ((relTo objs i s k).1.length = dend (szL objs) ∧ OJ.Bytes (relTo objs i s k).1) := by
    intro i k s hs
    induction k with
    | zero => exact hs
    | succ k ih =>
      rw [relTo]
      split
      · exact ⟨(stp_length _ _ _ _).trans ih.1, stp_bytes ih.2 _ _ _⟩
      · exact ih
  have key2 : ∀ (i : Nat) (s : St), (s.1.length = dend (szL objs) ∧ OJ.Bytes s.1) → ((allTo objs s i).1.length = dend (szL objs) ∧ OJ.Bytes (allTo objs s i).1) := by
    intro i s hs
    induction i with
    | zero => exact hs
    | succ i ih => exact key _ _ _ ih
  have h0 : (start0 objs).1.length = dend (szL objs) ∧ OJ.Bytes (start0 objs).1 := ⟨(stp_length _ _ _ _).trans (laid_len objs), stp_bytes (laid_bytes hw) _ _ _⟩
  unfold linkS
  split
  · exact key2 _ _ h0
  · exact h0
theorem no0 (o n : Nat) (h : 12 ≤ n) : (#[Value.int .i64 0] : Array Value)[o]? ≠ some (.int .i64 (n : Int)) := by
  intro e
  match o, e with
  | 0, e => simp at e; omega
  | o + 1, e => simp at e
section
variable {w : World} {n₀ : Nat} {v : Value} {objs : List ObjV}
set_option maxRecDepth 100000 in
set_option maxHeartbeats 8000000 in
theorem linked_ (hn : n₀ ≤ w.heap.size) (ho : ObjsAt n₀ w v objs) (hw : ∀ o ∈ objs, o.Wf) (hm : objs.length ≤ 65536) (hms : ∀ o ∈ objs, o.ss.length ≤ maxLen) (hmr : ∀ o ∈ objs, o.rs.length ≤ 100000) (hN : (flat objs).length ≤ 100000) (hz : ∀ x ∈ szL objs, x.1 ≤ 4294967296 ∧ x.2 ≤ 4294967296) :
    Calls Tryz.prog 24 #[v] w (Linked objs v w) := by
  have hmf : ∀ (fn : Fn) (first cap : Array Value) (w : World), (Instr.makeFunc fn first cap).run Tryz.prog w = .ok (.func fn first cap) w := fun _ _ _ _ => rfl
  have hb2 : Below w.heap.size w ((w.alloc ZB).alloc (EB 0)) := ((Below.refl _ _).alloc (Nat.le_refl _) _).alloc (by simp) _
  have cf := found_ (w := (w.alloc ZB).alloc (EB 0)) (n₀ := n₀) (Nat.le_trans hn hb2.size) (ObjsAt.same ho (Same.of hb2 hn)) hw hm hms hN hz
  have hxp : ((w.alloc ZB).alloc (EB 0)).heap[w.heap.size]? = some ZB := (Lib.alloc_old _ _ _ (by simp)).trans (heap_alloc_new w _)
  have hxe : ((w.alloc ZB).alloc (EB 0)).heap[w.heap.size + 1]? = some (EB 0) := by
    have := heap_alloc_new (w.alloc ZB) (EB 0)
    rwa [World.size_alloc] at this
  have hsz : ((w.alloc ZB).alloc (EB 0)).heap.size = w.heap.size + 2 := by simp
  have HB2 := Lib.hid hb2
  have HXP := Lib.hid hxp
  have HXE := Lib.hid hxe
  have HSZ := Lib.hid hsz
  have HO := Lib.hid ho
  have HW := Lib.hid hw
  have HMR := Lib.hid hmr
  have HNN := Lib.hid hn
  obtain ⟨pv0, cv0, rfl, -⟩ := ho
  clear hb2 hxp hxe hsz hw hmr hms hN hz
  by_cases hpre : (mainOut objs).2.2 ≠ 0 ∨ LM.ok (szL objs) = false
  · obtain ⟨code, hcd, hl, cn⟩ := found_no hpre cf
    have HCD := Lib.hid hcd
    have HL := Lib.hid hl
    clear cf hpre hl
    simp only [ZB, zeroP, EB] at cn
    have hq : (code == 0) = false := by simpa using hcd
    clear hcd
    go_enter_defers Tryz.func24, Tryz.ntmps24
    go_upto_region 3 with (go_at_call 43; (with_reducible refine cn.mono ?_); rintro e w3 ⟨rfl, hb3⟩; have HB3 := Lib.hid hb3; have hx3 : w3.heap[w.heap.size]? = some (.cells #[.slice none 0 0, .int .i64 0, .int .i64 0, .slice none 0 0, .slice none 0 0, .slice none 0 0] T80) := (hb3.block _ (by simp only [World.size_alloc]; omega)).trans HXP.out; have hy3 : w3.heap[w.heap.size + 1]? = some (.cells #[.int .i64 0] T34) := (hb3.block _ (by simp only [World.size_alloc]; omega)).trans HXE.out; have c0 : w3.cell? ⟨w.heap.size, 0, none⟩ = some (.slice none 0 0) := Lib.cell_of_heap hx3 0; have c1 : w3.cell? ⟨w.heap.size, 1, none⟩ = some (.int .i64 0) := Lib.cell_of_heap hx3 1; have c2 : w3.cell? ⟨w.heap.size, 2, none⟩ = some (.int .i64 0) := Lib.cell_of_heap hx3 2; have c3 : w3.cell? ⟨w.heap.size, 3, none⟩ = some (.slice none 0 0) := Lib.cell_of_heap hx3 3; have c4 : w3.cell? ⟨w.heap.size, 4, none⟩ = some (.slice none 0 0) := Lib.cell_of_heap hx3 4; have c5 : w3.cell? ⟨w.heap.size, 5, none⟩ = some (.slice none 0 0) := Lib.cell_of_heap hx3 5; have c6 : w3.cell? ⟨w.heap.size + 1, 0, none⟩ = some (.int .i64 0) := Lib.cell_of_heap hy3 0; have f0 : w3.frozen? ⟨w.heap.size, 0, none⟩ = false := Lib.frozen_of_heap hx3 _; have f1 : w3.frozen? ⟨w.heap.size, 1, none⟩ = false := Lib.frozen_of_heap hx3 _; have f2 : w3.frozen? ⟨w.heap.size, 2, none⟩ = false := Lib.frozen_of_heap hx3 _; have f3 : w3.frozen? ⟨w.heap.size, 3, none⟩ = false := Lib.frozen_of_heap hx3 _; have f4 : w3.frozen? ⟨w.heap.size, 4, none⟩ = false := Lib.frozen_of_heap hx3 _; have f5 : w3.frozen? ⟨w.heap.size, 5, none⟩ = false := Lib.frozen_of_heap hx3 _; have f6 : w3.frozen? ⟨w.heap.size + 1, 0, none⟩ = false := Lib.frozen_of_heap hy3 _; have HX3 := Lib.hid hx3; have HY3 := Lib.hid hy3; clear hb3 hx3 hy3 cn)
    obtain ⟨W4, hW4⟩ : ∃ W4, W4 = set7 w3 w.heap.size (w.heap.size + 1) (.slice none 0 0) (.int .i64 0) (.int .i64 0) (.slice none 0 0) (.slice none 0 0) (.slice none 0 0) (.int .i64 code) := ⟨_, rfl⟩
    have hxW4 : W4.heap[w.heap.size]? = some (.cells #[.slice none 0 0, .int .i64 0, .int .i64 0, .slice none 0 0, .slice none 0 0, .slice none 0 0] T80) := by rw [hW4]; exact set7_p (by omega) HX3.out (.slice none 0 0) (.int .i64 0) (.int .i64 0) (.slice none 0 0) (.slice none 0 0) (.slice none 0 0) (.int .i64 code)
    have hyW4 : W4.heap[w.heap.size + 1]? = some (.cells #[.int .i64 code] T34) := by rw [hW4]; exact set7_e (by omega) HY3.out (.slice none 0 0) (.int .i64 0) (.int .i64 0) (.slice none 0 0) (.slice none 0 0) (.slice none 0 0) (.int .i64 code)
    have hbW4 : Below w.heap.size w W4 := by rw [hW4]; exact set7_below (HB2.out.trans (HB3.out.mono (by simp only [World.size_alloc]; omega))) (Nat.le_refl _) (Nat.le_succ _) (.slice none 0 0) (.int .i64 0) (.int .i64 0) (.slice none 0 0) (.slice none 0 0) (.slice none 0 0) (.int .i64 code)
    have hoW4 : ∀ k, k ≠ w.heap.size → k ≠ w.heap.size + 1 → W4.heap[k]? = w3.heap[k]? := fun k h1 h2 => by rw [hW4]; exact set7_oth w3 _ _ (.slice none 0 0) (.int .i64 0) (.int .i64 0) (.slice none 0 0) (.slice none 0 0) (.slice none 0 0) (.int .i64 code) k h1 h2
    unfold set7 set6 at hW4
    rw [← hW4]
    have HB4 := Lib.hid hbW4
    have HX4 := Lib.hid hxW4
    have HY4 := Lib.hid hyW4
    have gc0 : W4.cell? ⟨w.heap.size, 0, none⟩ = some (.slice none 0 0) := Lib.cell_of_heap hxW4 0
    have gc1 : W4.cell? ⟨w.heap.size, 1, none⟩ = some (.int .i64 0) := Lib.cell_of_heap hxW4 1
    have gc2 : W4.cell? ⟨w.heap.size, 2, none⟩ = some (.int .i64 0) := Lib.cell_of_heap hxW4 2
    have gc3 : W4.cell? ⟨w.heap.size, 3, none⟩ = some (.slice none 0 0) := Lib.cell_of_heap hxW4 3
    have gc4 : W4.cell? ⟨w.heap.size, 4, none⟩ = some (.slice none 0 0) := Lib.cell_of_heap hxW4 4
    have gc5 : W4.cell? ⟨w.heap.size, 5, none⟩ = some (.slice none 0 0) := Lib.cell_of_heap hxW4 5
    have gc6 : W4.cell? ⟨w.heap.size + 1, 0, none⟩ = some (.int .i64 code) := Lib.cell_of_heap hyW4 0
    have gf0 : W4.frozen? ⟨w.heap.size, 0, none⟩ = false := Lib.frozen_of_heap hxW4 _
    have gf1 : W4.frozen? ⟨w.heap.size, 1, none⟩ = false := Lib.frozen_of_heap hxW4 _
    have gf2 : W4.frozen? ⟨w.heap.size, 2, none⟩ = false := Lib.frozen_of_heap hxW4 _
    have gf3 : W4.frozen? ⟨w.heap.size, 3, none⟩ = false := Lib.frozen_of_heap hxW4 _
    have gf4 : W4.frozen? ⟨w.heap.size, 4, none⟩ = false := Lib.frozen_of_heap hxW4 _
    have gf5 : W4.frozen? ⟨w.heap.size, 5, none⟩ = false := Lib.frozen_of_heap hxW4 _
    have gf6 : W4.frozen? ⟨w.heap.size + 1, 0, none⟩ = false := Lib.frozen_of_heap hyW4 _
    obtain ⟨W5, hW5⟩ : ∃ W5, W5 = set7 W4 w.heap.size (w.heap.size + 1) (.slice none 0 0) (.int .i64 0) (.int .i64 0) (.slice none 0 0) (.slice none 0 0) (.slice none 0 0) (.int .i64 code) := ⟨_, rfl⟩
    have hxW5 : W5.heap[w.heap.size]? = some (.cells #[.slice none 0 0, .int .i64 0, .int .i64 0, .slice none 0 0, .slice none 0 0, .slice none 0 0] T80) := by rw [hW5]; exact set7_p (by omega) HX4.out (.slice none 0 0) (.int .i64 0) (.int .i64 0) (.slice none 0 0) (.slice none 0 0) (.slice none 0 0) (.int .i64 code)
    have hyW5 : W5.heap[w.heap.size + 1]? = some (.cells #[.int .i64 code] T34) := by rw [hW5]; exact set7_e (by omega) HY4.out (.slice none 0 0) (.int .i64 0) (.int .i64 0) (.slice none 0 0) (.slice none 0 0) (.slice none 0 0) (.int .i64 code)
    have hbW5 : Below w.heap.size w W5 := by rw [hW5]; exact set7_below HB4.out (Nat.le_refl _) (Nat.le_succ _) (.slice none 0 0) (.int .i64 0) (.int .i64 0) (.slice none 0 0) (.slice none 0 0) (.slice none 0 0) (.int .i64 code)
    have hoW5 : ∀ k, k ≠ w.heap.size → k ≠ w.heap.size + 1 → W5.heap[k]? = W4.heap[k]? := fun k h1 h2 => by rw [hW5]; exact set7_oth W4 _ _ (.slice none 0 0) (.int .i64 0) (.int .i64 0) (.slice none 0 0) (.slice none 0 0) (.slice none 0 0) (.int .i64 code) k h1 h2
    unfold set7 set6 at hW5
    have HW5 := Lib.hid hW5
    have HB5 := Lib.hid hbW5
    have d0 : W5.cell? ⟨w.heap.size, 0, none⟩ = some (.slice none 0 0) := Lib.cell_of_heap hxW5 0
    have d1 : W5.cell? ⟨w.heap.size, 1, none⟩ = some (.int .i64 0) := Lib.cell_of_heap hxW5 1
    have d2 : W5.cell? ⟨w.heap.size, 2, none⟩ = some (.int .i64 0) := Lib.cell_of_heap hxW5 2
    have d3 : W5.cell? ⟨w.heap.size, 3, none⟩ = some (.slice none 0 0) := Lib.cell_of_heap hxW5 3
    have d4 : W5.cell? ⟨w.heap.size, 4, none⟩ = some (.slice none 0 0) := Lib.cell_of_heap hxW5 4
    have d5 : W5.cell? ⟨w.heap.size, 5, none⟩ = some (.slice none 0 0) := Lib.cell_of_heap hxW5 5
    have d6 : W5.cell? ⟨w.heap.size + 1, 0, none⟩ = some (.int .i64 code) := Lib.cell_of_heap hyW5 0
    clear hW4 hxW4 hyW4 hbW4 hoW4 hW5 hxW5 hyW5 hbW5 hoW5
    clear c0 c1 c2 c3 c4 c5 c6 f0 f1 f2 f3 f4 f5 f6
    go_upto_region 6 with fail
    go_region
    rw [← HW5.out]
    go_wp2
    refine leaves_cons (f := 42) (args := #[.pointer (some ⟨w.heap.size, 0, none⟩), .pointer (some ⟨w.heap.size + 1, 0, none⟩)]) (by simp) (by simp [go_sem]) ?_
    refine (catch_idle w.heap.size (w.heap.size + 1) _).mono ?_
    rintro e u' w'' ⟨rfl, rfl, rfl⟩
    simp [Leaves, settle, results, Tryz.results24, go_sem, d0, d1, d2, d3, d4, d5, d6]
    exact ⟨HB5.out.drew, .inl ⟨by rw [HL.out]; exact HCD.out, by rw [HL.out], by rw [HL.out]; rfl⟩⟩
  · have hmz : (mainOut objs).2.2 = 0 := Decidable.byContradiction fun h => hpre (.inl h)
    have hok : LM.ok (szL objs) = true := by
      cases h : LM.ok (szL objs) with
      | true => rfl
      | false => exact absurd (.inr h) hpre
    obtain ⟨mi, mk, mc, hmo⟩ : ∃ mi mk mc, mainOut objs = (mi, mk, mc) := ⟨_, _, _, rfl⟩
    obtain rfl : mc = 0 := by rw [hmo] at hmz; exact hmz
    have cy := found_yes hmo hok cf
    have hlen := links_len objs HW.out
    have hLO : linkOut objs = if (linkS objs).2 = 0 then linkS objs else ([], (linkS objs).2) := by unfold linkOut; rw [hmo]; simp only; rw [if_neg (by decide), if_neg (by rw [hok]; decide)]
    have HLO := Lib.hid hLO
    have HLEN := Lib.hid hlen
    have HMO := Lib.hid hmo
    have HOK := Lib.hid hok
    have hdl := ok_lim hok
    clear cf hpre hmz hmo hok hLO hlen
    simp only [ZB, EB, zeroP] at cy
    generalize hnd : dend (szL objs) = nd at *
    have HND := Lib.hid hnd
    clear hnd
    go_enter_defers Tryz.func24, Tryz.ntmps24
    go_upto_region 3 with (go_at_call 43; (with_reducible refine cy.mono ?_); rintro e w3 ⟨tv, pv, g, rfl, hg3, hi3, hp3, ht3, hl3, hb3⟩; obtain ⟨pt, ct, rfl, ht3'⟩ := ht3; obtain ⟨pp, cp, rfl, hp3'⟩ := hp3; have HP3 := Lib.hid hp3'; have HT3 := Lib.hid ht3'; have HL3 := Lib.hid hl3; have HI3 := Lib.hid hi3; simp only [World.size_alloc] at hg3; have HB3 := Lib.hid hb3; have hx3 : w3.heap[w.heap.size]? = some (.cells #[.slice none 0 0, .int .i64 0, .int .i64 0, .slice none 0 0, .slice none 0 0, .slice none 0 0] T80) := (hb3.block _ (by simp only [World.size_alloc]; omega)).trans HXP.out; have hy3 : w3.heap[w.heap.size + 1]? = some (.cells #[.int .i64 0] T34) := (hb3.block _ (by simp only [World.size_alloc]; omega)).trans HXE.out; have c0 : w3.cell? ⟨w.heap.size, 0, none⟩ = some (.slice none 0 0) := Lib.cell_of_heap hx3 0; have c1 : w3.cell? ⟨w.heap.size, 1, none⟩ = some (.int .i64 0) := Lib.cell_of_heap hx3 1; have c2 : w3.cell? ⟨w.heap.size, 2, none⟩ = some (.int .i64 0) := Lib.cell_of_heap hx3 2; have c3 : w3.cell? ⟨w.heap.size, 3, none⟩ = some (.slice none 0 0) := Lib.cell_of_heap hx3 3; have c4 : w3.cell? ⟨w.heap.size, 4, none⟩ = some (.slice none 0 0) := Lib.cell_of_heap hx3 4; have c5 : w3.cell? ⟨w.heap.size, 5, none⟩ = some (.slice none 0 0) := Lib.cell_of_heap hx3 5; have c6 : w3.cell? ⟨w.heap.size + 1, 0, none⟩ = some (.int .i64 0) := Lib.cell_of_heap hy3 0; have f0 : w3.frozen? ⟨w.heap.size, 0, none⟩ = false := Lib.frozen_of_heap hx3 _; have f1 : w3.frozen? ⟨w.heap.size, 1, none⟩ = false := Lib.frozen_of_heap hx3 _; have f2 : w3.frozen? ⟨w.heap.size, 2, none⟩ = false := Lib.frozen_of_heap hx3 _; have f3 : w3.frozen? ⟨w.heap.size, 3, none⟩ = false := Lib.frozen_of_heap hx3 _; have f4 : w3.frozen? ⟨w.heap.size, 4, none⟩ = false := Lib.frozen_of_heap hx3 _; have f5 : w3.frozen? ⟨w.heap.size, 5, none⟩ = false := Lib.frozen_of_heap hx3 _; have f6 : w3.frozen? ⟨w.heap.size + 1, 0, none⟩ = false := Lib.frozen_of_heap hy3 _; have HX3 := Lib.hid hx3; have HY3 := Lib.hid hy3; clear hb3 hx3 hy3 cy hi3 hp3' ht3' hl3)
    obtain ⟨W4, hW4⟩ : ∃ W4, W4 = set7 w3 w.heap.size (w.heap.size + 1) (.slice pv0 objs.length cv0) (.int .i64 mi) (.int .i64 mk) (.slice pt (tgL objs).length ct) (.slice pp (szL objs).length cp) (.slice (some ⟨g, 0, none⟩) nd nd) (.int .i64 0) := ⟨_, rfl⟩
    have hxW4 : W4.heap[w.heap.size]? = some (.cells #[.slice pv0 objs.length cv0, .int .i64 mi, .int .i64 mk, .slice pt (tgL objs).length ct, .slice pp (szL objs).length cp, .slice (some ⟨g, 0, none⟩) nd nd] T80) := by rw [hW4]; exact set7_p (by omega) HX3.out (.slice pv0 objs.length cv0) (.int .i64 mi) (.int .i64 mk) (.slice pt (tgL objs).length ct) (.slice pp (szL objs).length cp) (.slice (some ⟨g, 0, none⟩) nd nd) (.int .i64 0)
    have hyW4 : W4.heap[w.heap.size + 1]? = some (.cells #[.int .i64 0] T34) := by rw [hW4]; exact set7_e (by omega) HY3.out (.slice pv0 objs.length cv0) (.int .i64 mi) (.int .i64 mk) (.slice pt (tgL objs).length ct) (.slice pp (szL objs).length cp) (.slice (some ⟨g, 0, none⟩) nd nd) (.int .i64 0)
    have hbW4 : Below w.heap.size w W4 := by rw [hW4]; exact set7_below (HB2.out.trans (HB3.out.mono (by simp only [World.size_alloc]; omega))) (Nat.le_refl _) (Nat.le_succ _) (.slice pv0 objs.length cv0) (.int .i64 mi) (.int .i64 mk) (.slice pt (tgL objs).length ct) (.slice pp (szL objs).length cp) (.slice (some ⟨g, 0, none⟩) nd nd) (.int .i64 0)
    have hoW4 : ∀ k, k ≠ w.heap.size → k ≠ w.heap.size + 1 → W4.heap[k]? = w3.heap[k]? := fun k h1 h2 => by rw [hW4]; exact set7_oth w3 _ _ (.slice pv0 objs.length cv0) (.int .i64 mi) (.int .i64 mk) (.slice pt (tgL objs).length ct) (.slice pp (szL objs).length cp) (.slice (some ⟨g, 0, none⟩) nd nd) (.int .i64 0) k h1 h2
    unfold set7 set6 at hW4
    rw [← hW4]
    have HB4 := Lib.hid hbW4
    have HX4 := Lib.hid hxW4
    have HY4 := Lib.hid hyW4
    have hgi : W4.heap[g]? = some (.cells (img (zeros nd)).toArray TU (0, 0)) := (hoW4 g (by omega) (by omega)).trans HI3.out
    have hE : Env w.heap.size g nd objs (.slice pv0 objs.length cv0) (.slice pt (tgL objs).length ct) (.slice pp (szL objs).length cp) mi mk W4 := by
      obtain ⟨t1, -⟩ := tgts_move (w' := W4) (show TgtsB g w3 (.slice pt (tgL objs).length ct) (tgL objs) from ⟨pt, ct, rfl, HT3.out⟩) HL3.out (fun b q1 q2 => hoW4 b (by simp only [World.size_alloc] at q1; omega) (by simp only [World.size_alloc] at q1; omega))
      have p1 := pl_move (w' := W4) (fun b => b = w.heap.size ∨ b = w.heap.size + 1) (show PlAt g w3 (.slice pp (szL objs).length cp) (szL objs) from ⟨pp, cp, rfl, HP3.out⟩) (fun b hb => by
        rcases hb with hb | hb
        · exact ⟨zeroP, T80, by rw [hb]; exact HX3.out, no12⟩
        · exact ⟨#[.int .i64 0], T34, by rw [hb]; exact HY3.out, no0⟩) (fun b q1 q2 => hoW4 b (fun e => q1 (.inl e)) (fun e => q1 (.inr e)))
      exact ⟨Lib.cell_of_heap hxW4 0, Lib.cell_of_heap hxW4 1, Lib.cell_of_heap hxW4 2, Lib.cell_of_heap hxW4 3, Lib.cell_of_heap hxW4 4, Lib.cell_of_heap hxW4 5, by omega, lt_heap hgi, (ObjsAt.same HO.out (Same.of hbW4 HNN.out)).up (by have := HNN.out; omega), p1, t1⟩
    have HE := Lib.hid hE
    have cl := lay_ hE HND.out.symm hdl HW.out (by omega) hgi
    have cr := fun (w5 : World) (h : Below g W4 w5) (hi : w5.heap[g]? = some (.cells (img (laid objs)).toArray TU (0, 0))) => relocate_ (HE.out.below h) HND.out.symm hdl HW.out (by omega) HMR.out HMO.out hi
    have gc0 : W4.cell? ⟨w.heap.size, 0, none⟩ = some (.slice pv0 objs.length cv0) := Lib.cell_of_heap hxW4 0
    have gc1 : W4.cell? ⟨w.heap.size, 1, none⟩ = some (.int .i64 mi) := Lib.cell_of_heap hxW4 1
    have gc2 : W4.cell? ⟨w.heap.size, 2, none⟩ = some (.int .i64 mk) := Lib.cell_of_heap hxW4 2
    have gc3 : W4.cell? ⟨w.heap.size, 3, none⟩ = some (.slice pt (tgL objs).length ct) := Lib.cell_of_heap hxW4 3
    have gc4 : W4.cell? ⟨w.heap.size, 4, none⟩ = some (.slice pp (szL objs).length cp) := Lib.cell_of_heap hxW4 4
    have gc5 : W4.cell? ⟨w.heap.size, 5, none⟩ = some (.slice (some ⟨g, 0, none⟩) nd nd) := Lib.cell_of_heap hxW4 5
    have gc6 : W4.cell? ⟨w.heap.size + 1, 0, none⟩ = some (.int .i64 0) := Lib.cell_of_heap hyW4 0
    have gf0 : W4.frozen? ⟨w.heap.size, 0, none⟩ = false := Lib.frozen_of_heap hxW4 _
    have gf1 : W4.frozen? ⟨w.heap.size, 1, none⟩ = false := Lib.frozen_of_heap hxW4 _
    have gf2 : W4.frozen? ⟨w.heap.size, 2, none⟩ = false := Lib.frozen_of_heap hxW4 _
    have gf3 : W4.frozen? ⟨w.heap.size, 3, none⟩ = false := Lib.frozen_of_heap hxW4 _
    have gf4 : W4.frozen? ⟨w.heap.size, 4, none⟩ = false := Lib.frozen_of_heap hxW4 _
    have gf5 : W4.frozen? ⟨w.heap.size, 5, none⟩ = false := Lib.frozen_of_heap hxW4 _
    have gf6 : W4.frozen? ⟨w.heap.size + 1, 0, none⟩ = false := Lib.frozen_of_heap hyW4 _
    clear hW4 hxW4 hyW4 hbW4 hoW4 hE hgi
    clear c0 c1 c2 c3 c4 c5 c6 f0 f1 f2 f3 f4 f5 f6
    by_cases hls : (linkS objs).2 = 0
    · have HLS := Lib.hid hls
      have cry : ∀ (w5 : World) (h : Below g W4 w5) (hi : w5.heap[g]? = some (.cells (img (laid objs)).toArray TU (0, 0))), Calls Tryz.prog 45 #[.pointer (some ⟨w.heap.size, 0, none⟩)] w5 fun e w' => e = .returned (.tuple #[]) ∧ w'.heap[g]? = some (.cells (img (linkS objs).1).toArray TU (0, 0)) ∧ Below g w5 w' := fun w5 h hi => (cr w5 h hi).mono fun e w' hr => by
        obtain ⟨hb, hr⟩ := hr
        rcases hr with ⟨-, h1, h2⟩ | ⟨h0, -⟩
        · exact ⟨h1, h2, hb⟩
        · exact absurd HLS.out h0
      clear cr hls
      go_upto_region 6 with (first
        | (go_at_call 44; (with_reducible refine cl.mono ?_); rintro e w5 ⟨rfl, hi5, hb5⟩; have cr1 := cry w5 hb5 hi5; have HB5 := Lib.hid hb5; clear cl cry hi5 hb5)
        | (go_at_call 45; (with_reducible refine cr1.mono ?_); rintro e w6 ⟨rfl, hi6, hb6⟩; have HI6 := Lib.hid hi6; have HB6 := Lib.hid (HB5.out.trans hb6); clear cr1 hi6 hb6))
      have hx6 := (HB6.out.block w.heap.size (by omega)).trans HX4.out
      have hy6 := (HB6.out.block (w.heap.size + 1) (by omega)).trans HY4.out
      have HX6 := Lib.hid hx6
      have HY6 := Lib.hid hy6
      have hbw6 : Below w.heap.size w w6 := HB4.out.trans (HB6.out.mono (by omega))
      have qc0 : w6.cell? ⟨w.heap.size, 0, none⟩ = some (.slice pv0 objs.length cv0) := Lib.cell_of_heap hx6 0
      have qc1 : w6.cell? ⟨w.heap.size, 1, none⟩ = some (.int .i64 mi) := Lib.cell_of_heap hx6 1
      have qc2 : w6.cell? ⟨w.heap.size, 2, none⟩ = some (.int .i64 mk) := Lib.cell_of_heap hx6 2
      have qc3 : w6.cell? ⟨w.heap.size, 3, none⟩ = some (.slice pt (tgL objs).length ct) := Lib.cell_of_heap hx6 3
      have qc4 : w6.cell? ⟨w.heap.size, 4, none⟩ = some (.slice pp (szL objs).length cp) := Lib.cell_of_heap hx6 4
      have qc5 : w6.cell? ⟨w.heap.size, 5, none⟩ = some (.slice (some ⟨g, 0, none⟩) nd nd) := Lib.cell_of_heap hx6 5
      have qc6 : w6.cell? ⟨w.heap.size + 1, 0, none⟩ = some (.int .i64 0) := Lib.cell_of_heap hy6 0
      have qf0 : w6.frozen? ⟨w.heap.size, 0, none⟩ = false := Lib.frozen_of_heap hx6 _
      have qf1 : w6.frozen? ⟨w.heap.size, 1, none⟩ = false := Lib.frozen_of_heap hx6 _
      have qf2 : w6.frozen? ⟨w.heap.size, 2, none⟩ = false := Lib.frozen_of_heap hx6 _
      have qf3 : w6.frozen? ⟨w.heap.size, 3, none⟩ = false := Lib.frozen_of_heap hx6 _
      have qf4 : w6.frozen? ⟨w.heap.size, 4, none⟩ = false := Lib.frozen_of_heap hx6 _
      have qf5 : w6.frozen? ⟨w.heap.size, 5, none⟩ = false := Lib.frozen_of_heap hx6 _
      have qf6 : w6.frozen? ⟨w.heap.size + 1, 0, none⟩ = false := Lib.frozen_of_heap hy6 _
      obtain ⟨W7, hW7⟩ : ∃ W7, W7 = set7 w6 w.heap.size (w.heap.size + 1) (.slice pv0 objs.length cv0) (.int .i64 mi) (.int .i64 mk) (.slice pt (tgL objs).length ct) (.slice pp (szL objs).length cp) (.slice (some ⟨g, 0, none⟩) nd nd) (.int .i64 0) := ⟨_, rfl⟩
      have hxW7 : W7.heap[w.heap.size]? = some (.cells #[.slice pv0 objs.length cv0, .int .i64 mi, .int .i64 mk, .slice pt (tgL objs).length ct, .slice pp (szL objs).length cp, .slice (some ⟨g, 0, none⟩) nd nd] T80) := by rw [hW7]; exact set7_p (by omega) HX6.out (.slice pv0 objs.length cv0) (.int .i64 mi) (.int .i64 mk) (.slice pt (tgL objs).length ct) (.slice pp (szL objs).length cp) (.slice (some ⟨g, 0, none⟩) nd nd) (.int .i64 0)
      have hyW7 : W7.heap[w.heap.size + 1]? = some (.cells #[.int .i64 0] T34) := by rw [hW7]; exact set7_e (by omega) HY6.out (.slice pv0 objs.length cv0) (.int .i64 mi) (.int .i64 mk) (.slice pt (tgL objs).length ct) (.slice pp (szL objs).length cp) (.slice (some ⟨g, 0, none⟩) nd nd) (.int .i64 0)
      have hbW7 : Below w.heap.size w W7 := by rw [hW7]; exact set7_below hbw6 (Nat.le_refl _) (Nat.le_succ _) (.slice pv0 objs.length cv0) (.int .i64 mi) (.int .i64 mk) (.slice pt (tgL objs).length ct) (.slice pp (szL objs).length cp) (.slice (some ⟨g, 0, none⟩) nd nd) (.int .i64 0)
      have hoW7 : ∀ k, k ≠ w.heap.size → k ≠ w.heap.size + 1 → W7.heap[k]? = w6.heap[k]? := fun k h1 h2 => by rw [hW7]; exact set7_oth w6 _ _ (.slice pv0 objs.length cv0) (.int .i64 mi) (.int .i64 mk) (.slice pt (tgL objs).length ct) (.slice pp (szL objs).length cp) (.slice (some ⟨g, 0, none⟩) nd nd) (.int .i64 0) k h1 h2
      unfold set7 set6 at hW7
      have ho7 : ∀ k, W7.heap[k]? = w6.heap[k]? := fun k => by
        by_cases h1 : k = w.heap.size
        · rw [h1, hxW7, hx6]
        · by_cases h2 : k = w.heap.size + 1
          · rw [h2, hyW7, hy6]
          · exact hoW7 k h1 h2
      have HO7 := Lib.hid ho7
      have HW7 := Lib.hid hW7
      have HB7 := Lib.hid hbW7
      have d0 : W7.cell? ⟨w.heap.size, 0, none⟩ = some (.slice pv0 objs.length cv0) := Lib.cell_of_heap hxW7 0
      have d1 : W7.cell? ⟨w.heap.size, 1, none⟩ = some (.int .i64 mi) := Lib.cell_of_heap hxW7 1
      have d2 : W7.cell? ⟨w.heap.size, 2, none⟩ = some (.int .i64 mk) := Lib.cell_of_heap hxW7 2
      have d3 : W7.cell? ⟨w.heap.size, 3, none⟩ = some (.slice pt (tgL objs).length ct) := Lib.cell_of_heap hxW7 3
      have d4 : W7.cell? ⟨w.heap.size, 4, none⟩ = some (.slice pp (szL objs).length cp) := Lib.cell_of_heap hxW7 4
      have d5 : W7.cell? ⟨w.heap.size, 5, none⟩ = some (.slice (some ⟨g, 0, none⟩) nd nd) := Lib.cell_of_heap hxW7 5
      have d6 : W7.cell? ⟨w.heap.size + 1, 0, none⟩ = some (.int .i64 0) := Lib.cell_of_heap hyW7 0
      clear hW7 hxW7 hyW7 hbW7 hoW7 hx6 hy6 hbw6 ho7 gc0 gc1 gc2 gc3 gc4 gc5 gc6 gf0 gf1 gf2 gf3 gf4 gf5 gf6
      go_region
      rw [← HW7.out]
      go_wp2
      refine leaves_cons (f := 42) (args := #[.pointer (some ⟨w.heap.size, 0, none⟩), .pointer (some ⟨w.heap.size + 1, 0, none⟩)]) (by simp) (by simp [go_sem]) ?_
      refine (catch_idle w.heap.size (w.heap.size + 1) _).mono ?_
      rintro e u' w'' ⟨rfl, rfl, rfl⟩
      simp [Leaves, settle, results, Tryz.results24, go_sem, d0, d1, d2, d3, d4, d5, d6]
      have hlo := HLO.out
      rw [if_pos HLS.out] at hlo
      refine ⟨HB7.out.drew, .inr ⟨by rw [hlo]; exact HLS.out, HOK.out, by rw [hlo, HND.out]; exact HLEN.out.1, by rw [hlo]; exact HLEN.out.2, mi, mk, pt, (tgL objs).length, ct, pp, cp, g, HMO.out, by rw [HND.out], by omega, ?_, ?_⟩⟩
      · rw [hlo]; exact (HO7.out g).trans HI6.out
      · exact Sl.mono (HE.out.below HB6.out).pl (Nat.le_refl _) fun b o hlt hr j hj => ⟨(cell_same (HO7.out b) _).trans (hr j hj).1, (cell_same (HO7.out b) _).trans (hr j hj).2⟩
    · have HLS := Lib.hid hls
      have cry : ∀ (w5 : World) (h : Below g W4 w5) (hi : w5.heap[g]? = some (.cells (img (laid objs)).toArray TU (0, 0))), Calls Tryz.prog 45 #[.pointer (some ⟨w.heap.size, 0, none⟩)] w5 fun e w' => e = .panicked [{ v := .iface 119 (.int .i64 (linkS objs).2), recovered := false }] ∧ Below g w5 w' := fun w5 h hi => (cr w5 h hi).mono fun e w' hr => by
        obtain ⟨hb, hr⟩ := hr
        rcases hr with ⟨h0, -⟩ | ⟨-, h1⟩
        · exact absurd h0 HLS.out
        · exact ⟨h1, hb⟩
      have hlo := HLO.out
      rw [if_neg hls] at hlo
      have HLL := Lib.hid hlo
      clear cr hls hlo HLO
      generalize (linkS objs).2 = code at *
      go_wp2_with (first
        | (go_at_call 44; (with_reducible refine cl.mono ?_); rintro e w5 ⟨rfl, hi5, hb5⟩; have cr1 := cry w5 hb5 hi5; have HB5 := Lib.hid hb5; clear cl cry hi5 hb5)
        | (go_at_call 45; (with_reducible refine cr1.mono ?_); rintro e w6 ⟨rfl, hb6⟩; have HB6 := Lib.hid (HB5.out.trans hb6); clear cr1 hb6))
      refine leaves_cons (f := 42) (args := #[.pointer (some ⟨w.heap.size, 0, none⟩), .pointer (some ⟨w.heap.size + 1, 0, none⟩)]) (by simp) (by simp [go_sem]) ?_
      refine (catch_panicking w.heap.size (w.heap.size + 1) code [] w6 (by omega) _ _ _ _ _ _ _ ((HB6.out.block w.heap.size (by omega)).trans HX4.out) ((HB6.out.block (w.heap.size + 1) (by omega)).trans HY4.out)).mono ?_
      rintro e u' w'' ⟨rfl, rfl, T⟩
      have hx7 := T.p
      have hy7 := T.e
      unfold zeroP at hx7
      have d0 : w''.cell? ⟨w.heap.size, 0, none⟩ = some (.slice none 0 0) := Lib.cell_of_heap hx7 0
      have d1 : w''.cell? ⟨w.heap.size, 1, none⟩ = some (.int .i64 0) := Lib.cell_of_heap hx7 1
      have d2 : w''.cell? ⟨w.heap.size, 2, none⟩ = some (.int .i64 0) := Lib.cell_of_heap hx7 2
      have d3 : w''.cell? ⟨w.heap.size, 3, none⟩ = some (.slice none 0 0) := Lib.cell_of_heap hx7 3
      have d4 : w''.cell? ⟨w.heap.size, 4, none⟩ = some (.slice none 0 0) := Lib.cell_of_heap hx7 4
      have d5 : w''.cell? ⟨w.heap.size, 5, none⟩ = some (.slice none 0 0) := Lib.cell_of_heap hx7 5
      have d6 : w''.cell? ⟨w.heap.size + 1, 0, none⟩ = some (.int .i64 code) := Lib.cell_of_heap hy7 0
      have HB7 : Hid (Below w.heap.size w w'') := Lib.hid ((HB4.out.trans (HB6.out.mono (by omega))).trans ⟨T.os, T.tape, T.out, Nat.le_of_eq T.sz.symm, fun k hk => T.oth k (by omega) (by omega)⟩)
      simp [Leaves, settle, results, Tryz.results24, go_sem, d0, d1, d2, d3, d4, d5, d6]
      exact ⟨HB7.out, .inl ⟨by rw [HLL.out]; exact HLS.out, by rw [HLL.out], by rw [HLL.out]; rfl⟩⟩
end
end KK
end Go.Proofs.YtlmblfkcmhgdaaaGreat
namespace Go.Proofs.YtlmblfkcmhgdaaaGreat
open Go.RowKit
set_option linter.unusedVariables false
set_option linter.unusedSimpArgs false
namespace KG
open OO OJ RsM LM LL LP KB KC KM KE KL KN KD KF KK RsY RsB
abbrev TI : TypeId := 33
/-- what Link answers -/
def Image (objs : List ObjV) (w : World) (e : Ending) (w' : World) : Prop := Below w.heap.size w w' ∧
  (((linkOut objs).2 ≠ 0 ∧ (linkOut objs).1 = [] ∧ e = .returned (.tuple #[.agg #[.int .i64 0, .slice none 0 0], .int .i64 (linkOut objs).2])) ∨
   ((linkOut objs).2 = 0 ∧ LM.ok (szL objs) = true ∧ (linkOut objs).1.length = dend (szL objs) ∧ OJ.Bytes (linkOut objs).1 ∧ ∃ g : Nat,
     e = .returned (.tuple #[.agg #[.int .i64 0, .slice (some ⟨g, 0, none⟩) (dend (szL objs)) (dend (szL objs))], .int .i64 0]) ∧ w.heap.size < g ∧ w'.heap[g]? = some (.cells (img (linkOut objs).1).toArray TU (0, 0))))
section
variable {w : World} {n₀ : Nat} {v : Value} {objs : List ObjV}
theorem two_set {W : World} {b : Nat} {x y : Value} {T : TypeId} (h : W.heap[b]? = some (.cells #[x, y] T (0, 0))) (u v : Value) : ((W.setCell ⟨b, 0, none⟩ u).setCell ⟨b, 1, none⟩ v).heap[b]? = some (.cells #[u, v] T (0, 0)) := by
  have a0 := heap_setCell_same _ b 0 _ _ u h
  have a1 := heap_setCell_same _ b 1 _ _ v a0
  simpa using a1
set_option maxRecDepth 100000 in
set_option maxHeartbeats 8000000 in
theorem Link_ (hn : n₀ ≤ w.heap.size) (ho : ObjsAt n₀ w v objs) (hw : ∀ o ∈ objs, o.Wf) (hm : objs.length ≤ 65536) (hms : ∀ o ∈ objs, o.ss.length ≤ maxLen) (hmr : ∀ o ∈ objs, o.rs.length ≤ 100000) (hN : (flat objs).length ≤ 100000) (hz : ∀ x ∈ szL objs, x.1 ≤ 4294967296 ∧ x.2 ≤ 4294967296) :
    Calls Tryz.prog 13 #[v] w (Image objs w) := by
  have hb1 : Below w.heap.size w (w.alloc (.cells #[.int .i64 0, .slice none 0 0] TI)) := (Below.refl _ _).alloc (Nat.le_refl _) _
  have cl := linked_ (w := w.alloc (.cells #[.int .i64 0, .slice none 0 0] TI)) (n₀ := n₀) (Nat.le_trans hn hb1.size) (ObjsAt.same ho (Same.of hb1 hn)) hw hm hms hmr hN hz
  have HB1 := Lib.hid hb1
  have hx1 : (w.alloc (.cells #[.int .i64 0, .slice none 0 0] TI)).heap[w.heap.size]? = some (.cells #[.int .i64 0, .slice none 0 0] TI) := heap_alloc_new w _
  have HX1 := Lib.hid hx1
  have key : ∀ (w3 : World) (u0 u1 u2 u3 u4 u5 : Value), Below (w.alloc (.cells #[.int .i64 0, .slice none 0 0] TI)).heap.size (w.alloc (.cells #[.int .i64 0, .slice none 0 0] TI)) w3 →
      (w3.alloc (.cells #[u0, u1, u2, u3, u4, u5] T80)).heap[w.heap.size]? = some (.cells #[.int .i64 0, .slice none 0 0] TI) ∧ (w3.alloc (.cells #[u0, u1, u2, u3, u4, u5] T80)).heap[w3.heap.size]? = some (.cells #[u0, u1, u2, u3, u4, u5] T80) ∧ Below w.heap.size w (w3.alloc (.cells #[u0, u1, u2, u3, u4, u5] T80)) := fun w3 u0 u1 u2 u3 u4 u5 hb => by
    have hs := hb.size
    rw [World.size_alloc] at hs
    exact ⟨(Lib.alloc_old _ _ _ (by omega)).trans ((hb.block _ (by rw [World.size_alloc]; omega)).trans HX1.out), heap_alloc_new w3 _, (HB1.out.trans (hb.mono (by rw [World.size_alloc]; omega))).alloc (by omega) _⟩
  have HK := Lib.hid key
  obtain ⟨pv0, cv0, rfl, -⟩ := ho
  clear hb1 hx1 key hw hms hmr hN hz
  by_cases hc : (linkOut objs).2 = 0
  · have cly : Calls Tryz.prog 24 #[.slice pv0 objs.length cv0] (w.alloc (.cells #[.int .i64 0, .slice none 0 0] TI)) fun e w' => LM.ok (szL objs) = true ∧ (linkOut objs).1.length = dend (szL objs) ∧ OJ.Bytes (linkOut objs).1 ∧ ∃ (mi mk : Int) (pt : Option Addr) (nt ct : Nat) (pp : Option Addr) (np cp g : Nat),
        e = .returned (.tuple #[.agg #[.slice pv0 objs.length cv0, .int .i64 mi, .int .i64 mk, .slice pt nt ct, .slice pp np cp, .slice (some ⟨g, 0, none⟩) (dend (szL objs)) (dend (szL objs))], .int .i64 0]) ∧ w.heap.size + 1 < g ∧ w'.heap[g]? = some (.cells (img (linkOut objs).1).toArray TU (0, 0)) ∧ Below (w.alloc (.cells #[.int .i64 0, .slice none 0 0] TI)).heap.size (w.alloc (.cells #[.int .i64 0, .slice none 0 0] TI)) w' := cl.mono fun e w' hr => by
      obtain ⟨hb, hr⟩ := hr
      rcases hr with ⟨h0, -⟩ | ⟨-, h1, h2, h3, mi, mk, pt, nt, ct, pp, cp, g, -, h5, h6, h7, -⟩
      · exact absurd hc h0
      · rw [World.size_alloc] at h6
        exact ⟨h1, h2, h3, mi, mk, pt, nt, ct, pp, _, cp, g, h5, h6, h7, hb⟩
    have HC := Lib.hid hc
    clear cl hc
    generalize hnd : dend (szL objs) = nd at *
    have HND := Lib.hid hnd
    clear hnd
    go_enter Tryz.func13, Tryz.ntmps13
    go_upto_region 2 with (go_at_call 24; (with_reducible refine cly.mono ?_); rintro e w3 ⟨h1, h2, h3, mi, mk, pt, nt, ct, pp, np, cp, g, rfl, h6, h7, hb3⟩; have HF := Lib.hid (⟨h1, h2, h3⟩ : _ ∧ _ ∧ _); have HI := Lib.hid h7; have HB3 := Lib.hid hb3; clear h1 h2 h3 h7 hb3 cly)
    obtain ⟨hx3, hz3, hb4⟩ := HK.out w3 (.slice pv0 objs.length cv0) (.int .i64 mi) (.int .i64 mk) (.slice pt nt ct) (.slice pp np cp) (.slice (some ⟨g, 0, none⟩) nd nd) HB3.out
    obtain ⟨W4, hW4⟩ : ∃ W4, W4 = w3.alloc (.cells #[.slice pv0 objs.length cv0, .int .i64 mi, .int .i64 mk, .slice pt nt ct, .slice pp np cp, .slice (some ⟨g, 0, none⟩) nd nd] T80) := ⟨_, rfl⟩
    rw [← hW4]
    rw [← hW4] at hx3 hz3 hb4
    have hg4 : W4.heap[g]? = some (.cells (img (linkOut objs).1).toArray TU (0, 0)) := by rw [hW4, Lib.alloc_old _ _ _ (lt_heap HI.out)]; exact HI.out
    clear hW4
    have c0 : W4.cell? ⟨w.heap.size, 0, none⟩ = some (.int .i64 0) := Lib.cell_of_heap hx3 0
    have c1 : W4.cell? ⟨w.heap.size, 1, none⟩ = some (.slice none 0 0) := Lib.cell_of_heap hx3 1
    have f0 : W4.frozen? ⟨w.heap.size, 0, none⟩ = false := Lib.frozen_of_heap hx3 _
    have f1 : W4.frozen? ⟨w.heap.size, 1, none⟩ = false := Lib.frozen_of_heap hx3 _
    have c5 : W4.cell? ⟨w3.heap.size, 5, none⟩ = some (.slice (some ⟨g, 0, none⟩) nd nd) := Lib.cell_of_heap hz3 5
    have D := two_set hx3 (.int .i64 0) (.slice (some ⟨g, 0, none⟩) nd nd)
    obtain ⟨W5, hW5⟩ : ∃ W5, W5 = (W4.setCell ⟨w.heap.size, 0, none⟩ (.int .i64 0)).setCell ⟨w.heap.size, 1, none⟩ (.slice (some ⟨g, 0, none⟩) nd nd) := ⟨_, rfl⟩
    rw [← hW5] at D
    have d0 : W5.cell? ⟨w.heap.size, 0, none⟩ = some (.int .i64 0) := Lib.cell_of_heap D 0
    have d1 : W5.cell? ⟨w.heap.size, 1, none⟩ = some (.slice (some ⟨g, 0, none⟩) nd nd) := Lib.cell_of_heap D 1
    have hb5 : Below w.heap.size w W5 := by rw [hW5]; exact (hb4.setCell (p := ⟨w.heap.size, 0, none⟩) (Nat.le_refl _) _).setCell (p := ⟨w.heap.size, 1, none⟩) (Nat.le_refl _) _
    have hg5 : W5.heap[g]? = some (.cells (img (linkOut objs).1).toArray TU (0, 0)) := by rw [hW5, oth_set _ _ _ _ _ (by omega), oth_set _ _ _ _ _ (by omega)]; exact hg4
    have HG5 := Lib.hid hg5
    clear hg4 hg5
    have HB5 := Lib.hid hb5
    have HW5 := Lib.hid hW5
    clear hW5 D hx3 hz3 hb4 hb5
    go_wp2
    rw [← HW5.out]
    refine bodyPost_ret (v := .tuple #[.agg #[.int .i64 0, (.slice (some ⟨g, 0, none⟩) nd nd)], .int .i64 0]) (by simp [results, Tryz.results13, go_sem, d0, d1]) rfl ?_
    exact ⟨HB5.out, .inr ⟨HC.out, HF.out.1, HF.out.2.1.trans HND.out.symm, HF.out.2.2, g, by rw [HND.out], by omega, HG5.out⟩⟩
  · have cly : (linkOut objs).1 = [] ∧ Calls Tryz.prog 24 #[.slice pv0 objs.length cv0] (w.alloc (.cells #[.int .i64 0, .slice none 0 0] TI)) fun e w' => e = .returned (.tuple #[.agg zeroP, .int .i64 (linkOut objs).2]) ∧ Below (w.alloc (.cells #[.int .i64 0, .slice none 0 0] TI)).heap.size (w.alloc (.cells #[.int .i64 0, .slice none 0 0] TI)) w' := by
      refine ⟨?_, cl.mono fun e w' hr => ?_⟩
      · unfold linkOut
        unfold linkOut at hc
        split
        · rfl
        · rename_i h1
          rw [if_neg h1] at hc
          split
          · rfl
          · rename_i h2
            rw [if_neg h2] at hc
            split
            · rename_i h3
              rw [if_pos h3] at hc
              exact absurd h3 hc
            · rfl
      · obtain ⟨hb, hr⟩ := hr
        rcases hr with ⟨-, -, h1⟩ | ⟨h0, -⟩
        · exact ⟨h1, hb⟩
        · exact absurd h0 hc
    obtain ⟨hl1, cly⟩ := cly
    have HL1 := Lib.hid hl1
    have HC := Lib.hid hc
    clear cl hc hl1
    generalize hcd : (linkOut objs).2 = code at *
    have HCD := Lib.hid hcd
    clear hcd
    simp only [zeroP] at cly
    go_enter Tryz.func13, Tryz.ntmps13
    go_upto_region 2 with (go_at_call 24; (with_reducible refine cly.mono ?_); rintro e w3 ⟨rfl, hb3⟩; have HB3 := Lib.hid hb3; clear hb3 cly)
    obtain ⟨hx3, hz3, hb4⟩ := HK.out w3 (.slice none 0 0) (.int .i64 0) (.int .i64 0) (.slice none 0 0) (.slice none 0 0) (.slice none 0 0) HB3.out
    obtain ⟨W4, hW4⟩ : ∃ W4, W4 = w3.alloc (.cells #[.slice none 0 0, .int .i64 0, .int .i64 0, .slice none 0 0, .slice none 0 0, .slice none 0 0] T80) := ⟨_, rfl⟩
    rw [← hW4]
    rw [← hW4] at hx3 hz3 hb4
    skip
    clear hW4
    have c0 : W4.cell? ⟨w.heap.size, 0, none⟩ = some (.int .i64 0) := Lib.cell_of_heap hx3 0
    have c1 : W4.cell? ⟨w.heap.size, 1, none⟩ = some (.slice none 0 0) := Lib.cell_of_heap hx3 1
    have f0 : W4.frozen? ⟨w.heap.size, 0, none⟩ = false := Lib.frozen_of_heap hx3 _
    have f1 : W4.frozen? ⟨w.heap.size, 1, none⟩ = false := Lib.frozen_of_heap hx3 _
    have c5 : W4.cell? ⟨w3.heap.size, 5, none⟩ = some (.slice none 0 0) := Lib.cell_of_heap hz3 5
    have D := two_set hx3 (.int .i64 0) (.slice none 0 0)
    obtain ⟨W5, hW5⟩ : ∃ W5, W5 = (W4.setCell ⟨w.heap.size, 0, none⟩ (.int .i64 0)).setCell ⟨w.heap.size, 1, none⟩ (.slice none 0 0) := ⟨_, rfl⟩
    rw [← hW5] at D
    have d0 : W5.cell? ⟨w.heap.size, 0, none⟩ = some (.int .i64 0) := Lib.cell_of_heap D 0
    have d1 : W5.cell? ⟨w.heap.size, 1, none⟩ = some (.slice none 0 0) := Lib.cell_of_heap D 1
    have hb5 : Below w.heap.size w W5 := by rw [hW5]; exact (hb4.setCell (p := ⟨w.heap.size, 0, none⟩) (Nat.le_refl _) _).setCell (p := ⟨w.heap.size, 1, none⟩) (Nat.le_refl _) _
    skip
    have HB5 := Lib.hid hb5
    have HW5 := Lib.hid hW5
    clear hW5 D hx3 hz3 hb4 hb5
    go_wp2
    rw [← HW5.out]
    refine bodyPost_ret (v := .tuple #[.agg #[.int .i64 0, (.slice none 0 0)], .int .i64 code]) (by simp [results, Tryz.results13, go_sem, d0, d1]) rfl ?_
    exact ⟨HB5.out, .inl ⟨by rw [HCD.out]; exact HC.out, HL1.out, by rw [HCD.out]⟩⟩
end
end KG
end Go.Proofs.YtlmblfkcmhgdaaaGreat
