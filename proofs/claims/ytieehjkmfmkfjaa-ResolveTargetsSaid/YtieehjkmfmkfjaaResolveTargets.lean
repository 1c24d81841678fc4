/-
  Of any objects the law ResolveTargets returns true: all targets are the document's, or what is wrong is, at its place; and the objects stay as they were.
  Conditions: none beyond those of the given statement.
-/
import Derived.Test.YtieehjkmfmkfjaaRows
import Derived.Test.YtieehjkmfmkfjaaTgC
import Derived.Test.YtieehjkmfmkfjaaResA
import Derived.Test.YtieehjkmfmkfjaaResO
import Derived.Laws.StructEq
import Derived.BigQuiet
import Derived.BigRegion
import Derived.Deep.RegionHeld3
import Derived.WalkKit
import Derived.ProofKit
import Derived.OpenShut
namespace Go.Proofs.Ytieehjkmfmkfjaa.resolveTargets
open Go.ChangeShapes Go.WideShapes Go.ChangeAt Go.RowKit
set_option linter.unusedVariables false
set_option linter.unusedSimpArgs false

theorem own : ownKnob Try.prog.godebug = none := by kernel_rfl
open OO OJ RsM RsF RsB RsT RsD RsQ RsY RsJ RsZ RsV RsH XR XV XC OX OY
theorem small_ss {objs : List ObjV} (h : fewO objs = true) : ∀ o ∈ objs, o.ss.length ≤ 100000 := fun o ho => by
  have := (OE.few_lim ((fewO_lim h).2 o ho)).2.2.1
  omega
theorem lims {objs : List ObjV} (h : fewO objs = true) : ∀ o ∈ objs, o.Lim := fun o ho => OE.lim_of_few ((fewO_lim h).2 o ho)
theorem dn {B : Nat} {a w : World} {q : Nat} (h : Below B a w) : Below B a (w.drewN q) := ⟨h.os, h.tape, h.output, h.size, h.block⟩
theorem two_at {w1 W : World} {a b : Value} {T : TypeId} (hb : Below (w1.alloc (.cells #[a, b] T)).heap.size (w1.alloc (.cells #[a, b] T)) W) : W.cell? ⟨w1.heap.size, 0, none⟩ = some a ∧ W.cell? ⟨w1.heap.size, 1, none⟩ = some b := by
  have h : W.heap[w1.heap.size]? = some (.cells #[a, b] T (0, 0)) := (hb.block _ (by simp)).trans (heap_alloc_new w1 _)
  exact ⟨Lib.cell_of_heap h 0, Lib.cell_of_heap h 1⟩
theorem pres_ {w : World} {n₀ : Nat} {v : Value} {objs : List ObjV} (hn : n₀ ≤ w.heap.size) (ho : ObjsAt n₀ w v objs) (hw : ∀ o ∈ objs, o.Wf) (hm : objs.length ≤ 100000) (hms : ∀ o ∈ objs, o.ss.length ≤ maxLen) (hN : (flat objs).length ≤ 100000) :
    Calls Try.prog 13 #[v] w (RRes objs w) := by
  refine (resolve_ hn ho hw hm hms hN).mono ?_
  rintro e w' ⟨tv, i, k, c, rfl, hO, hb⟩
  have ht := out_tgts hO
  have hc := res_code hO
  obtain ⟨hi, hk⟩ := out_place hO
  subst hc hi hk
  obtain ⟨p, c, rfl, -⟩ := id ht
  exact ⟨p, c, rfl, ht, hb⟩
def Ow (w : World) (o : ObjV) (e : Ending) (w' : World) : Prop := ∃ (u : Nat → Value) (p0 p1 p2 p3 : Option Addr) (q0 q1 q2 q3 : Nat), e = .returned (.agg #[.slice p0 o.ws.length q0, .slice p1 o.ds.length q1, .slice p2 o.ss.length q2, .slice p3 o.rs.length q3]) ∧ (u 0 = .slice p0 o.ws.length q0 ∧ u 1 = .slice p1 o.ds.length q1 ∧ u 2 = .slice p2 o.ss.length q2 ∧ u 3 = .slice p3 o.rs.length q3) ∧ Below w.heap.size w w' ∧ ∀ c, c < 4 → w'.ownsRow (w.heap.size + 2) (OG.E c) (OG.size c) (u c) (OG.num o c) (OG.xs o c)
theorem ow_ {w : World} {v0 v1 v2 v3 : Value} {o : ObjV} (ho : ObjAt w.heap.size w v0 v1 v2 v3 o) (hl : o.Lim) : Calls Try.prog 12 #[.agg #[v0, v1, v2, v3]] w (Ow w o) := by
  refine (OG.own_ ho hl).mono ?_
  rintro e w' ⟨u, rfl, hb, hu⟩
  obtain ⟨p0, q0, e0⟩ := own_shape (hu 0 (by omega)) rfl
  obtain ⟨p1, q1, e1⟩ := own_shape (hu 1 (by omega)) rfl
  obtain ⟨p2, q2, e2⟩ := own_shape (hu 2 (by omega)) rfl
  obtain ⟨p3, q3, e3⟩ := own_shape (hu 3 (by omega)) rfl
  exact ⟨u, p0, p1, p2, p3, q0, q1, q2, q3, by rw [e0, e1, e2, e3]; rfl, ⟨e0, e1, e2, e3⟩, hb, hu⟩

set_option maxRecDepth 100000 in
set_option maxHeartbeats 8000000 in
theorem walk (v0 : Value) (objs0 : List OO.ObjV) (w : World) (ha0 : RsM.ObjsAt w.heap.size w v0 objs0) (hw0 : ∀ o ∈ objs0, o.Wf) :
    Calls Try.prog 3 #[v0] w fun e w' => e = .returned (.bool true) ∧ Below w.heap.size w w' := by
  have HO := Lib.hid ha0
  have HW := Lib.hid hw0
  have HM := Lib.hid (OB.Sl_len ha0)
  obtain ⟨p, c, rfl, hsl⟩ := ha0
  have HSL := Lib.hid hsl
  clear hw0 hsl
  cases hf : RsF.fewO objs0 with
  | false =>
    have HF := Lib.hid hf
    clear hf
    go_enter Try.func3, Try.ntmps3
    go_wp2_with (first
      | (go_at_call 10; (first
          | (with_reducible refine (RsA.awake_ _).mono ?_; rintro e w3 ⟨rfl, hb3⟩; have HB3 := Lib.hid (HB2.out.trans (hb3.mono HB2.out.size)); clear hb3)
          | (with_reducible refine (RsA.awake_ _).mono ?_; rintro e w1 ⟨rfl, hb1⟩; have HB1 := Lib.hid hb1; clear hb1)))
      | (go_at_call 11; (with_reducible refine (RsF.fewO_ HB1.out.size (ObjsAt.same HO.out (Same.of HB1.out (Nat.le_refl _))) HW.out HM.out).mono ?_); rintro e w2 ⟨rfl, hb2⟩; have HB2 := Lib.hid (HB1.out.trans (hb2.mono HB1.out.size)); rw [HF.out]; clear hb2))
    go_ret
    exact ⟨rfl, HB3.out⟩
  | true =>
    have HF := Lib.hid hf
    obtain ⟨hm12, hms, hN⟩ := few_flat hf
    have HSS := Lib.hid (small_ss hf)
    have HLI := Lib.hid (lims hf)
    have HMS := Lib.hid hms
    have hmM : objs0.length ≤ 100000 := by omega
    obtain ⟨i0, hi, hz0, hz1, hz2⟩ := info_parts infoO
    clear hf hms hm12
    go_enter Try.func3, Try.ntmps3
    go_upto_region 3 with (first
      | (go_at_call 10; with_reducible refine (RsA.awake_ _).mono ?_; rintro e w1 ⟨rfl, hb1⟩; have HB1 := Lib.hid hb1; clear hb1)
      | (go_at_call 11; (with_reducible refine (RsF.fewO_ HB1.out.size (ObjsAt.same HO.out (Same.of HB1.out (Nat.le_refl _))) HW.out HM.out).mono ?_); rintro e w2 ⟨rfl, hb2⟩; have HB2 := Lib.hid (HB1.out.trans (hb2.mono HB1.out.size)); rw [HF.out]; clear hb2))
    have hs2 := HB2.out.size
    clear HB1
    go_wp2_with fail
    go_loopw [3, 23] (fun vi i wr => ∃ (k : Nat) (q : Option Addr) (cq : Nat) (cs : List Value), k ≤ objs0.length ∧ i = .int .i64 k ∧ vi = .slice q k cq ∧ Hid (CO w2.heap.size wr (.slice q k cq) objs0 k cs) ∧ Hid (Below w2.heap.size w2 wr)) (fun _ i _ => objs0.length - (intOf i).toNat)
    case atStart => exact ⟨0, none, 0, [], Nat.zero_le _, rfl, rfl, Lib.hid (CO.nil _ _ _), Lib.hid (Below.refl _ _)⟩
    case round =>
      obtain ⟨k, q, cq, cs, hk, rfl, rfl, HC, HBL⟩ := hrel
      have HBW := Lib.hid (HB2.out.trans (HBL.out.mono hs2))
      by_cases hlt : k < objs0.length
      · obtain ⟨b, o, rfl, hb, -, -, hall⟩ := HSL.out (by omega)
        obtain ⟨v0, v1, v2, v3, k0, k1, k2, k3, hoa⟩ := (hall k _ (List.getElem?_eq_getElem hlt)).same (Same.of HBW.out (Nat.le_refl _)) hb
        have hGet := Lib.hid (List.getElem?_eq_getElem hlt)
        have hLim := HLI.out _ (List.getElem_mem hlt)
        clear hall
        generalize objs0[k] = x at *
        have hup : ObjAt (wr.alloc (.cells #[v0, v1, v2, v3] 30)).heap.size (wr.alloc (.cells #[v0, v1, v2, v3] 30)) v0 v1 v2 v3 x := ((hoa.up HBW.out.size).below ((Below.refl wr.heap.size wr).alloc (Nat.le_refl _) _)).up (by simp)
        have cow := ow_ hup hLim
        obtain ⟨p0, q0, rfl, -⟩ := hoa.ws
        obtain ⟨p1, q1, rfl, -⟩ := hoa.ds
        obtain ⟨p2, q2, rfl, -⟩ := hoa.ss
        obtain ⟨p3, q3, rfl, -⟩ := hoa.rs
        have hk1 : (0 : Int) ≤ (k : Int) := by omega
        clear hoa hup hLim
        go_upto_region 7 with fail
        have HA1 := Lib.hid ((Below.refl wr.heap.size wr).alloc (Nat.le_refl _) (.cells #[.slice p0 x.ws.length q0, .slice p1 x.ds.length q1, .slice p2 x.ss.length q2, .slice p3 x.rs.length q3] 30))
        go_wp2_with (first
          | (go_at_call 12; (with_reducible refine cow.mono ?_); rintro e w4 ⟨u, r0, r1, r2, r3, n0, n1, n2, n3, rfl, hue, hb4, hu⟩; have HUE := Lib.hid hue; have HU := Lib.hid hu; have HB4 := Lib.hid (HA1.out.trans (hb4.mono HA1.out.size)); have HC4 := Lib.hid (HC.out.below HB4.out); clear hue hu hb4)
          | (at_builtin; refine wpList_append_own_at _ rfl _ _ 22 rfl w2.heap.size 30 i0 (.agg #[.slice none 0 0, .slice none 0 0, .slice none 0 0, .slice none 0 0]) 4 96 Try.underlying22 hi hz0 hz1 hz2 rfl (by decide) _ _ _ rfl (HC4.out.own.alloc _) ⟨w4.heap.size, 0, none⟩ 1 1 [.slice r0 x.ws.length n0, .slice r1 x.ds.length n1, .slice r2 x.ss.length n2, .slice r3 x.rs.length n3] rfl rfl (World.news_of_block (cs := #[.slice r0 x.ws.length n0, .slice r1 x.ds.length n1, .slice r2 x.ss.length n2, .slice r3 x.rs.length n3]) (t := 30) (fr := (0, 0)) (heap_alloc_new _ _)) (by simp [Value.oneCell']) (by unfold maxLen; omega) (by omega) (by have := HBL.out.size; have := HB4.out.size; rw [World.size_alloc]; omega) ?_; intro v5 w5 ho5 hg5 _ ha5; have HO5 := Lib.hid ho5; have HG5 := Lib.hid hg5; have HAT := Lib.hid ha5; clear ho5 hg5 ha5))
        obtain ⟨e0, e1, e2, e3⟩ := HUE.out
        have hown := HO5.out
        obtain ⟨q5, c5, rfl⟩ := own_shape hown rfl
        rw [← e0, ← e1, ← e2, ← e3] at hown
        have hpush := (HC4.out.below ((Below.refl w4.heap.size w4).alloc (Nat.le_refl _) _)).push hGet.out (fun c hc => (HU.out c hc).alloc _) (fun g hg => by have := (HC.out.own.lt g hg).2; simp only [World.size_alloc]; omega) hown HG5.out HAT.out
        have h4 := HBL.out.trans (HB4.out.mono HBL.out.size)
        have hb5 := (h4.alloc h4.size _).grown HG5.out (by have := h4.size; simp only [World.size_alloc]; omega) (fun g hg => (HC4.out.own.lt g hg).1)
        exact ⟨⟨k + 1, q5, c5, _, by omega, by go_num, rfl, Lib.hid hpush, Lib.hid hb5⟩, by simp [intOf]; omega⟩
      · obtain rfl : k = objs0.length := by omega
        have hin := HC.out.all_
        have cR := pres_ (w := wr) (n₀ := wr.heap.size) (Nat.le_refl _) hin HW.out hmM HMS.out hN
        have crf := fun (W : World) (h : Below w.heap.size w W) => rres_ (w := W) (n₀ := w.heap.size) h.size (ObjsAt.same HO.out (Same.of h (Nat.le_refl _))) HW.out hmM HSS.out
        unfold RRes at cR crf
        generalize tgL objs0 = R at *
        generalize resCode objs0 = rc at *
        generalize placeOf objs0 = pl at *
        obtain ⟨pa, pb⟩ := pl
        simp only at cR crf
        have HIN := Lib.hid hin
        have hsw := HBW.out.size
        clear hin HC HBL HB2 hs2 hk hlt
        go_upto_region 10 with (go_at_call 13; (with_reducible refine cR.mono ?_); rintro e w5 ⟨p5, c5, rfl, ht5, hb5⟩; have HT5 := Lib.hid ht5; have HB5 := Lib.hid hb5; clear ht5 hb5 cR)
        have h6 := HB5.out.alloc HB5.out.size (.cells #[.int .i64 pa, .int .i64 pb] TT)
        have H6 := Lib.hid h6
        have HW6 := Lib.hid (HBW.out.trans (h6.mono hsw))
        have cr6 := crf _ HW6.out
        clear crf h6
        go_upto_region 11 with (go_at_call 14; (with_reducible refine cr6.mono ?_); rintro e w7 ⟨p7, c7, rfl, ht7, hb7⟩; have HT7 := Lib.hid ht7; have HB7 := Lib.hid hb7; clear ht7 hb7 cr6)
        have b7 := HB7.out.alloc HB7.out.size (.cells #[.int .i64 pa, .int .i64 pb] TTR)
        have a7 : Below w7.heap.size w7 (w7.alloc (.cells #[.int .i64 pa, .int .i64 pb] TTR)) := (Below.refl _ _).alloc (Nat.le_refl _) _
        obtain ⟨t0, t1⟩ := two_at b7
        obtain ⟨u0, u1⟩ := two_at (Below.refl (w7.alloc (.cells #[.int .i64 pa, .int .i64 pb] TTR)).heap.size (w7.alloc (.cells #[.int .i64 pa, .int .i64 pb] TTR)))
        have a5 : Below w5.heap.size w5 (w7.alloc (.cells #[.int .i64 pa, .int .i64 pb] TTR)) := ((Below.refl w5.heap.size w5).alloc (Nat.le_refl _) _).trans (b7.mono (by simp only [World.size_alloc]; omega))
        have cs8 := same_ (tgts_below HT5.out a5) (tgts_below HT7.out a7)
        have H8 := Lib.hid (H6.out.trans (b7.mono H6.out.size))
        clear HT5 HT7 HB5 HB7 b7 a7 a5 H6 HW6
        generalize w7.alloc (.cells #[.int .i64 pa, .int .i64 pb] TTR) = w8 at *
        go_upto_region 13 with (go_at_call 15; (with_reducible refine cs8.mono ?_); rintro e w9 ⟨rfl, hb9⟩; have H9 := Lib.hid (H8.out.trans (hb9.mono H8.out.size)); clear hb9 cs8)
        clear t0 t1 u0 u1
        obtain ⟨wi, rfl⟩ : ∃ wi : World, wi = wr := ⟨_, rfl⟩
        go_wp2_with fail
        go_loopw [61] (fun i wx => ∃ j : Nat, j ≤ objs0.length ∧ i = .int .i64 j ∧ Hid (Below wi.heap.size wi wx)) (fun i _ => objs0.length - (intOf i).toNat)
        case atStart => exact ⟨0, Nat.zero_le _, rfl, H9⟩
        case round =>
          obtain ⟨j, hj, rfl, HX⟩ := hrel
          have HWX := Lib.hid (HBW.out.trans (HX.out.mono hsw))
          by_cases hjl : j < objs0.length
          · obtain ⟨b, o, rfl, hb, -, -, hall⟩ := HSL.out (by omega)
            obtain ⟨v0, v1, v2, v3, k0, k1, k2, k3, hoa⟩ := (hall j _ (List.getElem?_eq_getElem hjl)).same (Same.of HWX.out (Nat.le_refl _)) hb
            obtain ⟨pq, cq', eq, hh⟩ := HIN.out
            cases eq
            obtain ⟨bi, oi, rfl, hbi, -, -, halli⟩ := hh (by omega)
            obtain ⟨y0, y1, y2, y3, m0, m1, m2, m3, hoi⟩ := (halli j _ (List.getElem?_eq_getElem hjl)).same (Same.of HX.out (Nat.le_refl _)) hbi
            have hx := HW.out _ (List.getElem_mem hjl)
            clear hall halli hh
            generalize objs0[j] = x at *
            have d0 : Below wr.heap.size wr wr.drew := (Below.refl _ _).drew
            have cS := RSame_ (w := wr.drew) (n₀ := wr.heap.size) (Nat.le_refl _) ((hoi.up HX.out.size).below d0) ((hoa.up HWX.out.size).below d0) hx hx
            rw [sameO_refl] at cS
            obtain ⟨p0, q0, rfl, -⟩ := hoa.ws
            obtain ⟨p1, q1, rfl, -⟩ := hoa.ds
            obtain ⟨p2, q2, rfl, -⟩ := hoa.ss
            obtain ⟨p3, q3, rfl, -⟩ := hoa.rs
            obtain ⟨r0, n0, rfl, -⟩ := hoi.ws
            obtain ⟨r1, n1, rfl, -⟩ := hoi.ds
            obtain ⟨r2, n2, rfl, -⟩ := hoi.ss
            obtain ⟨r3, n3, rfl, -⟩ := hoi.rs
            have hk1 : (0 : Int) ≤ (j : Int) := by omega
            have D0 := Lib.hid d0
            have hbl : b < wr.heap.size := Nat.lt_of_lt_of_le hb HWX.out.size
            have hbil : bi < wr.heap.size := Nat.lt_of_lt_of_le hbi HX.out.size
            have HSS := Lib.hid (show ∀ w', Below wr.heap.size wr w' → (w'.cell? ⟨b, o + j * 4, none⟩ = some (.slice p0 x.ws.length q0) ∧ w'.cell? ⟨b, o + j * 4 + 1, none⟩ = some (.slice p1 x.ds.length q1) ∧ w'.cell? ⟨b, o + j * 4 + 2, none⟩ = some (.slice p2 x.ss.length q2) ∧ w'.cell? ⟨b, o + j * 4 + 3, none⟩ = some (.slice p3 x.rs.length q3) ∧ w'.cell? ⟨bi, oi + j * 4, none⟩ = some (.slice r0 x.ws.length n0) ∧ w'.cell? ⟨bi, oi + j * 4 + 1, none⟩ = some (.slice r1 x.ds.length n1) ∧ w'.cell? ⟨bi, oi + j * 4 + 2, none⟩ = some (.slice r2 x.ss.length n2) ∧ w'.cell? ⟨bi, oi + j * 4 + 3, none⟩ = some (.slice r3 x.rs.length n3)) from fun w' hb => ⟨(hb.cell (p := ⟨b, o + j * 4, none⟩) hbl).trans k0, (hb.cell (p := ⟨b, o + j * 4 + 1, none⟩) hbl).trans k1, (hb.cell (p := ⟨b, o + j * 4 + 2, none⟩) hbl).trans k2, (hb.cell (p := ⟨b, o + j * 4 + 3, none⟩) hbl).trans k3, (hb.cell (p := ⟨bi, oi + j * 4, none⟩) hbil).trans m0, (hb.cell (p := ⟨bi, oi + j * 4 + 1, none⟩) hbil).trans m1, (hb.cell (p := ⟨bi, oi + j * 4 + 2, none⟩) hbil).trans m2, (hb.cell (p := ⟨bi, oi + j * 4 + 3, none⟩) hbil).trans m3⟩)
            clear hoa hoi hx d0
            go_upto_region 16 with fail
            go_region_held3 (fun w' => w'.cell? ⟨b, o + j * 4, none⟩ = some (.slice p0 x.ws.length q0) ∧ w'.cell? ⟨b, o + j * 4 + 1, none⟩ = some (.slice p1 x.ds.length q1) ∧ w'.cell? ⟨b, o + j * 4 + 2, none⟩ = some (.slice p2 x.ss.length q2) ∧ w'.cell? ⟨b, o + j * 4 + 3, none⟩ = some (.slice p3 x.rs.length q3) ∧ w'.cell? ⟨bi, oi + j * 4, none⟩ = some (.slice r0 x.ws.length n0) ∧ w'.cell? ⟨bi, oi + j * 4 + 1, none⟩ = some (.slice r1 x.ds.length n1) ∧ w'.cell? ⟨bi, oi + j * 4 + 2, none⟩ = some (.slice r2 x.ss.length n2) ∧ w'.cell? ⟨bi, oi + j * 4 + 3, none⟩ = some (.slice r3 x.rs.length n3)) (first | exact HSS.out _ D0.out | exact HSS.out _ HB10.out | exact HSS.out _ (Below.refl _ _) | go_keep)
              ((go_at_call 16; (with_reducible refine cS.mono ?_); rintro e w10 ⟨rfl, hb10⟩; have HB10 := Lib.hid (D0.out.trans (hb10.mono D0.out.size)); clear hb10))
            go_wp2_with fail
            go_roundw
            case rel => exact ⟨j + 1, by omega, by go_num, Lib.hid (HX.out.trans (HB10.out.mono HX.out.size))⟩
            case measure => simp [intOf]; omega
          · obtain rfl : j = objs0.length := by omega
            go_wp2
            go_ret
            exact ⟨rfl, HWX.out⟩

set_option maxRecDepth 100000 in
theorem lifted (os : Os) (started : os.Started) (H : Type) (enc : TypeId × Value → H) :
    ReturnsInHanded {} Try.checked os 3 .any (Rows.resolveTargetsSpec.pre6 enc Try.prog Try.f3 Rows.resolveTargetsRow.domain false) (Rows.resolveTargetsSpec.post enc Try.prog Try.f3 false true false false) := by
  refine returnsInHanded_of_change (C := Try.checked) own started (by kernel_rfl) Try.func3
    (ChangeSpec.witness6 (enc := enc) (C := Try.checked) false ⟨#[], #[.slice none 0 0], []⟩ 8 (by kernel_rfl) (by kernel_rfl) (by kernel_rfl) (by kernel_rfl)) ?_
  intro W base args ds gs before hval0 hW hcnd _
  have hval : ∀ (j : Nat) t v, Try.f3.params[j]? = some t → args[j]? = some v → Value.okWide Try.prog W .any base t v := hval0
  have hW' := hW
  obtain ⟨p, q, hA0, hV, rfl, hfz, hnd⟩ := hW
  have hA : DataW.TrodAll enc Try.prog W 0 (fun _ => true) true Try.f3.params.toList args.toList ds p := hA0
  rw [Try.params3] at hA hval
  obtain ⟨v0, vs0, d0, ds0, p0, q0, hargs, rfl, rfl, h0, r0⟩ := trodAll_cons hA
  obtain ⟨rfl, rfl, rfl⟩ := trodAll_nil r0
  obtain rfl : args = #[v0] := by cases args; simp_all
  obtain ⟨rfl, rfl⟩ := trodVars_none hV
  obtain ⟨objs0, ha0, hw0⟩ := RsO.open_objs (hval 0 22 v0 rfl rfl) h0
  clear hA0 hval0
  simp only [List.append_nil] at hW'
  refine (walk v0 objs0 W ha0 hw0).mono fun e W' ⟨he, hg⟩ => ?_
  subst he
  exact ⟨_, rfl, _, _, _, [], _, _, hW', (trodAll_cons_mk (shut_bool Try.underlying4 _) trodAll_mk0), (trodAll_cons_mk (OB.shut_any (by kernel_rfl) (by kernel_rfl) (by decide) h0 hg) trodAll_mk0), rfl, hg.frame _, fun h => by cases h⟩

theorem over : Rows.resolveTargetsRow.holds Try.pinned (OpenSpec.ofChange Rows.resolveTargetsSpec) :=
  OpenClaim.holds_of_wide 3 Try.f3 rfl rfl rfl rfl rfl rfl rfl ⟨rfl, rfl, rfl, rfl, rfl⟩ rfl rfl rfl rfl rfl (by kernel_rfl) Try.func3 (by kernel_rfl)
    (of_decide_eq_true (by kernel_rfl)) (by unfold Func.isWrapper; first | (rw [if_pos (by decide +kernel)]; kernel_rfl) | (rw [if_neg (by decide +kernel)]; exact ⟨rfl, rfl⟩))
    (fun os started H enc _ => lifted os started H enc)

/-- The statement. -/
theorem proved : Rows.ResolveTargetsSaid :=
  over
end Go.Proofs.Ytieehjkmfmkfjaa.resolveTargets
