/-
  Of any objects the law ResolveMeets returns true: a target bears the name, and is defined; of a symbol with a Sect it is itself; without an error nothing is needed.
  Conditions: none beyond those of the given statement.
-/
import Derived.Test.YtieehjkmfmkfjaaRows
import Derived.Test.YtieehjkmfmkfjaaResZ
import Derived.Test.YtieehjkmfmkfjaaResK
import Derived.Test.YtieehjkmfmkfjaaResA
import Derived.Test.YtieehjkmfmkfjaaResO
import Derived.Laws.StructEq
import Derived.BigQuiet
import Derived.BigRegion
import Derived.WalkKit
import Derived.ProofKit
import Derived.OpenShut
namespace Go.Proofs.Ytieehjkmfmkfjaa.resolveMeets
open Go.ChangeShapes Go.WideShapes Go.ChangeAt Go.RowKit
set_option linter.unusedVariables false
set_option linter.unusedSimpArgs false

theorem own : ownKnob Try.prog.godebug = none := by kernel_rfl
open OO OJ RsM RsF RsB RsT RsD RsQ RsY RsJ RsK RsZ RsV
theorem small_names {objs : List ObjV} (h : fewO objs = true) : ∀ o ∈ objs, ∀ s ∈ o.ss, s.name.size ≤ 1000000 := fun o ho s hs => by
  have := (OE.few_lim ((fewO_lim h).2 o ho)).2.2.2.2 s hs
  omega
theorem dn {B : Nat} {a w : World} {q : Nat} (h : Below B a w) : Below B a (w.drewN q) := ⟨h.os, h.tape, h.output, h.size, h.block⟩

set_option maxRecDepth 100000 in
set_option maxHeartbeats 8000000 in
theorem walk (v0 : Value) (objs0 : List OO.ObjV) (w : World) (ha0 : RsM.ObjsAt w.heap.size w v0 objs0) (hw0 : ∀ o ∈ objs0, o.Wf) :
    Calls Try.prog 6 #[v0] w fun e w' => e = .returned (.bool true) ∧ Below w.heap.size w w' := by
  have HO := Lib.hid ha0
  have HW := Lib.hid hw0
  have HM := Lib.hid (OB.Sl_len ha0)
  obtain ⟨p, c, rfl, -⟩ := ha0
  clear hw0
  cases hf : RsF.fewO objs0 with
  | false =>
    have HF := Lib.hid hf
    clear hf
    go_enter Try.func6, Try.ntmps6
    go_wp2_with (first
      | (go_at_call 10; (first
          | (with_reducible refine (RsA.awake_ _).mono ?_; rintro e w3 ⟨rfl, hb3⟩; have HB3 := Lib.hid (HB2.out.trans (hb3.mono HB2.out.size)); clear hb3)
          | (with_reducible refine (RsA.awake_ _).mono ?_; rintro e w1 ⟨rfl, hb1⟩; have HB1 := Lib.hid hb1; clear hb1)))
      | (go_at_call 11; (with_reducible refine (RsF.fewO_ HB1.out.size (ObjsAt.same HO.out (Same.of HB1.out (Nat.le_refl _))) HW.out HM.out).mono ?_); rintro e w2 ⟨rfl, hb2⟩; have HB2 := Lib.hid (HB1.out.trans (hb2.mono HB1.out.size)); rw [HF.out]; clear hb2))
    go_ret
    exact ⟨rfl, HB3.out⟩
  | true =>
    have HF := Lib.hid hf
    obtain ⟨hm12, hms, hN⟩ := few_flat hf
    have HSN := Lib.hid (small_names hf)
    have HMS := Lib.hid hms
    have HRC := Lib.hid (code_cases objs0)
    have HOK := Lib.hid (fun (h : resCode objs0 = 0) => (⟨needs_ok h, tgL_ok h, fun i o ho => row_ok h (i := i) (o := o) ho⟩ : _ ∧ _ ∧ _))
    have HN3 := Lib.hid (fun (h : resCode objs0 = 3) => List.length_pos_iff.2 (needs_none h))
    have HNO := Lib.hid (fun (h : resCode objs0 ≠ 0) => tgL_ne h)
    clear hf hms
    go_enter Try.func6, Try.ntmps6
    go_upto_region 3 with (first
      | (go_at_call 10; with_reducible refine (RsA.awake_ _).mono ?_; rintro e w1 ⟨rfl, hb1⟩; have HB1 := Lib.hid hb1; clear hb1)
      | (go_at_call 11; (with_reducible refine (RsF.fewO_ HB1.out.size (ObjsAt.same HO.out (Same.of HB1.out (Nat.le_refl _))) HW.out HM.out).mono ?_); rintro e w2 ⟨rfl, hb2⟩; have HB2 := Lib.hid (HB1.out.trans (hb2.mono HB1.out.size)); rw [HF.out]; clear hb2))
    have cr1 := res_ (w := w2) (n₀ := w.heap.size) HB2.out.size (ObjsAt.same HO.out (Same.of HB2.out (Nat.le_refl _))) HW.out (by omega) HMS.out hN
    have hs2 := HB2.out.size
    go_upto_region 4 with (go_at_call 13; (with_reducible refine cr1.mono ?_); rintro e w6 ⟨p1, c1, i1, k1, rfl, ht1, hb6⟩; have HT1 := Lib.hid ht1; have HB6 := Lib.hid (HB2.out.trans (hb6.mono hs2)); clear ht1 hb6 cr1)
    have h6z := HB6.out.size
    have hb7 : Below w.heap.size w (w6.alloc (.cells #[.int .i64 i1, .int .i64 k1] TT)) := HB6.out.alloc h6z _
    have ht7 := tgts_below HT1.out (W' := w6.alloc (.cells #[.int .i64 i1, .int .i64 k1] TT)) ((Below.refl _ _).alloc (Nat.le_refl _) _)
    have cn := Needs_ (w := w6.alloc (.cells #[.int .i64 i1, .int .i64 k1] TT)) (n₀ := w.heap.size) hb7.size (ObjsAt.same HO.out (Same.of hb7 (Nat.le_refl _))) HW.out (by omega) HMS.out hN HSN.out
    unfold NRes at cn
    have HB7 := Lib.hid hb7
    have HT7 := Lib.hid ht7
    have h7z := hb7.size
    clear hb7 ht7 HT1 HB6 HB1 HB2
    generalize w6.alloc (.cells #[.int .i64 i1, .int .i64 k1] TT) = w7 at *
    by_cases hz : resCode objs0 = 0
    · obtain ⟨hn0, htl, hrow⟩ := HOK.out hz
      rw [hn0] at cn
      rw [hz]
      simp only [List.length_nil] at cn
      have HROW := Lib.hid hrow
      clear HOK HN3 HNO HRC hn0 hrow
      generalize tgL objs0 = L at *
      have htl1 : L.length ≤ objs0.length := Nat.le_of_eq htl
      have htl2 : objs0.length ≤ L.length := Nat.le_of_eq htl.symm
      go_wp2_with (go_at_call 19; (with_reducible refine cn.mono ?_); rintro e w8 ⟨pn, cn', rfl, -, hb8⟩; have HB8 := Lib.hid hb8; clear hb8)
      have h8z := HB8.out.size
      have HT8 := Lib.hid (tgts_below HT7.out HB8.out)
      have HB78 := Lib.hid (HB7.out.trans (HB8.out.mono h7z))
      clear HT7 htl cn HB7 HB8
      go_loopw [54] (fun i wr => ∃ k : Nat, k ≤ objs0.length ∧ i = .int .i64 k ∧ Hid (Below w8.heap.size w8 wr)) (fun i _ => objs0.length - (intOf i).toNat)
      case atStart => exact ⟨0, Nat.zero_le _, rfl, Lib.hid (Below.refl _ _)⟩
      case round =>
        obtain ⟨k, hk, rfl, HBR⟩ := hrel
        by_cases hlt : k < objs0.length
        · obtain ⟨r, hr, hrl, hsym⟩ := HROW.out k _ (List.getElem?_eq_getElem hlt)
          obtain ⟨p', c', hv, hh⟩ := HT8.out
          cases hv
          obtain ⟨b1, o1, rfl, hb1, hcap1, -, hall1⟩ := hh (by omega)
          obtain ⟨rv, cv, hrowv⟩ := hall1 k r hr
          obtain ⟨pr, cr, rfl, hrr⟩ := hrowv
          obtain ⟨p'', c'', hv2, hh2⟩ := HO.out
          cases hv2
          obtain ⟨b, o, rfl, hb, hcapo, -, hallo⟩ := hh2 (by omega)
          obtain ⟨v0, v1, v2, v3, e0, e1, e2, e3, hoa⟩ := hallo k _ (List.getElem?_eq_getElem hlt)
          obtain ⟨p0, q0, rfl, -⟩ := hoa.ws
          obtain ⟨pd, q1, rfl, -⟩ := hoa.ds
          obtain ⟨p2, q2, rfl, hss⟩ := hoa.ss
          obtain ⟨p3, q3, rfl, -⟩ := hoa.rs
          have hbr := HBR.out.size
          have hwr : Below w.heap.size w wr := HB78.out.trans (HBR.out.mono (by have := HB78.out.size; omega))
          have hbz := hwr.size
          have k0 := (hwr.cell (p := ⟨b, o + k * 4, none⟩) hb).trans e0
          have k1 := (hwr.cell (p := ⟨b, o + k * 4 + 1, none⟩) hb).trans e1
          have k2 := (hwr.cell (p := ⟨b, o + k * 4 + 2, none⟩) hb).trans e2
          have k3 := (hwr.cell (p := ⟨b, o + k * 4 + 3, none⟩) hb).trans e3
          have ar := (HBR.out.cell (p := ⟨b1, o1 + k, none⟩) hb1).trans cv
          have hsl := OB.Sl_len hoa.ss
          have hneq : ((r.length : Int) != (objs0[k].ss.length : Int)) = false := by rw [hrl]; simp
          have hr1 : r.length ≤ objs0[k].ss.length := Nat.le_of_eq hrl
          have hr2 : objs0[k].ss.length ≤ r.length := Nat.le_of_eq hrl.symm
          have HSY := Lib.hid hsym
          have HSS := Lib.hid hss
          have HRR := Lib.hid hrr
          have HAO := Lib.hid hallo
          unfold maxLen at hsl
          have hcv0 := cv
          clear hh hh2 hall1 hallo hoa hss hrr hsym hrl e0 e1 e2 e3 cv hr
          generalize objs0[k] = O at *
          go_upto_region 11 with fail
          have hba := HBR.out.alloc hbr (.cells #[.slice p0 O.ws.length q0, .slice pd O.ds.length q1, .slice p2 O.ss.length q2, .slice p3 O.rs.length q3] 30)
          have aa := (World.cell?_alloc_lt (w := wr) (a := ⟨b1, o1 + k, none⟩) (o := .cells #[.slice p0 O.ws.length q0, .slice pd O.ds.length q1, .slice p2 O.ss.length q2, .slice p3 O.rs.length q3] 30) (by show b1 < _; omega)).trans ar
          have ac := Lib.cell_of_heap (heap_alloc_new wr (.cells #[.slice p0 O.ws.length q0, .slice pd O.ds.length q1, .slice p2 O.ss.length q2, .slice p3 O.rs.length q3] 30)) 2
          simp only [List.getElem?_toArray, List.getElem?_cons_zero, List.getElem?_cons_succ] at ac
          have HBA := Lib.hid hba
          clear hba ar k0 k1 k2 k3 hwr HBR
          generalize wr.alloc (.cells #[.slice p0 O.ws.length q0, .slice pd O.ds.length q1, .slice p2 O.ss.length q2, .slice p3 O.rs.length q3] 30) = wa at *
          go_quiet (fail)
          go_wp2_with fail
          have HBN := Lib.hid (dn (q := nq) HBA.out)
          have HCV := Lib.hid hcv0
          clear ac aa HBA hcv0
          go_loopw [71] (fun i wq => ∃ q : Nat, q ≤ O.ss.length ∧ i = .int .i64 q ∧ Hid (Below w8.heap.size w8 wq)) (fun i _ => O.ss.length - (intOf i).toNat)
          case atStart => exact ⟨0, Nat.zero_le _, rfl, HBN⟩
          case round =>
            obtain ⟨q, hq, rfl, HBQ⟩ := hrel
            by_cases hql : q < O.ss.length
            · obtain ⟨ti, tk, o', d, hrq, hot, hdt, hnm, hdz, hdg, hself⟩ := HSY.out q _ (List.getElem?_eq_getElem hql)
              obtain ⟨b2, o2, rfl, hb2, hc2, -, hs2'⟩ := HSS.out (by omega)
              obtain ⟨b3, o3, rfl, hb3, hc3, -, ht3⟩ := HRR.out (by omega)
              obtain ⟨g0, g1⟩ := ht3 q _ hrq
              obtain ⟨f0, f1, f2, f3, f4⟩ := hs2' q _ (List.getElem?_eq_getElem hql)
              have hti : ti < objs0.length := (List.getElem?_eq_some_iff.1 hot).1
              have htk : tk < o'.ss.length := (List.getElem?_eq_some_iff.1 hdt).1
              obtain ⟨x0, x1, x2, x3, y0, y1, y2, y3, hoa'⟩ := HAO.out ti o' hot
              obtain ⟨p5, q5, rfl, hss'⟩ := hoa'.ss
              have hsl' := OB.Sl_len hoa'.ss
              unfold maxLen at hsl'
              obtain ⟨b4, o4, rfl, hb4, hc4, -, hs4⟩ := hss' (by omega)
              obtain ⟨d0, d1, d2, d3, d4⟩ := hs4 tk d hdt
              have hqz := HBQ.out.size
              have hwq : Below w.heap.size w wr := HB78.out.trans (HBQ.out.mono (by have := HB78.out.size; omega))
              have hbq := hwq.size
              have z0 := (hwq.cell (p := ⟨b2, o2 + q * 5, none⟩) hb2).trans f0
              have z1 := (hwq.cell (p := ⟨b2, o2 + q * 5 + 1, none⟩) hb2).trans f1
              have z2 := (hwq.cell (p := ⟨b2, o2 + q * 5 + 2, none⟩) hb2).trans f2
              have z3 := (hwq.cell (p := ⟨b2, o2 + q * 5 + 3, none⟩) hb2).trans f3
              have z4 := (hwq.cell (p := ⟨b2, o2 + q * 5 + 4, none⟩) hb2).trans f4
              have z5 := (HBQ.out.cell (p := ⟨b1, o1 + k, none⟩) hb1).trans HCV.out
              have z6 := (HBQ.out.cell (p := ⟨b3, o3 + q * 2, none⟩) hb3).trans g0
              have z7 := (HBQ.out.cell (p := ⟨b3, o3 + q * 2 + 1, none⟩) hb3).trans g1
              simp only at z6 z7
              have HX := Lib.hid (⟨hwq.cell (p := ⟨b, o + ti * 4 + 2, none⟩) hb |>.trans y2, hwq.cell (p := ⟨b4, o4 + tk * 5, none⟩) hb4 |>.trans d0, hwq.cell (p := ⟨b4, o4 + tk * 5 + 1, none⟩) hb4 |>.trans d1, hwq.cell (p := ⟨b4, o4 + tk * 5 + 2, none⟩) hb4 |>.trans d2, hwq.cell (p := ⟨b4, o4 + tk * 5 + 3, none⟩) hb4 |>.trans d3, hwq.cell (p := ⟨b4, o4 + tk * 5 + 4, none⟩) hb4 |>.trans d4⟩ : _ ∧ _ ∧ _ ∧ _ ∧ _ ∧ _)
              rw [hnm] at HX
              have HSELF := Lib.hid hself
              have HDG := Lib.hid hdg
              have HDZ := Lib.hid hdz
              clear hs2' ht3 hs4 hss' hoa' g0 g1 f0 f1 f2 f3 f4 d0 d1 d2 d3 d4 y0 y1 y2 y3 hrq hot hdt hnm hdg hself hwq hdz
              have hn5 : o'.ss.length ≤ q5 := hc4
              generalize O.ss[q] = s at *
              generalize o'.ss.length = n5 at *
              have w2b : Below w8.heap.size w8 ((wr.alloc (.cells #[.string s.name, .int .i64 s.sect, .int .i64 s.val, .int .i64 s.frame, .bool s.glob] 52)).alloc (.cells #[.int .i64 (ti : Int), .int .i64 (tk : Int)] TT)) := (HBQ.out.alloc hqz _).alloc (by simp only [World.size_alloc]; omega) _
              have z5' := (World.cell?_alloc_lt (w := wr) (a := ⟨b1, o1 + k, none⟩) (o := .cells #[.string s.name, .int .i64 s.sect, .int .i64 s.val, .int .i64 s.frame, .bool s.glob] 52) (by show b1 < _; omega)).trans z5
              have z6' := (World.cell?_alloc_lt (w := wr) (a := ⟨b3, o3 + q * 2, none⟩) (o := .cells #[.string s.name, .int .i64 s.sect, .int .i64 s.val, .int .i64 s.frame, .bool s.glob] 52) (by show b3 < _; omega)).trans z6
              have z7' := (World.cell?_alloc_lt (w := wr) (a := ⟨b3, o3 + q * 2 + 1, none⟩) (o := .cells #[.string s.name, .int .i64 s.sect, .int .i64 s.val, .int .i64 s.frame, .bool s.glob] 52) (by show b3 < _; omega)).trans z7
              go_upto_region 17 with fail
              have s2 := fun (bb oo : Nat) (v : Value) (hlt2 : bb < wr.heap.size) (h : wr.cell? ⟨bb, oo, none⟩ = some v) => ((World.cell?_alloc_lt (w := wr.alloc (.cells #[.string s.name, .int .i64 s.sect, .int .i64 s.val, .int .i64 s.frame, .bool s.glob] 52)) (a := ⟨bb, oo, none⟩) (o := .cells #[.int .i64 (ti : Int), .int .i64 (tk : Int)] TT) (by show bb < _; simp only [World.size_alloc]; omega)).trans ((World.cell?_alloc_lt (w := wr) (a := ⟨bb, oo, none⟩) (o := .cells #[.string s.name, .int .i64 s.sect, .int .i64 s.val, .int .i64 s.frame, .bool s.glob] 52) hlt2).trans h) : ((wr.alloc (.cells #[.string s.name, .int .i64 s.sect, .int .i64 s.val, .int .i64 s.frame, .bool s.glob] 52)).alloc (.cells #[.int .i64 (ti : Int), .int .i64 (tk : Int)] TT)).cell? ⟨bb, oo, none⟩ = some v)
              have hbl : b < wr.heap.size := by omega
              have hbl4 : b4 < wr.heap.size := by omega
              obtain ⟨hx0, hx1, hx2, hx3, hx4, hx5⟩ := HX.out
              have u0 := s2 _ _ _ hbl hx0
              have u1 := s2 _ _ _ hbl4 hx1
              have u2 := s2 _ _ _ hbl4 hx2
              have u3 := s2 _ _ _ hbl4 hx3
              have u4 := s2 _ _ _ hbl4 hx4
              have u5 := s2 _ _ _ hbl4 hx5
              have hh1 : ((wr.alloc (.cells #[.string s.name, .int .i64 s.sect, .int .i64 s.val, .int .i64 s.frame, .bool s.glob] 52)).alloc (.cells #[.int .i64 (ti : Int), .int .i64 (tk : Int)] TT)).heap[wr.heap.size]? = some (.cells #[.string s.name, .int .i64 s.sect, .int .i64 s.val, .int .i64 s.frame, .bool s.glob] 52 (0, 0)) := (Lib.alloc_old _ _ _ (by simp)).trans (heap_alloc_new wr _)
              have hh2 : ((wr.alloc (.cells #[.string s.name, .int .i64 s.sect, .int .i64 s.val, .int .i64 s.frame, .bool s.glob] 52)).alloc (.cells #[.int .i64 (ti : Int), .int .i64 (tk : Int)] TT)).heap[wr.heap.size + 1]? = some (.cells #[.int .i64 (ti : Int), .int .i64 (tk : Int)] TT (0, 0)) := by have := heap_alloc_new (wr.alloc (.cells #[.string s.name, .int .i64 s.sect, .int .i64 s.val, .int .i64 s.frame, .bool s.glob] 52)) (.cells #[.int .i64 (ti : Int), .int .i64 (tk : Int)] TT); rwa [World.size_alloc] at this
              have v0 := Lib.cell_of_heap hh1 0
              have v1 := Lib.cell_of_heap hh1 1
              have v2 := Lib.cell_of_heap hh2 0
              have v3 := Lib.cell_of_heap hh2 1
              simp only [List.getElem?_toArray, List.getElem?_cons_zero, List.getElem?_cons_succ] at v0 v1 v2 v3
              have hsz2 : wr.heap.size + 2 ≤ ((wr.alloc (.cells #[.string s.name, .int .i64 s.sect, .int .i64 s.val, .int .i64 s.frame, .bool s.glob] 52)).alloc (.cells #[.int .i64 (ti : Int), .int .i64 (tk : Int)] TT)).heap.size := by simp
              have HB2' := Lib.hid w2b
              clear s2 hx0 hx1 hx2 hx3 hx4 hx5 hh1 hh2 w2b z0 z1 z2 z3 z4 z5 z6 z7 z5' z6' z7' HX
              generalize (wr.alloc (.cells #[.string s.name, .int .i64 s.sect, .int .i64 s.val, .int .i64 s.frame, .bool s.glob] 52)).alloc (.cells #[.int .i64 (ti : Int), .int .i64 (tk : Int)] TT) = W2 at *
              go_quiet (fail)
              go_wp2_with fail
              have HBD := Lib.hid (dn (q := nq) HB2'.out)
              have hsz3 : wr.heap.size + 2 ≤ (W2.drewN nq).heap.size := hsz2
              have u0 := (show (W2.drewN nq).cell? _ = _ from u0)
              have u1 := (show (W2.drewN nq).cell? _ = _ from u1)
              have u2 := (show (W2.drewN nq).cell? _ = _ from u2)
              have u3 := (show (W2.drewN nq).cell? _ = _ from u3)
              have u4 := (show (W2.drewN nq).cell? _ = _ from u4)
              have u5 := (show (W2.drewN nq).cell? _ = _ from u5)
              have v0 := (show (W2.drewN nq).cell? _ = _ from v0)
              have v1 := (show (W2.drewN nq).cell? _ = _ from v1)
              have v2 := (show (W2.drewN nq).cell? _ = _ from v2)
              have v3 := (show (W2.drewN nq).cell? _ = _ from v3)
              clear HB2' hsz2
              generalize W2.drewN nq = W3 at *
              have hl1 : b < W3.heap.size := by omega
              have hl2 : b4 < W3.heap.size := by omega
              have hl3 : wr.heap.size < W3.heap.size := by omega
              have hl4 : wr.heap.size + 1 < W3.heap.size := by omega
              go_region
              have r0 := (show ((W3.alloc (.cells #[.string s.name, .int .i64 d.sect, .int .i64 d.val, .int .i64 d.frame, .bool d.glob] 52)).drew).cell? ⟨wr.heap.size, 0, none⟩ = _ from (World.cell?_alloc_lt (w := W3) (a := ⟨wr.heap.size, 0, none⟩) (o := .cells #[.string s.name, .int .i64 d.sect, .int .i64 d.val, .int .i64 d.frame, .bool d.glob] 52) (by show _ < W3.heap.size; omega)).trans v0)
              have r1 := (show ((W3.alloc (.cells #[.string s.name, .int .i64 d.sect, .int .i64 d.val, .int .i64 d.frame, .bool d.glob] 52)).drew).cell? ⟨wr.heap.size, 1, none⟩ = _ from (World.cell?_alloc_lt (w := W3) (a := ⟨wr.heap.size, 1, none⟩) (o := .cells #[.string s.name, .int .i64 d.sect, .int .i64 d.val, .int .i64 d.frame, .bool d.glob] 52) (by show _ < W3.heap.size; omega)).trans v1)
              have r2 := (show ((W3.alloc (.cells #[.string s.name, .int .i64 d.sect, .int .i64 d.val, .int .i64 d.frame, .bool d.glob] 52)).drew).cell? ⟨wr.heap.size + 1, 0, none⟩ = _ from (World.cell?_alloc_lt (w := W3) (a := ⟨wr.heap.size + 1, 0, none⟩) (o := .cells #[.string s.name, .int .i64 d.sect, .int .i64 d.val, .int .i64 d.frame, .bool d.glob] 52) (by show _ < W3.heap.size; omega)).trans v2)
              have r3 := (show ((W3.alloc (.cells #[.string s.name, .int .i64 d.sect, .int .i64 d.val, .int .i64 d.frame, .bool d.glob] 52)).drew).cell? ⟨wr.heap.size + 1, 1, none⟩ = _ from (World.cell?_alloc_lt (w := W3) (a := ⟨wr.heap.size + 1, 1, none⟩) (o := .cells #[.string s.name, .int .i64 d.sect, .int .i64 d.val, .int .i64 d.frame, .bool d.glob] 52) (by show _ < W3.heap.size; omega)).trans v3)
              have hh3 : ((W3.alloc (.cells #[.string s.name, .int .i64 d.sect, .int .i64 d.val, .int .i64 d.frame, .bool d.glob] 52)).drew).heap[W3.heap.size]? = some (.cells #[.string s.name, .int .i64 d.sect, .int .i64 d.val, .int .i64 d.frame, .bool d.glob] 52 (0, 0)) := heap_alloc_new W3 _
              have r4 := Lib.cell_of_heap hh3 0
              have r5 := Lib.cell_of_heap hh3 1
              have r6 := Lib.cell_of_heap hh3 4
              simp only [List.getElem?_toArray, List.getElem?_cons_zero, List.getElem?_cons_succ] at r4 r5 r6
              have HBE := Lib.hid ((HBD.out.alloc (by omega) (.cells #[.string s.name, .int .i64 d.sect, .int .i64 d.val, .int .i64 d.frame, .bool d.glob] 52)).drew)
              clear hh3 u0 u1 u2 u3 u4 u5 v0 v1 v2 v3 HBD
              generalize (W3.alloc (.cells #[.string s.name, .int .i64 d.sect, .int .i64 d.val, .int .i64 d.frame, .bool d.glob] 52)).drew = W4 at *
              by_cases hs0 : s.sect = 0
              · have hg := HDG.out hs0
                rw [hs0] at r1
                rw [hg] at r6
                have hdz := HDZ.out
                have e1 : (d.sect == 0) = false := by simpa using hdz
                go_wp2_with fail
                exact ⟨⟨q + 1, by omega, by go_num, HBE⟩, by simp [intOf]; omega⟩
              · obtain ⟨rfl, rfl⟩ := HSELF.out hs0
                have hdz := HDZ.out
                have e1 : (d.sect == 0) = false := by simpa using hdz
                have e2 : (s.sect == 0) = false := by simpa using hs0
                have e3 : (s.sect != 0) = true := by simpa using hs0
                go_wp2_with fail
                exact ⟨⟨tk + 1, by omega, by go_num, HBE⟩, by simp [intOf]; omega⟩
            · obtain rfl : q = O.ss.length := by omega
              go_wp2
              first
                | exact ⟨⟨k + 1, by omega, by go_num, HBQ⟩, by simp [intOf]; omega⟩
                | (refine ⟨?_, ?_⟩
                   · repeat' apply Exists.intro
                     refine ⟨?_, rfl⟩
                     exact ⟨k + 1, by omega, by go_num, HBQ⟩
                   · simp [intOf]; omega)
        · obtain rfl : k = objs0.length := by omega
          go_wp2
          go_ret
          exact ⟨rfl, HB78.out.trans (HBR.out.mono (by have := HB78.out.size; omega))⟩
    · have htl := HNO.out hz
      rw [htl]
      simp only [List.length_nil]
      by_cases h3 : resCode objs0 = 3
      · have hnl := HN3.out h3
        rw [h3]
        generalize needsL objs0 = ks at *
        go_wp2_with (go_at_call 19; (with_reducible refine cn.mono ?_); rintro e w8 ⟨pn, cn', rfl, -, hb8⟩; have HB8 := Lib.hid hb8; clear hb8)
        go_ret
        exact ⟨by simp, HB7.out.trans (HB8.out.mono h7z)⟩
      · have hrc := HRC.out
        generalize resCode objs0 = rc at *
        clear cn
        go_wp2
        go_ret
        exact ⟨by simp, HB7.out⟩

set_option maxRecDepth 100000 in
theorem lifted (os : Os) (started : os.Started) (H : Type) (enc : TypeId × Value → H) :
    ReturnsInHanded {} Try.checked os 6 .any (Rows.resolveMeetsSpec.pre6 enc Try.prog Try.f6 Rows.resolveMeetsRow.domain false) (Rows.resolveMeetsSpec.post enc Try.prog Try.f6 false true false false) := by
  refine returnsInHanded_of_change (C := Try.checked) own started (by kernel_rfl) Try.func6
    (ChangeSpec.witness6 (enc := enc) (C := Try.checked) false ⟨#[], #[.slice none 0 0], []⟩ 8 (by kernel_rfl) (by kernel_rfl) (by kernel_rfl) (by kernel_rfl)) ?_
  intro W base args ds gs before hval0 hW hcnd _
  have hval : ∀ (j : Nat) t v, Try.f6.params[j]? = some t → args[j]? = some v → Value.okWide Try.prog W .any base t v := hval0
  have hW' := hW
  obtain ⟨p, q, hA0, hV, rfl, hfz, hnd⟩ := hW
  have hA : DataW.TrodAll enc Try.prog W 0 (fun _ => true) true Try.f6.params.toList args.toList ds p := hA0
  rw [Try.params6] at hA hval
  obtain ⟨v0, vs0, d0, ds0, p0, q0, hargs, rfl, rfl, h0, r0⟩ := trodAll_cons hA
  obtain ⟨rfl, rfl, rfl⟩ := trodAll_nil r0
  obtain rfl : args = #[v0] := by cases args; simp_all
  obtain ⟨rfl, rfl⟩ := trodVars_none hV
  obtain ⟨objs0, ha0, hw0⟩ := RsO.open_objs (hval 0 22 v0 rfl rfl) h0
  clear hA0 hval0
  simp only [List.append_nil] at hW'
  refine (walk v0 objs0 W ha0 hw0).mono fun e W' ⟨he, hg⟩ => ?_
  subst he
  exact ⟨_, rfl, _, _, _, [], _, _, hW', (trodAll_cons_mk (shut_bool Try.underlying4 _) trodAll_mk0), (trodAll_cons_mk (OB.shut_any (by kernel_rfl) (by kernel_rfl) (by decide) h0 hg) trodAll_mk0), rfl, hg.frame _, fun h => by cases h⟩

theorem over : Rows.resolveMeetsRow.holds Try.pinned (OpenSpec.ofChange Rows.resolveMeetsSpec) :=
  OpenClaim.holds_of_wide 6 Try.f6 rfl rfl rfl rfl rfl rfl rfl ⟨rfl, rfl, rfl, rfl, rfl⟩ rfl rfl rfl rfl rfl (by kernel_rfl) Try.func6 (by kernel_rfl)
    (of_decide_eq_true (by kernel_rfl)) (by unfold Func.isWrapper; first | (rw [if_pos (by decide +kernel)]; kernel_rfl) | (rw [if_neg (by decide +kernel)]; exact ⟨rfl, rfl⟩))
    (fun os started H enc _ => lifted os started H enc)

/-- The statement. -/
theorem proved : Rows.ResolveMeetsSaid :=
  over
end Go.Proofs.Ytieehjkmfmkfjaa.resolveMeets
