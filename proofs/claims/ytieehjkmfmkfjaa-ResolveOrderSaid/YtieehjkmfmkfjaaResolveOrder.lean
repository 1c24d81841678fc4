/-
  Of any objects the law ResolveOrder returns true: objects the other way round are resolved just if they are so; else the error is the same; each target is the same symbol.
  Conditions: none beyond those of the given statement.
-/
import Derived.Test.YtieehjkmfmkfjaaRows
import Derived.Test.YtieehjkmfmkfjaaResB
import Derived.Test.YtieehjkmfmkfjaaResA
import Derived.Test.YtieehjkmfmkfjaaResO
import Derived.Laws.StructEq
import Derived.BigQuiet
import Derived.WalkKit
import Derived.ProofKit
import Derived.OpenShut
namespace Go.Proofs.Ytieehjkmfmkfjaa.resolveOrder
open Go.ChangeShapes Go.WideShapes Go.ChangeAt Go.RowKit
set_option linter.unusedVariables false
set_option linter.unusedSimpArgs false

theorem own : ownKnob Try.prog.godebug = none := by kernel_rfl
open OO OJ RsM RsF RsB RsT RsD RsQ
theorem infoO : (Try.prog.info? 22).map (fun i => (i.zero, i.size, i.bytes)) = some (some (.slice none 0 0), 1, 24) := by kernel_rfl
theorem infoE : (Try.prog.info? 30).map (fun i => (i.zero, i.size, i.bytes)) = some (some (.agg #[.slice none 0 0, .slice none 0 0, .slice none 0 0, .slice none 0 0]), 4, 96) := by kernel_rfl
theorem put4 {W : World} {G a : Nat} {cur : Array Value} {T : TypeId} {v0 v1 v2 v3 : Value} (h : W.heap[G]? = some (.cells cur T (0, 0))) : ((((W.setCell ⟨G, a, none⟩ v0).setCell ⟨G, a + 1, none⟩ v1).setCell ⟨G, a + 2, none⟩ v2).setCell ⟨G, a + 3, none⟩ v3).heap[G]? = some (.cells ((((cur.setIfInBounds a v0).setIfInBounds (a + 1) v1).setIfInBounds (a + 2) v2).setIfInBounds (a + 3) v3) T (0, 0)) :=
  RsV.hset (RsV.hset (RsV.hset (RsV.hset h v0) v1) v2) v3
theorem put4_same {a q : Nat} {cur : Array Value} {v0 v1 v2 v3 : Value} (h : a + 3 < cur.size) (hq : q < 4) : ((((cur.setIfInBounds a v0).setIfInBounds (a + 1) v1).setIfInBounds (a + 2) v2).setIfInBounds (a + 3) v3)[a + q]? = [v0, v1, v2, v3][q]? := by
  match q, hq with
  | 0, _ => simp [Array.getElem?_setIfInBounds]; omega
  | 1, _ => simp [Array.getElem?_setIfInBounds]; omega
  | 2, _ => simp [Array.getElem?_setIfInBounds]; omega
  | 3, _ => simp [Array.getElem?_setIfInBounds]; omega
theorem put4_other {a i : Nat} {cur : Array Value} {v0 v1 v2 v3 : Value} (h : a + 4 ≤ i) : ((((cur.setIfInBounds a v0).setIfInBounds (a + 1) v1).setIfInBounds (a + 2) v2).setIfInBounds (a + 3) v3)[i]? = cur[i]? := by
  rw [Array.getElem?_setIfInBounds_ne (by omega), Array.getElem?_setIfInBounds_ne (by omega), Array.getElem?_setIfInBounds_ne (by omega), Array.getElem?_setIfInBounds_ne (by omega)]

set_option maxRecDepth 100000 in
set_option maxHeartbeats 8000000 in
theorem walk (v0 : Value) (objs0 : List OO.ObjV) (w : World) (ha0 : RsM.ObjsAt w.heap.size w v0 objs0) (hw0 : ∀ o ∈ objs0, o.Wf) :
    Calls Try.prog 5 #[v0] w fun e w' => e = .returned (.bool true) ∧ Below w.heap.size w w' := by
  have HO := Lib.hid ha0
  have HW := Lib.hid hw0
  have HM := Lib.hid (OB.Sl_len ha0)
  obtain ⟨p, c, rfl, -⟩ := ha0
  clear hw0
  cases hf : RsF.fewO objs0 with
  | false =>
    have HF := Lib.hid hf
    clear hf
    go_enter Try.func5, Try.ntmps5
    go_wp2_with (first
      | (go_at_call 10; (first
          | (with_reducible refine (RsA.awake_ _).mono ?_; rintro e w3 ⟨rfl, hb3⟩; have HB3 := Lib.hid (HB2.out.trans (hb3.mono HB2.out.size)); clear hb3)
          | (with_reducible refine (RsA.awake_ _).mono ?_; rintro e w1 ⟨rfl, hb1⟩; have HB1 := Lib.hid hb1; clear hb1)))
      | (go_at_call 11; (with_reducible refine (RsF.fewO_ HB1.out.size (ObjsAt.same HO.out (Same.of HB1.out (Nat.le_refl _))) HW.out HM.out).mono ?_); rintro e w2 ⟨rfl, hb2⟩; have HB2 := Lib.hid (HB1.out.trans (hb2.mono HB1.out.size)); rw [HF.out]; clear hb2))
    go_ret
    exact ⟨rfl, HB3.out⟩
  | true =>
    have HF := Lib.hid hf
    obtain ⟨hm12, hms, hN⟩ := few_flat hf
    have HMS := Lib.hid hms
    clear hf hms
    obtain ⟨i0, hi, hz0, hz1, hz2⟩ := info_parts infoE
    go_enter Try.func5, Try.ntmps5
    go_wp2_with (first
      | (go_at_call 10; with_reducible refine (RsA.awake_ _).mono ?_; rintro e w1 ⟨rfl, hb1⟩; have HB1 := Lib.hid hb1; clear hb1)
      | (go_at_call 11; (with_reducible refine (RsF.fewO_ HB1.out.size (ObjsAt.same HO.out (Same.of HB1.out (Nat.le_refl _))) HW.out HM.out).mono ?_); rintro e w2 ⟨rfl, hb2⟩; have HB2 := Lib.hid (HB1.out.trans (hb2.mono HB1.out.size)); rw [HF.out]; clear hb2)
      | (at_make; refine wpList_make_full _ rfl _ _ 22 rfl (w2.heap.size) 30 i0 (.agg #[.slice none 0 0, .slice none 0 0, .slice none 0 0, .slice none 0 0]) 4 Try.underlying22 hi hz0 hz1 .i64 .i64 (objs0.length : Int) (objs0.length : Int) objs0.length rfl rfl rfl rfl (by rw [hz2]; omega) (by unfold maxLen; omega) (by simp) ?_; intro w5 hout hg5; have HOUT := Lib.hid hout; have HG5 := Lib.hid hg5; clear hout hg5))
    obtain ⟨cur0, hg0, hsz0⟩ : ∃ cur0, w5.heap[w2.heap.size]? = some (.cells cur0 30 (0, 0)) ∧ cur0.size = objs0.length * 4 := by
      rcases HOUT.out.2 with ⟨e, -⟩ | ⟨g, cap, cur, e, -, hg, -, -, hcs, -⟩
      · simp at e
      · simp only [Value.slice.injEq, Option.some.injEq, Addr.mk.injEq, and_true, true_and] at e
        obtain ⟨rfl, rfl⟩ := e
        exact ⟨cur, hg, hcs⟩
    have hb5 : Below w.heap.size w w5 := HB2.out.grown HG5.out HB2.out.size (fun k hk => by cases hk)
    have hs2 := HB2.out.size
    have HB5 := Lib.hid hb5
    have HG0 := Lib.hid hg0
    have HZ0 := Lib.hid hsz0
    clear hb5 hg0 hsz0 HOUT HG5 HB1
    go_loopw [29] (fun i wr => ∃ k : Nat, k ≤ objs0.length ∧ i = .int .i64 k ∧ Hid (Below w.heap.size w wr) ∧ ∃ cur, Hid (wr.heap[w2.heap.size]? = some (.cells cur 30 (0, 0))) ∧ Hid (cur.size = objs0.length * 4) ∧ Hid (∀ j, j < k → ∀ q, q < 4 → cur[(objs0.length - 1 - j) * 4 + q]? = srcOf w p j q)) (fun i _ => objs0.length - (intOf i).toNat)
    case atStart => exact ⟨0, Nat.zero_le _, rfl, HB5, cur0, HG0, HZ0, Lib.hid (fun j hj => absurd hj (by omega))⟩
    case round =>
      obtain ⟨k, hk, rfl, HBL, cur, HG, HZ, HC⟩ := hrel
      by_cases hlt : k < objs0.length
      · obtain ⟨p', c', hv, hh⟩ := HO.out
        cases hv
        obtain ⟨b, o, rfl, hb, -, -, hall⟩ := hh (by omega)
        obtain ⟨v0, v1, v2, v3, c0, c1, c2, c3, hoa⟩ := hall k _ (List.getElem?_eq_getElem hlt)
        obtain ⟨p0, q0, rfl, -⟩ := hoa.ws
        obtain ⟨p1, q1, rfl, -⟩ := hoa.ds
        obtain ⟨p2, q2, rfl, -⟩ := hoa.ss
        obtain ⟨p3, q3, rfl, -⟩ := hoa.rs
        have CS := Lib.hid (⟨c0, c1, c2, c3⟩ : _ ∧ _ ∧ _ ∧ _)
        have k0 := (cell_same (HBL.out.block b hb) (o + k * 4)).trans c0
        have k1 := (cell_same (HBL.out.block b hb) (o + k * 4 + 1)).trans c1
        have k2 := (cell_same (HBL.out.block b hb) (o + k * 4 + 2)).trans c2
        have k3 := (cell_same (HBL.out.block b hb) (o + k * 4 + 3)).trans c3
        have hmi : (objs0.length : Int) - 1 - (k : Int) = ((objs0.length - 1 - k : Nat) : Int) := by omega
        have hz : cur.size = objs0.length * 4 := HZ.out
        have g0 : wr.cell? ⟨w2.heap.size, (objs0.length - 1 - k) * 4, none⟩ = some (cur[(objs0.length - 1 - k) * 4]'(by omega)) := (Lib.cell_of_heap HG.out _).trans (Array.getElem?_eq_getElem _)
        have g1 : wr.cell? ⟨w2.heap.size, (objs0.length - 1 - k) * 4 + 1, none⟩ = some (cur[(objs0.length - 1 - k) * 4 + 1]'(by omega)) := (Lib.cell_of_heap HG.out _).trans (Array.getElem?_eq_getElem _)
        have g2 : wr.cell? ⟨w2.heap.size, (objs0.length - 1 - k) * 4 + 2, none⟩ = some (cur[(objs0.length - 1 - k) * 4 + 2]'(by omega)) := (Lib.cell_of_heap HG.out _).trans (Array.getElem?_eq_getElem _)
        have g3 : wr.cell? ⟨w2.heap.size, (objs0.length - 1 - k) * 4 + 3, none⟩ = some (cur[(objs0.length - 1 - k) * 4 + 3]'(by omega)) := (Lib.cell_of_heap HG.out _).trans (Array.getElem?_eq_getElem _)
        have f0 : wr.frozen? ⟨w2.heap.size, (objs0.length - 1 - k) * 4, none⟩ = false := Lib.frozen_of_heap HG.out _
        have f1 : wr.frozen? ⟨w2.heap.size, (objs0.length - 1 - k) * 4 + 1, none⟩ = false := Lib.frozen_of_heap HG.out _
        have f2 : wr.frozen? ⟨w2.heap.size, (objs0.length - 1 - k) * 4 + 2, none⟩ = false := Lib.frozen_of_heap HG.out _
        have f3 : wr.frozen? ⟨w2.heap.size, (objs0.length - 1 - k) * 4 + 3, none⟩ = false := Lib.frozen_of_heap HG.out _
        clear hall hoa hh c0 c1 c2 c3
        go_wp2
        refine ⟨⟨k + 1, by omega, by go_num, Lib.hid ((((HBL.out.setCell hs2 _).setCell hs2 _).setCell hs2 _).setCell hs2 _), _, Lib.hid (put4 HG.out), Lib.hid (by simp only [Array.size_setIfInBounds]; exact HZ.out), Lib.hid fun j hj q hq => ?_⟩, by simp [intOf]; omega⟩
        by_cases e : j = k
        · subst e
          rw [put4_same (by omega) hq]
          match q, hq with
          | 0, _ => exact CS.out.1.symm
          | 1, _ => exact CS.out.2.1.symm
          | 2, _ => exact CS.out.2.2.1.symm
          | 3, _ => exact CS.out.2.2.2.symm
        · rw [put4_other (by omega)]
          exact HC.out j (by omega) q hq
      · obtain rfl : k = objs0.length := by omega
        have hback := back_at HO.out HBL.out HG.out HM.out HC.out
        have cr1 := res_ (w := wr) (n₀ := w.heap.size) HBL.out.size (ObjsAt.same HO.out (Same.of HBL.out (Nat.le_refl _))) HW.out (by omega) HMS.out hN
        have hbs := HBL.out.size
        have HBK := Lib.hid hback
        clear hback HC HG HZ HB5 HG0 HZ0 hk
        go_upto_region 11 with (go_at_call 13; (with_reducible refine cr1.mono ?_); rintro e w6 ⟨p1, c1, i1, k1, rfl, ht1, hb6⟩; have HT1 := Lib.hid ht1; have HB6 := Lib.hid hb6; clear ht1 hb6 cr1)
        have h6z := HB6.out.size
        have hb7 : Below wr.heap.size wr (w6.alloc (.cells #[.int .i64 i1, .int .i64 k1] TT)) := HB6.out.alloc h6z _
        have ht7 := tgts_below HT1.out (W' := w6.alloc (.cells #[.int .i64 i1, .int .i64 k1] TT)) ((Below.refl _ _).alloc (Nat.le_refl _) _)
        have hN' : (flat objs0.reverse).length ≤ 100000 := (few_flat (objs := objs0.reverse) (by
          have := HF.out
          unfold fewO at this ⊢
          rw [List.length_reverse, List.all_reverse]
          exact this)).2.2
        have cr2 := res_ (w := w6.alloc (.cells #[.int .i64 i1, .int .i64 k1] TT)) (n₀ := wr.heap.size) hb7.size (ObjsAt.same HBK.out (Same.of hb7 (Nat.le_refl _))) (fun o ho => HW.out o (List.mem_reverse.1 ho)) (by rw [List.length_reverse]; omega) (fun o ho => HMS.out o (List.mem_reverse.1 ho)) hN'
        simp only [tgL_len, code_rev] at cr2
        have HB7 := Lib.hid hb7
        have HT7 := Lib.hid ht7
        have h7z := hb7.size
        clear hb7 ht7 hN' HT1 HB6 HBK
        generalize w6.alloc (.cells #[.int .i64 i1, .int .i64 k1] TT) = w7 at *
        go_upto_region 12 with (go_at_call 13; (with_reducible refine cr2.mono ?_); rintro e w8 ⟨p2, c2, i2, k2, rfl, ht2, hb8⟩; have HT2 := Lib.hid ht2; have HB8 := Lib.hid hb8; clear ht2 hb8 cr2)
        have h8z := HB8.out.size
        have hb9 : Below w.heap.size w (w8.alloc (.cells #[.int .i64 i2, .int .i64 k2] TT)) := (HBL.out.trans ((HB7.out.mono hbs).trans (HB8.out.mono (by omega)))).alloc (by omega) _
        have ht9 := tgts_below HT7.out (W' := w8.alloc (.cells #[.int .i64 i2, .int .i64 k2] TT)) (HB8.out.alloc h8z _)
        have ht9' := tgts_below HT2.out (W' := w8.alloc (.cells #[.int .i64 i2, .int .i64 k2] TT)) ((Below.refl _ _).alloc (Nat.le_refl _) _)
        have HREV := Lib.hid (fun (i : Nat) (r : List (Int × Int)) (h : (tgL objs0)[i]? = some r) => tgL_rev h)
        have HLT := Lib.hid (fun (i : Nat) (r : List (Int × Int)) (h : (tgL objs0)[i]? = some r) (t : Int × Int) (ht : t ∈ r) => tgL_lt h ht)
        have HNUM := Lib.hid (fun (i : Nat) (h : i < (tgL objs0).length) => (tgL_num h).2)
        have hLR : (tgL objs0.reverse).length = (tgL objs0).length := tgL_len
        have HB9 := Lib.hid hb9
        have HTA := Lib.hid ht9
        have HTB := Lib.hid ht9'
        clear hb9 ht9 ht9' HT7 HT2 HB7 HB8 HBL
        generalize w8.alloc (.cells #[.int .i64 i2, .int .i64 k2] TT) = w9 at *
        generalize tgL objs0.reverse = R at *
        generalize tgL objs0 = L at *
        generalize RsY.resCode objs0 = rc at *
        have hLR' := Lib.hid hLR
        clear hLR
        go_wp2_with fail
        go_loopw [67] (fun i wr => ∃ k : Nat, k ≤ L.length ∧ i = .int .i64 k ∧ Hid (Below w9.heap.size w9 wr)) (fun i _ => L.length - (intOf i).toNat)
        case atStart => exact ⟨0, Nat.zero_le _, rfl, Lib.hid (Below.refl _ _)⟩
        case round =>
          obtain ⟨k, hk, rfl, HBR⟩ := hrel
          by_cases hlt : k < L.length
          · have hn1 : objs0.length ≤ L.length := Nat.le_of_eq (HNUM.out k hlt).symm
            have hn2 : L.length ≤ objs0.length := Nat.le_of_eq (HNUM.out k hlt)
            obtain ⟨r, hr⟩ : ∃ r, L[k]? = some r := ⟨_, List.getElem?_eq_getElem hlt⟩
            obtain ⟨r2, hr2⟩ : ∃ r2, r2 = r.map fun t => ((objs0.length : Int) - 1 - t.1, t.2) := ⟨_, rfl⟩
            have hrev := HREV.out k r hr
            rw [← hr2] at hrev
            have hl2 : r2.length = r.length := by rw [hr2, List.length_map]
            obtain ⟨p', c', hv, hh⟩ := HTA.out
            cases hv
            obtain ⟨b1, o1, rfl, hb1, -, -, hall1⟩ := hh (by omega)
            obtain ⟨rv, cv, hrow⟩ := hall1 k r hr
            obtain ⟨pr, cr, rfl, hrr⟩ := hrow
            obtain ⟨p'', c'', hv2, hh2⟩ := HTB.out
            obtain ⟨rfl, -, rfl⟩ : p2 = p'' ∧ L.length = R.length ∧ c2 = c'' := by simpa using hv2
            obtain ⟨b2, o2, rfl, hb2, -, -, hall2⟩ := hh2 (by rw [hLR'.out]; omega)
            obtain ⟨rv2, cv2, hrow2⟩ := hall2 _ _ hrev
            obtain ⟨pr2, cr2, rfl, hrr2⟩ := hrow2
            rw [hl2] at cv2
            have a1 := (cell_same (HBR.out.block b1 hb1) (o1 + k)).trans cv
            have a2 := (cell_same (HBR.out.block b2 hb2) (o2 + (objs0.length - 1 - k))).trans cv2
            have hmi : (objs0.length : Int) - 1 - (k : Int) = ((objs0.length - 1 - k : Nat) : Int) := by omega
            have hix : objs0.length - 1 - k < L.length := by omega
            have HRR := Lib.hid hrr
            have HRR2 := Lib.hid hrr2
            have HR := Lib.hid hr
            have HR2 := Lib.hid hr2
            have HL2 := Lib.hid hl2
            have CV2 := Lib.hid cv2
            have hrm := OB.Sl_len (⟨pr, cr, rfl, hrr⟩ : Sl w9.heap.size (.slice pr r.length cr) r.length _)
            unfold maxLen at hrm
            clear hrr hrr2 hr hr2 hl2 hv2 hh hh2 hall1 hall2 cv cv2 hrev
            go_upto_region 17 with fail
            go_quiet (fail)
            go_wp2_with fail
            have HBN := Lib.hid (HBR.out.trans (⟨rfl, rfl, rfl, Nat.le_refl _, fun _ _ => rfl⟩ : Below w9.heap.size wr (wr.drewN nq)))
            go_loopw [89] (fun i wq => ∃ q : Nat, q ≤ r.length ∧ i = .int .i64 q ∧ Hid (Below w9.heap.size w9 wq)) (fun i _ => r.length - (intOf i).toNat)
            case atStart => exact ⟨0, Nat.zero_le _, rfl, HBN⟩
            case round =>
              obtain ⟨q, hq, rfl, HBQ⟩ := hrel
              by_cases hql : q < r.length
              · obtain ⟨t, ht⟩ : ∃ t, r[q]? = some t := ⟨_, List.getElem?_eq_getElem hql⟩
                have hb := HLT.out k r HR.out t (List.mem_of_getElem? ht)
                obtain ⟨b3, o3, rfl, hb3, -, -, ht3⟩ := HRR.out (by omega)
                obtain ⟨b4, o4, rfl, hb4, -, -, ht4⟩ := HRR2.out (by rw [HL2.out]; omega)
                obtain ⟨e1, e2⟩ := ht3 q t ht
                obtain ⟨e3, e4⟩ := ht4 q ((objs0.length : Int) - 1 - t.1, t.2) (by rw [HR2.out, List.getElem?_map, ht]; rfl)
                have y1 := (cell_same (HBQ.out.block b3 hb3) _).trans e1
                have y2 := (cell_same (HBQ.out.block b3 hb3) _).trans e2
                have y0 := (cell_same (HBQ.out.block b2 hb2) _).trans CV2.out
                have y3 := (cell_same (HBQ.out.block b4 hb4) _).trans e3
                have y4 := (cell_same (HBQ.out.block b4 hb4) _).trans e4
                simp only at y3 y4
                have hqz := HBQ.out.size
                clear ht ht3 ht4 e1 e2 e3 e4 a1 a2
                obtain ⟨ta, tb⟩ := t
                simp only at hb y1 y2 y3 y4
                obtain ⟨hb0, hb1'⟩ := hb
                go_upto_region 22 with fail
                have z0 := (World.cell?_alloc_lt wr (.cells #[.int .i64 ta, .int .i64 tb] TT) (⟨b2, o2 + (objs0.length - 1 - k), none⟩ : Addr) (by show b2 < _; omega)).trans y0
                have z3 := (World.cell?_alloc_lt wr (.cells #[.int .i64 ta, .int .i64 tb] TT) (⟨b4, o4 + q * 2, none⟩ : Addr) (by show b4 < _; omega)).trans y3
                have z4 := (World.cell?_alloc_lt wr (.cells #[.int .i64 ta, .int .i64 tb] TT) (⟨b4, o4 + q * 2 + 1, none⟩ : Addr) (by show b4 < _; omega)).trans y4
                have z5 := Lib.cell_of_heap (heap_alloc_new wr (.cells #[.int .i64 ta, .int .i64 tb] TT)) 0
                have z6 := Lib.cell_of_heap (heap_alloc_new wr (.cells #[.int .i64 ta, .int .i64 tb] TT)) 1
                simp only [List.getElem?_toArray, List.getElem?_cons_zero, List.getElem?_cons_succ] at z5 z6
                have HBA := Lib.hid (HBQ.out.alloc hqz (.cells #[.int .i64 ta, .int .i64 tb] TT))
                clear y0 y1 y2 y3 y4
                generalize wr.alloc (.cells #[.int .i64 ta, .int .i64 tb] TT) = wa at *
                go_quiet (fail)
                go_wp2_with fail
                exact ⟨⟨q + 1, by omega, by go_num, Lib.hid (HBA.out.trans (⟨rfl, rfl, rfl, Nat.le_refl _, fun _ _ => rfl⟩ : Below w9.heap.size wa (wa.drewN nq)))⟩, by simp [intOf]; omega⟩
              · obtain rfl : q = r.length := by omega
                go_wp2
                first
                  | exact ⟨⟨k + 1, by omega, by go_num, HBQ⟩, by simp [intOf]; omega⟩
                  | (refine ⟨?_, ?_⟩
                     · repeat' apply Exists.intro
                       refine ⟨?_, rfl⟩
                       exact ⟨k + 1, by omega, by go_num, HBQ⟩
                     · simp [intOf]; omega)
          · obtain rfl : k = L.length := by omega
            go_wp2
            go_ret
            exact ⟨rfl, HB9.out.trans (HBR.out.mono (by have := HB9.out.size; omega))⟩

set_option maxRecDepth 100000 in
theorem lifted (os : Os) (started : os.Started) (H : Type) (enc : TypeId × Value → H) :
    ReturnsInHanded {} Try.checked os 5 .any (Rows.resolveOrderSpec.pre6 enc Try.prog Try.f5 Rows.resolveOrderRow.domain false) (Rows.resolveOrderSpec.post enc Try.prog Try.f5 false true false false) := by
  refine returnsInHanded_of_change (C := Try.checked) own started (by kernel_rfl) Try.func5
    (ChangeSpec.witness6 (enc := enc) (C := Try.checked) false ⟨#[], #[.slice none 0 0], []⟩ 8 (by kernel_rfl) (by kernel_rfl) (by kernel_rfl) (by kernel_rfl)) ?_
  intro W base args ds gs before hval0 hW hcnd _
  have hval : ∀ (j : Nat) t v, Try.f5.params[j]? = some t → args[j]? = some v → Value.okWide Try.prog W .any base t v := hval0
  have hW' := hW
  obtain ⟨p, q, hA0, hV, rfl, hfz, hnd⟩ := hW
  have hA : DataW.TrodAll enc Try.prog W 0 (fun _ => true) true Try.f5.params.toList args.toList ds p := hA0
  rw [Try.params5] at hA hval
  obtain ⟨v0, vs0, d0, ds0, p0, q0, hargs, rfl, rfl, h0, r0⟩ := trodAll_cons hA
  obtain ⟨rfl, rfl, rfl⟩ := trodAll_nil r0
  obtain rfl : args = #[v0] := by cases args; simp_all
  obtain ⟨rfl, rfl⟩ := trodVars_none hV
  obtain ⟨objs0, ha0, hw0⟩ := RsO.open_objs (hval 0 22 v0 rfl rfl) h0
  clear hA0 hval0
  simp only [List.append_nil] at hW'
  refine (walk v0 objs0 W ha0 hw0).mono fun e W' ⟨he, hg⟩ => ?_
  subst he
  exact ⟨_, rfl, _, _, _, [], _, _, hW', (trodAll_cons_mk (shut_bool Try.underlying4 _) trodAll_mk0), (trodAll_cons_mk (OB.shut_any (by kernel_rfl) (by kernel_rfl) (by decide) h0 hg) trodAll_mk0), rfl, hg.frame _, fun h => by cases h⟩

theorem over : Rows.resolveOrderRow.holds Try.pinned (OpenSpec.ofChange Rows.resolveOrderSpec) :=
  OpenClaim.holds_of_wide 5 Try.f5 rfl rfl rfl rfl rfl rfl rfl ⟨rfl, rfl, rfl, rfl, rfl⟩ rfl rfl rfl rfl rfl (by kernel_rfl) Try.func5 (by kernel_rfl)
    (of_decide_eq_true (by kernel_rfl)) (by unfold Func.isWrapper; first | (rw [if_pos (by decide +kernel)]; kernel_rfl) | (rw [if_neg (by decide +kernel)]; exact ⟨rfl, rfl⟩))
    (fun os started H enc _ => lifted os started H enc)

/-- The statement. -/
theorem proved : Rows.ResolveOrderSaid :=
  over
end Go.Proofs.Ytieehjkmfmkfjaa.resolveOrder
