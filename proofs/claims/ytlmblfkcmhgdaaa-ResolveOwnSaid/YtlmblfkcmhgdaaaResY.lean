/-
  resolve.Main: a contract. Condition: the objects lie in memory, and have not too many symbols.
-/
import Derived.Test.YtlmblfkcmhgdaaaResW
import Derived.BigQuiet
namespace Go.Proofs.Ytlmblfkcmhgdaaa
open Go.RowKit Go.Maps Go.WideMaps
set_option linter.unusedVariables false
set_option linter.unusedSimpArgs false
namespace RsY
open OO OJ RsM RsI RsP RsR RsD RsS RsT RsN RsV OCk
open OI hiding Mid Did
/-- Resolve's error -/
def resCode (objs : List ObjV) : Int := if 0 ≤ noneFrom objs 0 then 2 else match againL (flat objs) with
  | _ :: _ => 4
  | [] => match (flat objs).find? (RsT.bad (flat objs)) with
    | some _ => 3
    | none => 0
theorem res_code {objs : List ObjV} {W : World} {tv : Value} {i k e : Int} (h : Out objs W tv i k e) : e = resCode objs := by
  unfold Out at h
  unfold resCode
  by_cases hc : 0 ≤ noneFrom objs 0
  · rw [if_pos hc] at h ⊢
    exact h.2.2.2
  · rw [if_neg hc] at h ⊢
    cases hag : againL (flat objs) with
    | cons x l => rw [hag] at h; exact h.2.2.2
    | nil =>
      rw [hag] at h
      cases hf : (flat objs).find? (RsT.bad (flat objs)) with
      | some x => rw [hf] at h; exact h.2.2.2
      | none => rw [hf] at h; exact h.2.2.1
theorem two_set {W : World} {r : Nat} {a b c d : Value} (h : W.heap[r]? = some (.cells #[c, d] TT (0, 0))) : ((W.setCell ⟨r, 0, none⟩ a).setCell ⟨r, 1, none⟩ b).heap[r]? = some (.cells #[a, b] TT (0, 0)) := by
  have h1 : (W.setCell ⟨r, 0, none⟩ a).heap[r]? = some (.cells #[a, d] TT (0, 0)) := hset h a
  exact hset h1 (i := 1) b
def mainB : ByteArray := { data := #[109, 97, 105, 110] }
/-- what Main answers -/
def mainOut (objs : List ObjV) : Int × Int × Int := if resCode objs ≠ 0 then (0, 0, resCode objs) else match RsP.look (flat objs) mainB with
  | some y => if y.s.sect = 1 then ((y.i : Int), (y.k : Int), 0) else (0, 0, 16)
  | none => (0, 0, 16)
theorem res_again {objs : List ObjV} (h : resCode objs = 0) : againL (flat objs) = [] := by
  unfold resCode at h
  split at h
  · cases h
  · cases hag : againL (flat objs) with
    | nil => rfl
    | cons x l => rw [hag] at h; cases h
set_option maxRecDepth 100000 in
set_option maxHeartbeats 16000000 in
theorem Main_ {w : World} {n₀ : Nat} {v : Value} {objs : List ObjV} (hn : n₀ ≤ w.heap.size) (ho : ObjsAt n₀ w v objs) (hw : ∀ o ∈ objs, o.Wf) (hm : objs.length ≤ 100000) (hms : ∀ o ∈ objs, o.ss.length ≤ maxLen) (hN : (flat objs).length ≤ 100000) :
    Calls Try.prog 7 #[v] w fun e w' => e = .returned (.tuple #[.agg #[.int .i64 (mainOut objs).1, .int .i64 (mainOut objs).2.1], .int .i64 (mainOut objs).2.2]) ∧ Below w.heap.size w w' := by
  have hb0 : Below w.heap.size w (w.alloc (.cells #[.int .i64 0, .int .i64 0] TT)) := (Below.refl _ _).alloc (Nat.le_refl _) _
  have cr := resolve_ (w := w.alloc (.cells #[.int .i64 0, .int .i64 0] TT)) (n₀ := n₀) (by simp only [World.size_alloc]; omega) (ObjsAt.same ho (Same.of hb0 hn)) hw hm hms hN
  have x0 : (w.alloc (.cells #[.int .i64 0, .int .i64 0] TT)).heap[w.heap.size]? = some (.cells #[.int .i64 0, .int .i64 0] TT (0, 0)) := heap_alloc_new w _
  have HO := Lib.hid ho
  have HW := Lib.hid hw
  have HMS := Lib.hid hms
  have HB0 := Lib.hid hb0
  have X0 := Lib.hid x0
  obtain ⟨p, c, rfl, -⟩ := ho
  clear hw hms hb0 x0
  obtain ⟨rc, hrc⟩ : ∃ rc, rc = resCode objs := ⟨_, rfl⟩
  by_cases hz : rc = 0
  · subst hz
    have hag := res_again hrc.symm
    have HRC := Lib.hid hrc
    obtain ⟨mo, hmo⟩ : ∃ mo, mo = mainOut objs := ⟨_, rfl⟩
    rw [← hmo]
    have HMO : Hid (mo = match RsP.look (flat objs) mainB with
      | some y => if y.s.sect = 1 then ((y.i : Int), (y.k : Int), 0) else (0, 0, 16)
      | none => (0, 0, 16)) := Lib.hid (by rw [hmo]; unfold mainOut; rw [← hrc, if_neg (by simp)])
    clear hmo
    obtain ⟨e1, e2⟩ := names_look (flat objs) mainB
    clear hrc
    have HAG := Lib.hid hag
    clear hag
    go_enter Try.func7, Try.ntmps7
    go_upto_region 4 with (go_at_call 6; (with_reducible refine cr.mono ?_); rintro e w1 ⟨tv, i, k, e', rfl, hO, hb1⟩; obtain rfl := (res_code hO).trans HRC.out.symm; have HB1 := Lib.hid hb1; clear hb1 cr hO)
    have hs1 := HB1.out.size
    simp only [World.size_alloc] at hs1
    have hbw1 : Below w.heap.size w (w1.alloc (.cells #[.int .i64 i, .int .i64 k] TT)) := (HB0.out.trans (HB1.out.mono (by simp only [World.size_alloc]; omega))).alloc (by omega) _
    have y0 : (w1.alloc (.cells #[.int .i64 i, .int .i64 k] TT)).heap[w.heap.size]? = some (.cells #[.int .i64 0, .int .i64 0] TT (0, 0)) := (Lib.alloc_old _ _ _ (by omega)).trans ((HB1.out.block _ (by simp only [World.size_alloc]; omega)).trans X0.out)
    have cd := def2_ (w := w1.alloc (.cells #[.int .i64 i, .int .i64 k] TT)) (n₀ := n₀) (by simp only [World.size_alloc]; omega) (ObjsAt.same HO.out (Same.of hbw1 hn)) HW.out (by unfold maxLen; omega) HMS.out hN
    rw [HAG.out] at cd
    simp only [List.length_nil] at cd
    have hs2 : w.heap.size + 1 ≤ (w1.alloc (.cells #[.int .i64 i, .int .i64 k] TT)).heap.size := by simp only [World.size_alloc]; omega
    have Y0 := Lib.hid y0
    have HBW1 := Lib.hid hbw1
    clear y0 hbw1 HB1 HB0 X0 HAG
    generalize w1.alloc (.cells #[.int .i64 i, .int .i64 k] TT) = w2 at *
    cases hl : RsP.look (flat objs) mainB with
    | none =>
      rw [hl] at e1 e2 HMO
      have HMO2 : Hid (mo = (0, 0, 16)) := Lib.hid HMO.out
      have e1 : Maps.has (namesD (flat objs)) (nkey mainB) = false := e1
      have e2 : ∀ z, (namesD (flat objs)).atKey (nkey mainB) z = z := e2
      have HA := Lib.hid (fun (ti tj : Int) (h : (namesD (flat objs)).atKey (nkey mainB) (tgtD 0 0) = tgtD ti tj) => (by rw [e2] at h; exact tgtD_inj h : (0 : Int) = ti ∧ (0 : Int) = tj))
      clear HMO e2
      go_upto_region 6 with (first
        | (go_at_call 11; (with_reducible refine cd.mono ?_); rintro e w3 ⟨qa, ca, rfl, hmap, -, hb3, hz3⟩; have HMAP := Lib.hid hmap; have HB3 := Lib.hid hb3; clear hmap hb3 cd)
        | (at_lookup; refine look_t rfl _ _ rfl _ _ _ rfl HMAP.out mainB (by decide) rfl ?_; intro ti tj hti; obtain ⟨rfl, rfl⟩ := HA.out ti tj hti; rw [e1]))
      have hs3 := HB3.out.size
      have hbel : Below w.heap.size w (w3.alloc (.cells #[.int .i64 0, .int .i64 0] TT)) := (HBW1.out.trans (HB3.out.mono (by omega))).alloc (by omega) _
      have y5 : (w3.alloc (.cells #[.int .i64 0, .int .i64 0] TT)).heap[w.heap.size]? = some (.cells #[.int .i64 0, .int .i64 0] TT (0, 0)) := (Lib.alloc_old _ _ _ (by omega)).trans ((HB3.out.block _ (by omega)).trans Y0.out)
      have t5 : (w3.alloc (.cells #[.int .i64 0, .int .i64 0] TT)).heap[w3.heap.size]? = some (.cells #[.int .i64 0, .int .i64 0] TT (0, 0)) := heap_alloc_new _ _
      have k0 := Lib.cell_of_heap y5 0
      have k1 := Lib.cell_of_heap y5 1
      have f0 := Lib.frozen_of_heap y5 0
      have f1 := Lib.frozen_of_heap y5 1
      have u0 := Lib.cell_of_heap t5 0
      have u1 := Lib.cell_of_heap t5 1
      simp only [List.getElem?_toArray, List.getElem?_cons_zero, List.getElem?_cons_succ] at k0 k1 u0 u1
      have HY5 := Lib.hid y5
      have HBEL := Lib.hid hbel
      have nw : ¬ w.heap.size = w3.heap.size := by omega
      clear y5 t5 hbel HMAP HB3 hti
      generalize w3.alloc (.cells #[.int .i64 0, .int .i64 0] TT) = w5 at *
      go_quiet (fail)
      go_wp2
      have z0 := two_set (a := .int .i64 0) (b := .int .i64 0) (show (w5.drewN nq).heap[w.heap.size]? = _ from HY5.out)
      have q0 := Lib.cell_of_heap z0 0
      have q1 := Lib.cell_of_heap z0 1
      simp only [List.getElem?_toArray, List.getElem?_cons_zero, List.getElem?_cons_succ] at q0 q1
      have HBEL2 := Lib.hid (((⟨HBEL.out.os, HBEL.out.tape, HBEL.out.output, HBEL.out.size, HBEL.out.block⟩ : Below w.heap.size w (w5.drewN nq)).setCell (p := ⟨w.heap.size, 0, none⟩) (Nat.le_refl _) (.int .i64 0)).setCell (p := ⟨w.heap.size, 1, none⟩) (Nat.le_refl _) (.int .i64 0))
      clear z0 k0 k1 f0 f1
      generalize ((w5.drewN nq).setCell ⟨w.heap.size, 0, none⟩ (.int .i64 0)).setCell ⟨w.heap.size, 1, none⟩ (.int .i64 0) = W9 at *
      exact bodyPost_ret (v := .tuple #[.agg #[.int .i64 0, .int .i64 0], .int .i64 16]) (by simp [results, Try.results7, go_sem, q0, q1]) rfl ⟨by rw [HMO2.out], HBEL2.out⟩
    | some y =>
      rw [hl] at e1 e2 HMO
      have HMO1 : Hid (mo = if y.s.sect = 1 then ((y.i : Int), (y.k : Int), 0) else (0, 0, 16)) := Lib.hid HMO.out
      have e1 : Maps.has (namesD (flat objs)) (nkey mainB) = true := e1
      have e2 : ∀ z, (namesD (flat objs)).atKey (nkey mainB) z = tgtD y.i y.k := e2
      have HA := Lib.hid (fun (ti tj : Int) (h : (namesD (flat objs)).atKey (nkey mainB) (tgtD 0 0) = tgtD ti tj) => (by rw [e2] at h; exact tgtD_inj h : (y.i : Int) = ti ∧ (y.k : Int) = tj))
      obtain ⟨oo, hoo, hss⟩ := mem_flat (List.mem_of_find?_eq_some (show (flat objs).find? _ = some y from hl))
      have hyi : y.i < objs.length := (List.getElem?_eq_some_iff.1 hoo).1
      have hyk : y.k < oo.ss.length := (List.getElem?_eq_some_iff.1 hss).1
      have HOO := Lib.hid hoo
      have HSS := Lib.hid hss
      clear HMO e2 hoo hss
      go_upto_region 6 with (first
        | (go_at_call 11; (with_reducible refine cd.mono ?_); rintro e w3 ⟨qa, ca, rfl, hmap, -, hb3, hz3⟩; have HMAP := Lib.hid hmap; have HB3 := Lib.hid hb3; clear hmap hb3 cd)
        | (at_lookup; refine look_t rfl _ _ rfl _ _ _ rfl HMAP.out mainB (by decide) rfl ?_; intro ti tj hti; obtain ⟨rfl, rfl⟩ := HA.out ti tj hti; rw [e1]))
      have hs3 := HB3.out.size
      have hbel : Below w.heap.size w (w3.alloc (.cells #[.int .i64 (y.i : Int), .int .i64 (y.k : Int)] TT)) := (HBW1.out.trans (HB3.out.mono (by omega))).alloc (by omega) _
      have y5 : (w3.alloc (.cells #[.int .i64 (y.i : Int), .int .i64 (y.k : Int)] TT)).heap[w.heap.size]? = some (.cells #[.int .i64 0, .int .i64 0] TT (0, 0)) := (Lib.alloc_old _ _ _ (by omega)).trans ((HB3.out.block _ (by omega)).trans Y0.out)
      have t5 : (w3.alloc (.cells #[.int .i64 (y.i : Int), .int .i64 (y.k : Int)] TT)).heap[w3.heap.size]? = some (.cells #[.int .i64 (y.i : Int), .int .i64 (y.k : Int)] TT (0, 0)) := heap_alloc_new _ _
      have k0 := Lib.cell_of_heap y5 0
      have k1 := Lib.cell_of_heap y5 1
      have f0 := Lib.frozen_of_heap y5 0
      have f1 := Lib.frozen_of_heap y5 1
      have u0 := Lib.cell_of_heap t5 0
      have u1 := Lib.cell_of_heap t5 1
      simp only [List.getElem?_toArray, List.getElem?_cons_zero, List.getElem?_cons_succ] at k0 k1 u0 u1
      have HY5 := Lib.hid y5
      have HBEL := Lib.hid hbel
      have nw : ¬ w.heap.size = w3.heap.size := by omega
      clear y5 t5 hbel HMAP HB3 hti
      generalize w3.alloc (.cells #[.int .i64 (y.i : Int), .int .i64 (y.k : Int)] TT) = w5 at *
      obtain ⟨p', c', hv, hh⟩ := ObjsAt.same HO.out (Same.of HBEL.out hn)
      cases hv
      obtain ⟨b, o, rfl, hb, -, -, hall⟩ := hh (by omega)
      obtain ⟨v0, v1, v2, v3, g0, g1, g2, g3, hoa⟩ := hall y.i oo HOO.out
      obtain ⟨p2, q2, rfl, hh2⟩ := hoa.ss
      obtain ⟨b2, o2, rfl, hb2, -, -, hrow⟩ := hh2 (by omega)
      obtain ⟨s0, s1, s2, s3, s4⟩ := hrow y.k _ HSS.out
      clear hall hoa hrow hh hh2 HO
      by_cases hs : y.s.sect = 1
      · have HMO2 : Hid (mo = ((y.i : Int), (y.k : Int), 0)) := Lib.hid (HMO1.out.trans (if_pos hs))
        have hs1' : (y.s.sect != 1) = false := by simpa using hs
        clear HMO1 hs
        go_quiet (fail)
        go_wp2
        have z0 := two_set (a := .int .i64 (y.i : Int)) (b := .int .i64 (y.k : Int)) (show (w5.drewN nq).heap[w.heap.size]? = _ from HY5.out)
        have q0 := Lib.cell_of_heap z0 0
        have q1 := Lib.cell_of_heap z0 1
        simp only [List.getElem?_toArray, List.getElem?_cons_zero, List.getElem?_cons_succ] at q0 q1
        have HBEL2 := Lib.hid (((⟨HBEL.out.os, HBEL.out.tape, HBEL.out.output, HBEL.out.size, HBEL.out.block⟩ : Below w.heap.size w (w5.drewN nq)).setCell (p := ⟨w.heap.size, 0, none⟩) (Nat.le_refl _) (.int .i64 (y.i : Int))).setCell (p := ⟨w.heap.size, 1, none⟩) (Nat.le_refl _) (.int .i64 (y.k : Int)))
        clear z0 k0 k1 f0 f1
        generalize ((w5.drewN nq).setCell ⟨w.heap.size, 0, none⟩ (.int .i64 (y.i : Int))).setCell ⟨w.heap.size, 1, none⟩ (.int .i64 (y.k : Int)) = W9 at *
        exact bodyPost_ret (v := .tuple #[.agg #[.int .i64 (y.i : Int), .int .i64 (y.k : Int)], .int .i64 0]) (by simp [results, Try.results7, go_sem, q0, q1]) rfl ⟨by rw [HMO2.out], HBEL2.out⟩
      · have HMO2 : Hid (mo = (0, 0, 16)) := Lib.hid (HMO1.out.trans (if_neg hs))
        have hs1' : (y.s.sect != 1) = true := by simpa using hs
        clear HMO1 hs
        go_quiet (fail)
        go_wp2
        have z0 := two_set (a := .int .i64 0) (b := .int .i64 0) (show (w5.drewN nq).heap[w.heap.size]? = _ from HY5.out)
        have q0 := Lib.cell_of_heap z0 0
        have q1 := Lib.cell_of_heap z0 1
        simp only [List.getElem?_toArray, List.getElem?_cons_zero, List.getElem?_cons_succ] at q0 q1
        have HBEL2 := Lib.hid (((⟨HBEL.out.os, HBEL.out.tape, HBEL.out.output, HBEL.out.size, HBEL.out.block⟩ : Below w.heap.size w (w5.drewN nq)).setCell (p := ⟨w.heap.size, 0, none⟩) (Nat.le_refl _) (.int .i64 0)).setCell (p := ⟨w.heap.size, 1, none⟩) (Nat.le_refl _) (.int .i64 0))
        clear z0 k0 k1 f0 f1
        generalize ((w5.drewN nq).setCell ⟨w.heap.size, 0, none⟩ (.int .i64 0)).setCell ⟨w.heap.size, 1, none⟩ (.int .i64 0) = W9 at *
        exact bodyPost_ret (v := .tuple #[.agg #[.int .i64 0, .int .i64 0], .int .i64 16]) (by simp [results, Try.results7, go_sem, q0, q1]) rfl ⟨by rw [HMO2.out], HBEL2.out⟩
  · have hne : (rc != 0) = true := by simpa using hz
    have HM : Hid (mainOut objs = (0, 0, rc)) := Lib.hid (by unfold mainOut; rw [← hrc, if_pos hz])
    have HRC := Lib.hid hrc
    clear hrc
    rw [HM.out]
    clear hz HM
    go_enter Try.func7, Try.ntmps7
    go_wp2_with (go_at_call 6; (with_reducible refine cr.mono ?_); rintro e w1 ⟨tv, i, k, e', rfl, hO, hb1⟩; obtain rfl := (res_code hO).trans HRC.out.symm; have HB1 := Lib.hid hb1; have y0 : (w1.alloc (.cells #[.int .i64 i, .int .i64 k] TT)).heap[w.heap.size]? = some (.cells #[.int .i64 0, .int .i64 0] TT (0, 0)) := (Lib.alloc_old _ _ _ (by have := hb1.size; simp only [World.size_alloc] at this; omega)).trans ((hb1.block _ (by simp only [World.size_alloc]; omega)).trans X0.out); have k0 := Lib.cell_of_heap y0 0; have k1 := Lib.cell_of_heap y0 1; have f0 := Lib.frozen_of_heap y0 0; have f1 := Lib.frozen_of_heap y0 1; clear hb1 cr hO)
    have z0 := two_set (a := .int .i64 0) (b := .int .i64 0) y0
    have q0 := Lib.cell_of_heap z0 0
    have q1 := Lib.cell_of_heap z0 1
    simp only [List.getElem?_toArray, List.getElem?_cons_zero, List.getElem?_cons_succ] at q0 q1
    have hsz := HB1.out.size
    simp only [World.size_alloc] at hsz
    have hbel : Below w.heap.size w (((w1.alloc (.cells #[.int .i64 i, .int .i64 k] TT)).setCell ⟨w.heap.size, 0, none⟩ (.int .i64 0)).setCell ⟨w.heap.size, 1, none⟩ (.int .i64 0)) := (((HB0.out.trans (HB1.out.mono (by simp only [World.size_alloc]; omega))).alloc (by omega) _).setCell (Nat.le_refl _) _).setCell (Nat.le_refl _) _
    have HBEL := Lib.hid hbel
    clear hbel z0 y0 k0 k1 f0 f1
    generalize ((w1.alloc (.cells #[.int .i64 i, .int .i64 k] TT)).setCell ⟨w.heap.size, 0, none⟩ (.int .i64 0)).setCell ⟨w.heap.size, 1, none⟩ (.int .i64 0) = W9 at *
    exact bodyPost_ret (v := .tuple #[.agg #[.int .i64 0, .int .i64 0], .int .i64 e']) (by simp [results, Try.results7, go_sem, q0, q1]) rfl ⟨rfl, HBEL.out⟩
end RsY
end Go.Proofs.Ytlmblfkcmhgdaaa
