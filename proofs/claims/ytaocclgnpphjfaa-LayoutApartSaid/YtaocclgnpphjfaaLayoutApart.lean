/-
  Of any sizes the law LayoutApart returns true: no two objects' texts or data overlap, and all stand within the image, behind the start.
  Conditions: none beyond those of the given statement.
-/
import Derived.Test.YtaocclgnpphjfaaRows
import Derived.Test.YtaocclgnpphjfaaLayX
import Derived.BigQuiet
import Derived.BigRegion
import Derived.WalkKit
import Derived.ProofKit
import Derived.OpenShut
namespace Go.Proofs.Ytaocclgnpphjfaa.layoutApart
open Go.ChangeShapes Go.WideShapes Go.ChangeAt Go.RowKit
set_option linter.unusedVariables false
set_option linter.unusedSimpArgs false

theorem own : ownKnob Try.prog.godebug = none := by kernel_rfl
open LM OO LL LS LX LW
abbrev TI : TypeId := 3
theorem infoI : (Try.prog.info? TI).map (fun i => (i.zero, i.size, i.bytes)) = some (some (.int .i64 0), 1, 8) := by kernel_rfl

set_option maxRecDepth 100000 in
set_option maxHeartbeats 8000000 in
theorem walk (v0 : Value) (l0 : LM.Sz) (w : World) (ha0 : LS.SzAt w.heap.size w v0 l0) (hs0 : LS.Sm l0) :
    Calls Try.prog 9 #[v0] w fun e w' => e = .returned (.bool true) ∧ Below w.heap.size w w' := by
  have HO := Lib.hid ha0
  have HS := Lib.hid hs0
  obtain ⟨p, c, rfl, hsl⟩ := ha0
  clear hsl
  by_cases hlen : 12 < l0.length
  · clear HO
    go_enter Try.func9, Try.ntmps9
    go_wp2_with (go_at_call 24; (first
      | (with_reducible refine (LA.awake_ _).mono ?_; rintro e w3 ⟨rfl, hb3⟩; have HB3 := Lib.hid (HB1.out.trans (hb3.mono HB1.out.size)); clear hb3)
      | (with_reducible refine (LA.awake_ _).mono ?_; rintro e w1 ⟨rfl, hb1⟩; have HB1 := Lib.hid hb1; clear hb1)))
    go_ret
    exact ⟨rfl, HB3.out⟩
  · have hle : l0.length ≤ 12 := by omega
    cases hok : ok l0 with
    | false =>
      go_enter Try.func9, Try.ntmps9
      go_wp2_with (first
        | (go_at_call 24; with_reducible refine (LA.awake_ _).mono ?_; rintro e w1 ⟨rfl, hb1⟩; have HB1 := Lib.hid hb1; clear hb1)
        | (go_at_call 25; (with_reducible refine (LO.objects_ (n₀ := w.heap.size) HB1.out.size (SzAt.below HO.out HB1.out) HS.out (by omega)).mono ?_); rintro e w2 ⟨q, cq, rfl, ho2, hb2⟩; have HO2 := Lib.hid ho2; have HB2 := Lib.hid (HB1.out.trans (hb2.mono HB1.out.size)); clear ho2 hb2)
        | (go_at_call 26; (with_reducible refine (Layout_no hok (Nat.le_refl _) HO2.out (by omega) (big HS.out)).mono ?_); rintro e w3 ⟨rfl, hb3⟩; have HB3 := Lib.hid (HB2.out.trans (hb3.mono HB2.out.size)); clear hb3))
      go_ret
      exact ⟨rfl, HB3.out⟩
    | true =>
      have hd := ok_lim hok
      obtain ⟨i0, hi, hz0, hz1, hz2⟩ := info_parts infoI
      go_enter Try.func9, Try.ntmps9
      go_wp2_with (first
        | (go_at_call 24; with_reducible refine (LA.awake_ _).mono ?_; rintro e w1 ⟨rfl, hb1⟩; have HB1 := Lib.hid hb1; clear hb1)
        | (go_at_call 25; (with_reducible refine (LO.objects_ (n₀ := w.heap.size) HB1.out.size (SzAt.below HO.out HB1.out) HS.out (by omega)).mono ?_); rintro e w2 ⟨q, cq, rfl, ho2, hb2⟩; have HO2 := Lib.hid ho2; have HB2 := Lib.hid (HB1.out.trans (hb2.mono HB1.out.size)); clear ho2 hb2)
        | (go_at_call 26; (with_reducible refine (Layout_yes hok (Nat.le_refl _) HO2.out (by omega) (big HS.out)).mono ?_); rintro e w3 ⟨p3, c3, rfl, hp3, hb3⟩; have HP3 := Lib.hid hp3; have HC3 := Lib.hid hb3; have HB3 := Lib.hid (HB2.out.trans (hb3.mono HB2.out.size)); clear hp3 hb3))
      go_loopw [7, 8, 9, 34] (fun fv tv al i wr => ∃ k : Nat, k ≤ l0.length ∧ i = .int .i64 k ∧ al = .bool (al8 l0 k) ∧ Hid (Below w3.heap.size w3 wr) ∧ ∃ q1 c1 q2 c2, fv = .slice q1 (2 * k) c1 ∧ tv = .slice q2 (2 * k) c2 ∧ Hid (wr.ownsRow w3.heap.size TI 1 (.slice q1 (2 * k) c1) (2 * k) (plc l0 k)) ∧ Hid (wr.ownsRow w3.heap.size TI 1 (.slice q2 (2 * k) c2) (2 * k) (qlc l0 k)) ∧ Hid (Apart (.slice q1 (2 * k) c1) (.slice q2 (2 * k) c2))) (fun _ _ _ i _ => l0.length - (intOf i).toNat)
      case atStart => exact ⟨0, Nat.zero_le _, rfl, rfl, Lib.hid (Below.refl _ _), none, 0, none, 0, rfl, rfl, Lib.hid (World.ownsRow_nil _ _ _ _), Lib.hid (World.ownsRow_nil _ _ _ _), Lib.hid (fun g h => by cases h)⟩
      case round =>
        obtain ⟨k, hk, rfl, rfl, HBL, q1, c1, q2, c2, rfl, rfl, HR1, HR2, HAP⟩ := hrel
        by_cases hlt : k < l0.length
        · obtain ⟨p', c', e, hh⟩ := HP3.out
          cases e
          obtain ⟨b, o, rfl, hb, -, -, ha⟩ := hh (by omega)
          have a0 := (HBL.out.cell (p := ⟨b, o + k * 2, none⟩) hb).trans (ha k hlt).1
          have a1 := (HBL.out.cell (p := ⟨b, o + k * 2 + 1, none⟩) hb).trans (ha k hlt).2
          obtain ⟨p', c', e, hh2⟩ := HO2.out
          cases e
          obtain ⟨g, s, rfl, hg, -, -, hx⟩ := hh2 (by omega)
          obtain ⟨p0, d0, p1, d1, p2, n2, d2, p3, n3, d3, e0, e1, -, -⟩ := hx k _ (List.getElem?_eq_getElem hlt)
          have hx1 := HS.out _ (List.getElem_mem hlt)
          have ht := textAt_le l0 k
          have hT := textAt_le l0 (k + 1)
          have hdt := dataAt_le l0 k
          have hD := dataAt_le l0 (k + 1)
          have htl := tend_le l0
          have hs1 := textAt_succ hlt
          have hs2 := dataAt_succ hlt
          have HA8 := Lib.hid (al8_succ hlt)
          have HPS := Lib.hid (plc_succ l0 k)
          have HQS := Lib.hid (qlc_succ l0 k)
          have h23 := HC3.out.size
          have OC := Lib.hid (fun (W : World) (h : Below w3.heap.size w3 W) => (⟨(h.cell (p := ⟨g, s + k * 4, none⟩) (by show g < w3.heap.size; omega)).trans ((HC3.out.cell (p := ⟨g, s + k * 4, none⟩) hg).trans e0), (h.cell (p := ⟨g, s + k * 4 + 1, none⟩) (by show g < w3.heap.size; omega)).trans ((HC3.out.cell (p := ⟨g, s + k * 4 + 1, none⟩) hg).trans e1)⟩ : W.cell? ⟨g, s + k * 4, none⟩ = some (.slice p0 l0[k].1 d0) ∧ W.cell? ⟨g, s + k * 4 + 1, none⟩ = some (.slice p1 l0[k].2 d1)))
          clear ha hh hh2 hx e0 e1
          generalize l0[k] = x at *
          have hq1 : textAt l0 k + 4 * x.1 ≤ 2097152 := by omega
          have hq2 : dataAt l0 k + x.2 ≤ 2097152 := by omega
          have HTD := Lib.hid (⟨hs1, hs2⟩ : _ ∧ _)
          clear hs1 hs2 hT hD
          go_upto_region 12 with fail
          have hbz := HBL.out.size
          have hb4 := HBL.out.alloc hbz (.cells #[.int .i64 (textAt l0 k : Nat), .int .i64 (dataAt l0 k : Nat)] TP)
          have hr1 := HR1.out.alloc (.cells #[.int .i64 (textAt l0 k : Nat), .int .i64 (dataAt l0 k : Nat)] TP)
          have hr2 := HR2.out.alloc (.cells #[.int .i64 (textAt l0 k : Nat), .int .i64 (dataAt l0 k : Nat)] TP)
          have hcl : (wr.alloc (.cells #[.int .i64 (textAt l0 k : Nat), .int .i64 (dataAt l0 k : Nat)] TP)).heap[wr.heap.size]? = some (.cells #[.int .i64 (textAt l0 k : Nat), .int .i64 (dataAt l0 k : Nat)] TP (0, 0)) := heap_alloc_new wr _
          have y0 := Lib.cell_of_heap hcl 0
          have y1 := Lib.cell_of_heap hcl 1
          simp only [List.getElem?_toArray, List.getElem?_cons_zero, List.getElem?_cons_succ] at y0 y1
          have hsz4 : (wr.alloc (.cells #[.int .i64 (textAt l0 k : Nat), .int .i64 (dataAt l0 k : Nat)] TP)).heap.size = wr.heap.size + 1 := by simp
          have HSZ4 := Lib.hid hsz4
          have hz34 := hb4.size
          have HB4 := Lib.hid hb4
          have HR14 := Lib.hid hr1
          have HR24 := Lib.hid hr2
          have HCL := Lib.hid hcl
          have HRLT := Lib.hid (⟨fun gg h => (HR1.out.lt gg h).2, fun gg h => (HR2.out.lt gg h).2⟩ : (∀ gg, (Value.slice q1 (2 * k) c1).ownBlock = some gg → gg < wr.heap.size) ∧ (∀ gg, (Value.slice q2 (2 * k) c2).ownBlock = some gg → gg < wr.heap.size))
          clear hsz4 hb4 hr1 hr2 hcl a0 a1 HBL HR1 HR2
          generalize wr.alloc (.cells #[.int .i64 (textAt l0 k : Nat), .int .i64 (dataAt l0 k : Nat)] TP) = w4 at *
          go_upto_region 13 with (at_builtin; refine wpList_append_lies _ rfl _ _ 67 rfl w3.heap.size TI i0 (.int .i64 0) 1 8 Try.underlying67 hi hz0 hz1 hz2 rfl (by decide) _ _ _ rfl (HR14.out.alloc _) ⟨w4.heap.size, 0, none⟩ 2 2 [.int .i64 (textAt l0 k : Nat), .int .i64 (dataAt l0 k : Nat)] rfl rfl (World.news_of_block (cs := #[.int .i64 (textAt l0 k : Nat), .int .i64 (dataAt l0 k : Nat)]) (t := TI) (fr := (0, 0)) (heap_alloc_new w4 _)) (by simp [Value.oneCell']) (by decide) (by unfold maxLen; omega) (by omega) (by simp only [World.size_alloc]; omega) (w4.heap.size + 1) (by simp only [World.size_alloc]) ?_; intro g5 cap5 w5 hown5 hgrow5 hat5 hlt5; have HR15 := Lib.hid hown5; have HG5 := Lib.hid hgrow5; have HT5 := Lib.hid hat5; clear hown5 hgrow5 hat5)
          have hb5 : Below w3.heap.size w3 w5 := (HB4.out.alloc hz34 _).grown HG5.out (by simp only [World.size_alloc]; omega) (fun g hg => (HR14.out.lt g hg).1)
          have hz5 : w4.heap.size + 1 ≤ w5.heap.size := by have := HG5.out.size; simpa using this
          have h4 : Four w4 wr.heap.size g (s + k * 4) (textAt l0 k : Nat) (dataAt l0 k : Nat) (.slice p0 x.1 d0) (.slice p1 x.2 d1) := ⟨y0, y1, OC.out _ HB4.out⟩
          have hb4 : wr.heap.size < w4.heap.size := by rw [HSZ4.out]; omega
          have hg4 : g < w4.heap.size := by omega
          have hn1 : some wr.heap.size ≠ (Value.slice q1 (2 * k) c1).ownBlock := fun e => by have := HRLT.out.1 _ e.symm; omega
          have hn2 : some g ≠ (Value.slice q1 (2 * k) c1).ownBlock := fun e => by have := (HR14.out.lt _ e.symm).1; omega
          have h5 := (h4.alloc hb4 hg4 (.cells #[.int .i64 (textAt l0 k : Nat), .int .i64 (dataAt l0 k : Nat)] TI)).grown (by simp only [World.size_alloc]; omega) (by simp only [World.size_alloc]; omega) HG5.out hn1 hn2
          have n1 : some wr.heap.size ≠ (Value.slice q2 (2 * k) c2).ownBlock := fun e => by have := HRLT.out.2 _ e.symm; omega
          have n2 : some g ≠ (Value.slice q2 (2 * k) c2).ownBlock := fun e => by have := (HR24.out.lt _ e.symm).1; omega
          have N12 := Lib.hid (⟨n1, n2⟩ : _ ∧ _)
          have HF5 := Lib.hid h5
          have hb5' : wr.heap.size < w5.heap.size := by omega
          have hg5' : g < w5.heap.size := by omega
          clear h4 hn1 hn2 h5 n1 n2
          have HR25 := Lib.hid (kept (HR24.out.alloc _) HG5.out HAP.out)
          have HAP5 := Lib.hid (HAP.out.next (u' := .slice (some ⟨g5, 0, none⟩) (2 * k + 2) cap5) (HR24.out.alloc (.cells #[.int .i64 (textAt l0 k : Nat), .int .i64 (dataAt l0 k : Nat)] TI)) rfl (by rw [World.size_alloc]; exact HT5.out))
          have HB5 := Lib.hid hb5
          clear hb5 y0 y1 HRLT HR14 HR24 HCL HG5 HT5 HB4 HAP HSZ4 hz34 hbz
          have hz35 := HB5.out.size
          have hw1 : IntKind.i64.wrap (4 * (x.1 : Int)) = 4 * (x.1 : Int) := IntWalk.i64_in _ (by omega)
          have hw2 : IntKind.i64.wrap ((textAt l0 k : Int) + 4 * (x.1 : Int)) = (textAt l0 k : Int) + 4 * (x.1 : Int) := IntWalk.i64_in _ (by omega)
          have hw3 : IntKind.i64.wrap ((dataAt l0 k : Int) + (x.2 : Int)) = (dataAt l0 k : Int) + (x.2 : Int) := IntWalk.i64_in _ (by omega)
          go_region_held3 (fun w' => w'.cell? ⟨wr.heap.size, 0, none⟩ = some (.int .i64 (textAt l0 k : Nat)) ∧ w'.cell? ⟨wr.heap.size, 1, none⟩ = some (.int .i64 (dataAt l0 k : Nat)) ∧ w'.cell? ⟨g, s + k * 4, none⟩ = some (.slice p0 x.1 d0) ∧ w'.cell? ⟨g, s + k * 4 + 1, none⟩ = some (.slice p1 x.2 d1)) (first | with_reducible exact HF5.out | with_reducible exact HF5.out.drew | with_reducible exact HF6.out | with_reducible exact (HF5.out.drew.alloc hb5' hg5' _) | with_reducible exact (HF5.out.alloc hb5' hg5' _).drew | with_reducible exact (HF5.out.alloc hb5' hg5' _) | go_keep)
            (first
              | (refine step_append_lies _ (by rfl) _ _ _ (by rfl) w3.heap.size TI i0 (.int .i64 0) 1 8 Try.underlying67 hi hz0 hz1 hz2 rfl (by decide) (.slice q2 (2 * k) c2) (2 * k) (qlc l0 k) (by rfl) ((HR25.out.alloc _).drew) ⟨w5.heap.size, 0, none⟩ 2 2 [.int .i64 ((textAt l0 k : Int) + 4 * (x.1 : Int)), .int .i64 ((dataAt l0 k : Int) + (x.2 : Int))] (by rfl) (by rfl) (World.news_of_block (cs := #[.int .i64 ((textAt l0 k : Int) + 4 * (x.1 : Int)), .int .i64 ((dataAt l0 k : Int) + (x.2 : Int))]) (t := TI) (fr := (0, 0)) (LO.newd _ _ _ rfl)) (by simp [Value.oneCell']) (by decide) (by unfold maxLen; omega) (by omega) (by simp only [World.size_drew, World.size_alloc]; omega) (w5.heap.size + 1) (by simp only [World.size_drew, World.size_alloc]) ?_; intro g6 cap6 w6 hown6 hgrow6 hat6 hlt6; have HF6 := Lib.hid ((HF5.out.alloc hb5' hg5' _).drew.grown (by simp only [World.size_drew, World.size_alloc]; omega) (by simp only [World.size_drew, World.size_alloc]; omega) hgrow6 N12.out.1 N12.out.2)))
          obtain ⟨-, -, -, z1⟩ := HF6.out
          have hb6 : Below w3.heap.size w3 w6 := (HB5.out.alloc hz35 _).drew.grown hgrow6 (by simp only [World.size_drew, World.size_alloc]; omega) (fun g hg => (HR25.out.lt g hg).1)
          have hr16 := kept (HR15.out.alloc (.cells #[.int .i64 ((textAt l0 k : Int) + 4 * (x.1 : Int)), .int .i64 ((dataAt l0 k : Int) + (x.2 : Int))] TI)).drew hgrow6 HAP5.out.symm
          have hap6 := (HAP5.out.symm.next (u' := .slice (some ⟨g6, 0, none⟩) (2 * k + 2) cap6) (HR15.out.alloc (.cells #[.int .i64 ((textAt l0 k : Int) + 4 * (x.1 : Int)), .int .i64 ((dataAt l0 k : Int) + (x.2 : Int))] TI)).drew rfl (by rw [World.size_drew, World.size_alloc]; exact hat6)).symm
          rw [← HPS.out] at hr16
          have hown7 : w6.ownsRow w3.heap.size TI 1 (.slice (some ⟨g6, 0, none⟩) (2 * k + 2) cap6) (2 * k + 2) (qlc l0 (k + 1)) := by
            rw [HQS.out, HTD.out.1, HTD.out.2]
            push_cast
            exact hown6
          have HB6 := Lib.hid hb6
          have HR16 := Lib.hid hr16
          have HR26 := Lib.hid hown7
          have HAP6 := Lib.hid hap6
          clear hb6 hr16 hap6 hown6 hown7 hgrow6 hat6 HF6 HF5 hw1 hw2 hw3 HR15 HR25 HAP5 HB5 hq1 hq2
          have h8 := HA8.out
          cases hA : al8 l0 k with
          | false =>
            rw [hA, Bool.false_and] at h8
            have H8 := Lib.hid h8
            clear h8 hA
            go_wp2
            exact ⟨⟨k + 1, by omega, by go_num, by rw [H8.out], HB6, _, _, _, _, rfl, rfl, HR16, HR26, HAP6⟩, by simp [intOf]; omega⟩
          | true =>
            rw [hA, Bool.true_and] at h8
            have H8 := Lib.hid h8
            clear h8 hA
            go_wp2
            exact ⟨⟨k + 1, by omega, by go_num, by rw [H8.out]; exact congrArg _ (b8 x.2), HB6, _, _, _, _, rfl, rfl, HR16, HR26, HAP6⟩, by simp [intOf]; omega⟩
        · obtain rfl : k = l0.length := by omega
          obtain ⟨m, hm⟩ : ∃ m, m = 2 * l0.length := ⟨_, rfl⟩
          obtain ⟨A, hA⟩ : ∃ A, A = al8 l0 l0.length := ⟨_, rfl⟩
          have hf : ∀ j, j < m → (plc l0 l0.length)[j]? = some (.int .i64 (frm l0 j : Nat)) := fun j hj => plc_at (by omega)
          have ht : ∀ j, j < m → (qlc l0 l0.length)[j]? = some (.int .i64 (tom l0 j : Nat)) := fun j hj => qlc_at (by omega)
          have HF := Lib.hid hf
          have HT := Lib.hid ht
          clear hf ht
          have hml : m ≤ 24 := by omega
          have H8 := Lib.hid (fun (i : Nat) (h : ¬ i % 2 = 0) (ha : A = true) => frm_8 (l := l0) h (hA ▸ ha))
          have hr1 := HR1.out
          have hr2 := HR2.out
          rw [← hm] at hr1 hr2 ⊢
          rw [← hA] at *
          have HS1 := Lib.hid hr1
          have HS2 := Lib.hid hr2
          clear hr1 hr2 HR1 HR2
          have HZ := HBL.out.size
          clear hA hm hk hlt HAP HP3 HO2
          generalize hpl : plc l0 l0.length = xs at *
          generalize hql : qlc l0 l0.length = ys at *
          clear hpl hql
          rename World => w4
          go_wp2
          go_loopw [82] (fun i wj => ∃ j : Nat, j ≤ m ∧ i = .int .i64 j ∧ Hid (Below w4.heap.size w4 wj)) (fun i _ => m - (intOf i).toNat)
          case atStart => exact ⟨0, Nat.zero_le _, rfl, Lib.hid (Below.refl _ _)⟩
          case round =>
            obtain ⟨j, hj, rfl, HBJ⟩ := hrel
            by_cases hjm : j < m
            · obtain ⟨ga, rfl, hga, hca, -, hfa⟩ := row_at HS1.out (show 0 < m by omega)
              obtain ⟨gb, rfl, hgb, hcb, -, hfb⟩ := row_at HS2.out (show 0 < m by omega)
              have HFA := Lib.hid (fun i (hi : i < m) => hfa i _ (HF.out i hi))
              have HTB := Lib.hid (fun i (hi : i < m) => hfb i _ (HT.out i hi))
              clear hfa hfb
              have a1 := (HBJ.out.cell (p := ⟨ga, j, none⟩) hga).trans (HFA.out j hjm)
              have a2 := (HBJ.out.cell (p := ⟨gb, j, none⟩) hgb).trans (HTB.out j hjm)
              have f1 := frm_ge l0 j
              have f2 := tom_le l0 j
              have f4 := fun (h : j % 2 = 0) => frm_4 (l := l0) h
              have f8 := H8.out j
              generalize hEF : frm l0 j = F at *
              generalize hET : tom l0 j = T at *
              have HEF := Lib.hid hEF
              have HET := Lib.hid hET
              have HF4 := Lib.hid f4
              have HF8 := Lib.hid f8
              clear hEF hET f4 f8
              by_cases hev : j % 2 = 0
              · have f4 := HF4.out hev
                go_wp2
                go_loopw [13] (fun i wi => ∃ q : Nat, q ≤ j ∧ i = .int .i64 q ∧ Hid (Below w4.heap.size w4 wi)) (fun i _ => j - (intOf i).toNat)
                case atStart => exact ⟨0, Nat.zero_le _, rfl, HBJ⟩
                case round =>
                  obtain ⟨q, hq, rfl, HBQ⟩ := hrel
                  by_cases hqj : q < j
                  · have z1 := (HBQ.out.cell (p := ⟨ga, j, none⟩) hga).trans (HFA.out j hjm)
                    have z2 := (HBQ.out.cell (p := ⟨gb, j, none⟩) hgb).trans (HTB.out j hjm)
                    have z3 := (HBQ.out.cell (p := ⟨ga, q, none⟩) hga).trans (HFA.out q (by omega))
                    have z4 := (HBQ.out.cell (p := ⟨gb, q, none⟩) hgb).trans (HTB.out q (by omega))
                    rw [HEF.out] at z1
                    rw [HET.out] at z2
                    have HAPT := Lib.hid (apart (l := l0) hqj)
                    rw [HEF.out, HET.out] at HAPT
                    generalize frm l0 q = F2 at *
                    generalize tom l0 q = T2 at *
                    by_cases c1 : F < T2
                    · have c2 : ¬ F2 < T := fun h => HAPT.out c1 h
                      have e1 : decide ((F : Int) < (T2 : Int)) = true := decide_eq_true (by omega)
                      have e2 : decide ((F2 : Int) < (T : Int)) = false := decide_eq_false (by omega)
                      go_upto_region 24 with fail
                      go_quiet (fail)
                      go_wp2
                      exact ⟨⟨q + 1, by omega, by go_num, Lib.hid (dn HBQ.out)⟩, by simp [intOf]; omega⟩
                    · have e1 : decide ((F : Int) < (T2 : Int)) = false := decide_eq_false (by omega)
                      go_upto_region 24 with fail
                      go_quiet (fail)
                      go_wp2
                      exact ⟨⟨q + 1, by omega, by go_num, Lib.hid (dn HBQ.out)⟩, by simp [intOf]; omega⟩
                  · obtain rfl : q = j := by omega
                    go_wp2
                    first
                      | exact ⟨⟨q + 1, by omega, by go_num, HBQ⟩, by simp [intOf]; omega⟩
                      | (refine ⟨?_, ?_⟩
                         · repeat' apply Exists.intro
                           refine ⟨?_, rfl⟩
                           exact ⟨q + 1, by omega, by go_num, HBQ⟩
                         · simp [intOf]; omega)
              · cases A with
                | false =>
                  go_wp2
                  go_loopw [13] (fun i wi => ∃ q : Nat, q ≤ j ∧ i = .int .i64 q ∧ Hid (Below w4.heap.size w4 wi)) (fun i _ => j - (intOf i).toNat)
                  case atStart => exact ⟨0, Nat.zero_le _, rfl, HBJ⟩
                  case round =>
                    obtain ⟨q, hq, rfl, HBQ⟩ := hrel
                    by_cases hqj : q < j
                    · have z1 := (HBQ.out.cell (p := ⟨ga, j, none⟩) hga).trans (HFA.out j hjm)
                      have z2 := (HBQ.out.cell (p := ⟨gb, j, none⟩) hgb).trans (HTB.out j hjm)
                      have z3 := (HBQ.out.cell (p := ⟨ga, q, none⟩) hga).trans (HFA.out q (by omega))
                      have z4 := (HBQ.out.cell (p := ⟨gb, q, none⟩) hgb).trans (HTB.out q (by omega))
                      rw [HEF.out] at z1
                      rw [HET.out] at z2
                      have HAPT := Lib.hid (apart (l := l0) hqj)
                      rw [HEF.out, HET.out] at HAPT
                      generalize frm l0 q = F2 at *
                      generalize tom l0 q = T2 at *
                      by_cases c1 : F < T2
                      · have c2 : ¬ F2 < T := fun h => HAPT.out c1 h
                        have e1 : decide ((F : Int) < (T2 : Int)) = true := decide_eq_true (by omega)
                        have e2 : decide ((F2 : Int) < (T : Int)) = false := decide_eq_false (by omega)
                        go_upto_region 24 with fail
                        go_quiet (fail)
                        go_wp2
                        exact ⟨⟨q + 1, by omega, by go_num, Lib.hid (dn HBQ.out)⟩, by simp [intOf]; omega⟩
                      · have e1 : decide ((F : Int) < (T2 : Int)) = false := decide_eq_false (by omega)
                        go_upto_region 24 with fail
                        go_quiet (fail)
                        go_wp2
                        exact ⟨⟨q + 1, by omega, by go_num, Lib.hid (dn HBQ.out)⟩, by simp [intOf]; omega⟩
                    · obtain rfl : q = j := by omega
                      go_wp2
                      first
                        | exact ⟨⟨q + 1, by omega, by go_num, HBQ⟩, by simp [intOf]; omega⟩
                        | (refine ⟨?_, ?_⟩
                           · repeat' apply Exists.intro
                             refine ⟨?_, rfl⟩
                             exact ⟨q + 1, by omega, by go_num, HBQ⟩
                           · simp [intOf]; omega)
                | true =>
                  have f8 := HF8.out hev rfl
                  have g8 : (((F : Nat) : Int) % 8 != 0) = false := by
                    have : (F : Int) % 8 = 0 := by omega
                    rw [this]; rfl
                  go_wp2
                  go_loopw [13] (fun i wi => ∃ q : Nat, q ≤ j ∧ i = .int .i64 q ∧ Hid (Below w4.heap.size w4 wi)) (fun i _ => j - (intOf i).toNat)
                  case atStart => exact ⟨0, Nat.zero_le _, rfl, HBJ⟩
                  case round =>
                    obtain ⟨q, hq, rfl, HBQ⟩ := hrel
                    by_cases hqj : q < j
                    · have z1 := (HBQ.out.cell (p := ⟨ga, j, none⟩) hga).trans (HFA.out j hjm)
                      have z2 := (HBQ.out.cell (p := ⟨gb, j, none⟩) hgb).trans (HTB.out j hjm)
                      have z3 := (HBQ.out.cell (p := ⟨ga, q, none⟩) hga).trans (HFA.out q (by omega))
                      have z4 := (HBQ.out.cell (p := ⟨gb, q, none⟩) hgb).trans (HTB.out q (by omega))
                      rw [HEF.out] at z1
                      rw [HET.out] at z2
                      have HAPT := Lib.hid (apart (l := l0) hqj)
                      rw [HEF.out, HET.out] at HAPT
                      generalize frm l0 q = F2 at *
                      generalize tom l0 q = T2 at *
                      by_cases c1 : F < T2
                      · have c2 : ¬ F2 < T := fun h => HAPT.out c1 h
                        have e1 : decide ((F : Int) < (T2 : Int)) = true := decide_eq_true (by omega)
                        have e2 : decide ((F2 : Int) < (T : Int)) = false := decide_eq_false (by omega)
                        go_upto_region 24 with fail
                        go_quiet (fail)
                        go_wp2
                        exact ⟨⟨q + 1, by omega, by go_num, Lib.hid (dn HBQ.out)⟩, by simp [intOf]; omega⟩
                      · have e1 : decide ((F : Int) < (T2 : Int)) = false := decide_eq_false (by omega)
                        go_upto_region 24 with fail
                        go_quiet (fail)
                        go_wp2
                        exact ⟨⟨q + 1, by omega, by go_num, Lib.hid (dn HBQ.out)⟩, by simp [intOf]; omega⟩
                    · obtain rfl : q = j := by omega
                      go_wp2
                      first
                        | exact ⟨⟨q + 1, by omega, by go_num, HBQ⟩, by simp [intOf]; omega⟩
                        | (refine ⟨?_, ?_⟩
                           · repeat' apply Exists.intro
                             refine ⟨?_, rfl⟩
                             exact ⟨q + 1, by omega, by go_num, HBQ⟩
                           · simp [intOf]; omega)
            · obtain rfl : j = m := by omega
              go_wp2
              go_ret
              exact ⟨rfl, HB3.out.trans ((HBL.out.mono (Nat.le_refl _)).trans (HBJ.out.mono (by omega)) |>.mono (by have := HB3.out.size; omega))⟩

set_option maxRecDepth 100000 in
theorem lifted (os : Os) (started : os.Started) (H : Type) (enc : TypeId × Value → H) :
    ReturnsInHanded {} Try.checked os 9 .any (Rows.layoutApartSpec.pre6 enc Try.prog Try.f9 Rows.layoutApartRow.domain false) (Rows.layoutApartSpec.post enc Try.prog Try.f9 false true false false) := by
  refine returnsInHanded_of_change (C := Try.checked) own started (by kernel_rfl) Try.func9
    (ChangeSpec.witness6 (enc := enc) (C := Try.checked) false ⟨#[], #[.slice none 0 0], []⟩ 8 (by kernel_rfl) (by kernel_rfl) (by kernel_rfl) (by kernel_rfl)) ?_
  intro W base args ds gs before hval0 hW hcnd _
  have hval : ∀ (j : Nat) t v, Try.f9.params[j]? = some t → args[j]? = some v → Value.okWide Try.prog W .any base t v := hval0
  have hW' := hW
  obtain ⟨p, q, hA0, hV, rfl, hfz, hnd⟩ := hW
  have hA : DataW.TrodAll enc Try.prog W 0 (fun _ => true) true Try.f9.params.toList args.toList ds p := hA0
  rw [Try.params9] at hA hval
  obtain ⟨v0, vs0, d0, ds0, p0, q0, hargs, rfl, rfl, h0, r0⟩ := trodAll_cons hA
  obtain ⟨rfl, rfl, rfl⟩ := trodAll_nil r0
  obtain rfl : args = #[v0] := by cases args; simp_all
  obtain ⟨rfl, rfl⟩ := trodVars_none hV
  obtain ⟨l0, ha0, hs0⟩ := LS.open_sizes (hval 0 55 v0 rfl rfl) h0
  clear hA0 hval0
  simp only [List.append_nil] at hW'
  refine (walk v0 l0 W ha0 hs0).mono fun e W' ⟨he, hg⟩ => ?_
  subst he
  exact ⟨_, rfl, _, _, _, [], _, _, hW', (trodAll_cons_mk (shut_bool Try.underlying4 _) trodAll_mk0), (trodAll_cons_mk (OB.shut_any (by kernel_rfl) (by kernel_rfl) (by decide) h0 hg) trodAll_mk0), rfl, hg.frame _, fun h => by cases h⟩

theorem over : Rows.layoutApartRow.holds Try.pinned (OpenSpec.ofChange Rows.layoutApartSpec) :=
  OpenClaim.holds_of_wide 9 Try.f9 rfl rfl rfl rfl rfl rfl rfl ⟨rfl, rfl, rfl, rfl, rfl⟩ rfl rfl rfl rfl rfl (by kernel_rfl) Try.func9 (by kernel_rfl)
    (of_decide_eq_true (by kernel_rfl)) (by unfold Func.isWrapper; first | (rw [if_pos (by decide +kernel)]; kernel_rfl) | (rw [if_neg (by decide +kernel)]; exact ⟨rfl, rfl⟩))
    (fun os started H enc _ => lifted os started H enc)

/-- The statement. -/
theorem proved : Rows.LayoutApartSaid :=
  over
end Go.Proofs.Ytaocclgnpphjfaa.layoutApart
