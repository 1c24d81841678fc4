/-
  Of any objects and any number the law LinkOrder returns true: objects that stand in another order are linked just if they are in this one, or else with the same error, but where something is too far.
  Conditions: none beyond those of the given statement.
-/
import Derived.Test.YtlmblfkcmhgdaaaGreatRows
import Derived.Test.YtlmblfkcmhgdaaaGreatLinkQd
import Derived.Test.YtlmblfkcmhgdaaaGreatLinkQe
import Derived.Test.YtlmblfkcmhgdaaaGreatResQa
import Derived.BigQuiet
import Derived.BigRegion
import Derived.WalkKit
import Derived.ProofKit
import Derived.OpenShut
namespace Go.Proofs.YtlmblfkcmhgdaaaGreat.linkOrder
open Go.ChangeShapes Go.WideShapes Go.ChangeAt Go.RowKit
set_option linter.unusedVariables false
set_option linter.unusedSimpArgs false

theorem own : ownKnob Tryz.prog.godebug = none := by kernel_rfl
open OO OJ RsM RsF RsB RsY LM KB KC KM KN KG KW KX KT KO LV
theorem few_sz {objs : List ObjV} (h : fewO objs = true) : objs.length ≤ 65536 ∧ (∀ o ∈ objs, o.rs.length ≤ 100000) ∧ ∀ x ∈ szL objs, x.1 ≤ 4294967296 ∧ x.2 ≤ 4294967296 := by
  obtain ⟨h1, h2⟩ := fewO_lim h
  refine ⟨by omega, fun o ho => by have := OE.few_lim (h2 o ho); omega, fun x hx => ?_⟩
  unfold szL at hx
  obtain ⟨o, ho, rfl⟩ := List.mem_map.1 hx
  have := OE.few_lim (h2 o ho)
  simp only
  omega
theorem few_turned {objs : List ObjV} (h : fewO objs = true) (k : Nat) : fewO (turned objs k) = true := by
  obtain ⟨h1, h2⟩ := fewO_lim h
  unfold fewO
  rw [turned_len, decide_eq_true h1, Bool.true_and, List.all_eq_true]
  exact fun o ho => h2 o (turned_mem.1 ho)
theorem pre_turned {objs : List ObjV} {k : Nat} (hk : k ≤ objs.length) : preOf (turned objs k) = preOf objs := by
  unfold preOf
  rw [main_mv (turned_same hk), turned_ok]
theorem codes {objs : List ObjV} (hw : ∀ o ∈ objs, o.Wf) {k : Nat} (hk : k ≤ objs.length) :
    (∃ P, (linkOut objs).2 = P ∧ (linkOut (turned objs k)).2 = P ∧ P ≠ 0 ∧ P ≠ 7) ∨ ((linkOut objs).2 = 0 ∧ (linkOut (turned objs k)).2 = 0) ∨ ((linkOut objs).2 = 0 ∧ (linkOut (turned objs k)).2 = 7) ∨ ((linkOut objs).2 = 7 ∧ (linkOut (turned objs k)).2 = 0) ∨ ((linkOut objs).2 = 7 ∧ (linkOut (turned objs k)).2 = 7) := by
  have hp := pre_turned hk
  have a := link_code hw
  have b := link_code (objs := turned objs k) fun o ho => hw o (turned_mem.1 ho)
  have h7 : preOf objs ≠ 7 := by
    unfold preOf
    split
    · exact main_codes objs
    · split <;> decide
  rw [hp] at b
  rcases a with ⟨a0, a1⟩ | ⟨a0, a1⟩
  · rcases b with ⟨b0, b1⟩ | ⟨b0, b1⟩
    · exact .inl ⟨_, a1, b1, a0, h7⟩
    · exact absurd b0 a0
  · rcases b with ⟨b0, b1⟩ | ⟨b0, b1⟩
    · exact absurd a0 b0
    · rcases a1 with a1 | a1 <;> rcases b1 with b1 | b1 <;> simp [a1, b1]
/-- Link, in short -/
theorem link_short {w : World} {n₀ : Nat} {v : Value} {objs : List ObjV} (x : Int) (hx : (linkOut objs).2 = x) (hn : n₀ ≤ w.heap.size) (ho : ObjsAt n₀ w v objs) (hw : ∀ o ∈ objs, o.Wf) (hf : fewO objs = true) (m : Nat) (hm : m = if x = 0 then dend (szL objs) else 0) :
    Calls Tryz.prog 13 #[v] w fun e w' => ∃ q cc, e = .returned (.tuple #[.agg #[.int .i64 0, .slice q m cc], .int .i64 x]) ∧ Below w.heap.size w w' := by
  obtain ⟨h1, h2, h3⟩ := few_flat hf
  obtain ⟨h4, h5, h6⟩ := few_sz hf
  refine (Link_ hn ho hw h4 h2 h5 h3 h6).mono ?_
  rintro e w' ⟨hb, ⟨c0, -, rfl⟩ | ⟨c0, -, -, -, g, rfl, -, -⟩⟩
  · rw [hx] at c0
    rw [if_neg c0] at hm
    subst hm
    exact ⟨none, 0, by rw [hx], hb⟩
  · rw [hx] at c0
    rw [if_pos c0] at hm
    subst hm
    exact ⟨_, _, by rw [c0], hb⟩

set_option maxRecDepth 100000 in
set_option maxHeartbeats 8000000 in
theorem walk (v0 : Value) (objs0 : List OO.ObjV) (a1 : Int) (wa1 : (Lit.int .i64 a1).wf = true) (w : World) (ha0 : RsM.ObjsAt w.heap.size w v0 objs0) (hw0 : ∀ o ∈ objs0, o.Wf) :
    Calls Tryz.prog 5 #[v0, .int .i64 a1] w fun e w' => e = .returned (.bool true) ∧ Below w.heap.size w w' := by
  have HO := Lib.hid ha0
  have HW := Lib.hid hw0
  have HM := Lib.hid (OB.Sl_len ha0)
  obtain ⟨p, c, rfl, hsl⟩ := ha0
  have HSL := Lib.hid hsl
  clear hw0 hsl
  cases hf : RsF.fewO objs0 with
  | false =>
    have HF := Lib.hid hf
    clear hf
    go_enter Tryz.func5, Tryz.ntmps5
    go_wp2_with (first
      | (go_at_call 10; (first
          | (with_reducible refine (KW.awake_ _).mono ?_; rintro e w3 ⟨rfl, hb3⟩; have HB3 := Lib.hid (HB2.out.trans (hb3.mono HB2.out.size)); clear hb3)
          | (with_reducible refine (KW.awake_ _).mono ?_; rintro e w1 ⟨rfl, hb1⟩; have HB1 := Lib.hid hb1; clear hb1)))
      | (go_at_call 11; (with_reducible refine (RsF.fewO_ HB1.out.size (ObjsAt.same HO.out (Same.of HB1.out (Nat.le_refl _))) HW.out HM.out).mono ?_); rintro e w2 ⟨rfl, hb2⟩; rw [HF.out]; have HB2 := Lib.hid (HB1.out.trans (hb2.mono HB1.out.size)); clear hb2))
    go_ret
    exact ⟨rfl, HB3.out⟩
  | true =>
    have HF := Lib.hid hf
    clear hf
    by_cases hz : objs0.length = 0
    · have hz0 : ((objs0.length : Int) == 0) = true := by simpa using hz
      clear hz
      go_enter Tryz.func5, Tryz.ntmps5
      go_wp2_with (first
        | (go_at_call 10; (first
            | (with_reducible refine (KW.awake_ _).mono ?_; rintro e w3 ⟨rfl, hb3⟩; have HB3 := Lib.hid (HB2.out.trans (hb3.mono HB2.out.size)); clear hb3)
            | (with_reducible refine (KW.awake_ _).mono ?_; rintro e w1 ⟨rfl, hb1⟩; have HB1 := Lib.hid hb1; clear hb1)))
        | (go_at_call 11; (with_reducible refine (RsF.fewO_ HB1.out.size (ObjsAt.same HO.out (Same.of HB1.out (Nat.le_refl _))) HW.out HM.out).mono ?_); rintro e w2 ⟨rfl, hb2⟩; rw [HF.out]; have HB2 := Lib.hid (HB1.out.trans (hb2.mono HB1.out.size)); clear hb2))
      go_ret
      exact ⟨rfl, HB3.out⟩
    · have hz0 : ((objs0.length : Int) == 0) = false := by simpa using hz
      have HZ := Lib.hid hz
      clear hz
      go_enter Tryz.func5, Tryz.ntmps5
      go_upto_region 3 with (first
        | (go_at_call 10; with_reducible refine (KW.awake_ _).mono ?_; rintro e w1 ⟨rfl, hb1⟩; have HB1 := Lib.hid hb1; clear hb1)
        | (go_at_call 11; (with_reducible refine (RsF.fewO_ HB1.out.size (ObjsAt.same HO.out (Same.of HB1.out (Nat.le_refl _))) HW.out HM.out).mono ?_); rintro e w2 ⟨rfl, hb2⟩; rw [HF.out]; have HB2 := Lib.hid (HB1.out.trans (hb2.mono HB1.out.size)); clear hb2))
      have hm12 := (RsF.fewO_lim HF.out).1
      obtain ⟨k, hkn, hK⟩ : ∃ k : Nat, k < objs0.length ∧ wrap64 ((IntKind.u64.wrap a1).tmod (objs0.length : Int)) = (k : Int) := by
        have hn : (0 : Int) < objs0.length := by have := HZ.out; omega
        have h1 := Int.emod_lt_of_pos (a1 % 18446744073709551616) hn
        have h2 := Int.emod_nonneg (a1 % 18446744073709551616) (Int.ne_of_gt hn)
        refine ⟨((a1 % 18446744073709551616) % objs0.length).toNat, by omega, ?_⟩
        rw [show IntKind.u64.wrap a1 = a1 % 18446744073709551616 by simp [IntKind.wrap, IntKind.bits, IntKind.signed], Int.tmod_eq_emod_of_nonneg (by omega), IntWalk.wrap64_in _ (by omega)]
        omega
      have HK := Lib.hid hK
      clear hK
      go_upto_region 4 with fail
      rw [HK.out]
      clear HK
      obtain ⟨b, o, rfl, hb, hc1, hc2, -⟩ := HSL.out (by omega)
      obtain ⟨oc, hocl, hoc1, hocb, hoca⟩ := objs_cells HO.out
      obtain ⟨b', o', e, -, hocc⟩ := hocb (by omega)
      cases e
      obtain ⟨i0, hi, hi0, hi1, hi2⟩ := info_parts infoO
      have hs2 := HB2.out.size
      have HOCC := Lib.hid hocc
      have HOCA := Lib.hid hoca
      have HCC := Lib.hid (⟨hc1, hc2⟩ : _ ∧ _)
      have d1 : (k : Int) ≤ (objs0.length : Int) := by omega
      have d2 : (0 : Int) ≤ (k : Int) := by omega
      have d3 : (k : Int) ≤ (c : Int) := by omega
      have d4 : (objs0.length : Int) ≤ (c : Int) := by omega
      have d5 : ¬ c = k := by omega
      have hl1 : (oc.drop (k * 4)).length = (objs0.length - k) * 4 := by rw [List.length_drop, hocl]; omega
      have hl2 : (oc.take (k * 4)).length = k * 4 := by rw [List.length_take, hocl]; omega
      have hg1 : ∀ (W : World), Below w2.heap.size w2 W → ∀ j u, (oc.drop (k * 4))[j]? = some u → W.cell? ⟨b, o + k * 4 + j, none⟩ = some u := fun W hW j u hu => by
        rw [List.getElem?_drop] at hu
        rw [Nat.add_assoc]
        exact (hW.cell (p := ⟨b, o + (k * 4 + j), none⟩) (by show b < w2.heap.size; omega)).trans ((HB2.out.cell (p := ⟨b, o + (k * 4 + j), none⟩) hb).trans (HOCC.out _ _ hu))
      have hg2 : ∀ (W : World), Below w2.heap.size w2 W → ∀ j u, (oc.take (k * 4))[j]? = some u → W.cell? ⟨b, o + j, none⟩ = some u := fun W hW j u hu => by
        have hj : j < k * 4 := by have := (List.getElem?_eq_some_iff.1 hu).1; omega
        rw [List.getElem?_take, if_pos hj] at hu
        exact (hW.cell (p := ⟨b, o + j, none⟩) (by show b < w2.heap.size; omega)).trans ((HB2.out.cell (p := ⟨b, o + j, none⟩) hb).trans (HOCC.out _ _ hu))
      have HG1 := Lib.hid hg1
      have HG2 := Lib.hid hg2
      clear hg1 hg2 hocc hoca hocb
      go_region_held3 (fun w' => True) (first | trivial | go_keep)
        ((first
          | (refine step_append_sl0 _ (by rfl) _ _ _ (by rfl) w2.heap.size TO i0 (.agg #[.slice none 0 0, .slice none 0 0, .slice none 0 0, .slice none 0 0]) 4 96 Tryz.underlying22 hi hi0 hi1 hi2 rfl (by decide) (w2.heap.size) (by rfl) ((own0 w2 w2.heap.size rfl (Nat.le_refl _)).drew) (some ⟨b, o + k * 4, none⟩) (objs0.length - k) (c - k) (oc.drop (k * 4)) (by rfl) hl1 (fun _ => ⟨b, o + k * 4, rfl, HG1.out _ ((Below.refl w2.heap.size w2).alloc (Nat.le_refl _) _).drew⟩) (fun u hu => hoc1 u (List.mem_of_mem_drop hu)) (by unfold maxLen; omega) (by omega) (by simp) ?_; intro pA cA wa hownA hgrowA; have HBA := Lib.hid (((Below.refl w2.heap.size w2).alloc (Nat.le_refl _) _).drew.grown hgrowA (by simp) (fun g hg => by cases hg; omega)); have HOA := Lib.hid hownA)
          | (refine step_append_sl _ (by simp [Region.wanted]) _ _ _ (by rfl) w2.heap.size TO i0 (.agg #[.slice none 0 0, .slice none 0 0, .slice none 0 0, .slice none 0 0]) 4 96 Tryz.underlying22 hi hi0 hi1 hi2 rfl (by decide) (.slice pA (objs0.length - k) cA) (objs0.length - k) (oc.drop (k * 4)) (by rfl) HOA.out (some ⟨b, o, none⟩) k c (oc.take (k * 4)) (by rfl) hl2 (fun _ => ⟨b, o, rfl, HG2.out _ HBA.out⟩) (fun u hu => hoc1 u (List.mem_of_mem_take hu)) (by unfold maxLen; omega) (by omega) HBA.out.size ?_; intro pB cB wb hownB hgrowB _; have HBB := Lib.hid (HBA.out.grown hgrowB HBA.out.size (fun g hg => (HOA.out.lt g hg).1)); have HOB := Lib.hid hownB)))
      have hnk : objs0.length - k + k = objs0.length := by omega
      rw [hnk] at hownB
      rw [hnk]
      have hbw : Below w.heap.size w wb := HB2.out.trans (HBB.out.mono hs2)
      have htu : ObjsAt wb.heap.size wb (.slice pB objs0.length cB) (turned objs0 k) := objs_of (turned_len _ _).symm hownB (turned_cells (Nat.le_of_lt hkn) hocl (fun i x hx => by
        obtain ⟨v0, v1, v2, v3, e0, e1, e2, e3, ho⟩ := HOCA.out i x hx
        exact ⟨v0, v1, v2, v3, e0, e1, e2, e3, (ho.below hbw).up hbw.size⟩))
      have hob : ObjsAt w.heap.size wb (.slice (some ⟨b, o, none⟩) objs0.length c) objs0 := ObjsAt.same HO.out (Same.of hbw (Nat.le_refl _))
      have HBW := Lib.hid hbw
      have HTU := Lib.hid htu
      have HWT := Lib.hid (fun o ho => HW.out o (turned_mem.1 ho) : ∀ o ∈ turned objs0 k, o.Wf)
      have HFT := Lib.hid (few_turned HF.out k)
      have hcs := codes HW.out (Nat.le_of_lt hkn)
      have hdd := turned_dend objs0 k
      have l1 := fun x hx m hm => link_short (w := wb) x hx hbw.size hob HW.out HF.out m hm
      have l2 := fun (W : World) (hW : Below wb.heap.size wb W) x hx m hm => link_short (w := W) (n₀ := wb.heap.size) x hx hW.size (ObjsAt.same HTU.out (Same.of hW (Nat.le_refl _))) HWT.out HFT.out m hm
      clear hbw htu hob hownA hgrowA hownB hgrowB HOA HOB HBA HOCC HOCA HG1 HG2 hl1 hl2 hoc1 hocl HSL hnk d1 d2 d3 d4 d5
      rw [hdd] at l2
      clear hdd
      have key : ∀ x y m1 m2, (linkOut objs0).2 = x → (linkOut (turned objs0 k)).2 = y → (m1 = if x = 0 then dend (szL objs0) else 0) → (m2 = if y = 0 then dend (szL objs0) else 0) → (Calls Tryz.prog 13 #[.slice (some ⟨b, o, none⟩) objs0.length c] wb fun e w' => ∃ q cc, e = .returned (.tuple #[.agg #[.int .i64 0, .slice q m1 cc], .int .i64 x]) ∧ Below wb.heap.size wb w') ∧ ∀ W, Below wb.heap.size wb W → Calls Tryz.prog 13 #[.slice pB objs0.length cB] W fun e w' => ∃ q cc, e = .returned (.tuple #[.agg #[.int .i64 0, .slice q m2 cc], .int .i64 y]) ∧ Below W.heap.size W w' := fun x y m1 m2 hx hy h1 h2 => ⟨l1 x hx m1 h1, fun W hW => l2 W hW y hy m2 h2⟩
      clear l1 l2
      rcases hcs with ⟨P, c1, c2, c3, c4⟩ | ⟨c1, c2⟩ | ⟨c1, c2⟩ | ⟨c1, c2⟩ | ⟨c1, c2⟩
      · obtain ⟨k1, k2⟩ := key _ _ 0 0 c1 c2 (by rw [if_neg c3]) (by rw [if_neg c3])
        have e7 : (P == 7) = false := by simpa using c4
        have e0 : (P == 0) = false := by simpa using c3
        have eP : (P == P) = true := by simp
        clear c1 c2 c3 c4 key
        go_wp2_with (go_at_call 13; (first
          | (with_reducible refine (k2 _ HC5.out).mono ?_; rintro e w7 ⟨q7, cc7, rfl, hb7⟩; have m7 := (hb7.cell (p := ⟨w5.heap.size, 1, none⟩) (by simp)).trans (Lib.cell_of_heap (heap_alloc_new w5 _) 1); have m8 := (World.cell?_alloc_lt (w := w7) (a := ⟨w5.heap.size, 1, none⟩) (o := .cells #[.int .i64 0, .slice q7 0 cc7] TI) (by have := hb7.size; rw [World.size_alloc] at this; show w5.heap.size < w7.heap.size; omega)).trans m7; have HC7 := Lib.hid (HC5.out.trans (hb7.mono HC5.out.size)); clear hb7 k2)
          | (with_reducible refine k1.mono ?_; rintro e w5 ⟨q5, cc5, rfl, hb5⟩; have HC5 := Lib.hid (hb5.alloc hb5.size (.cells #[.int .i64 0, .slice q5 0 cc5] TI)); clear hb5 k1)))
        go_ret
        exact ⟨rfl, HBW.out.trans ((HC7.out.alloc HC7.out.size _).mono HBW.out.size)⟩
      · obtain ⟨k1, k2⟩ := key _ _ _ _ c1 c2 (by rw [if_pos rfl]) (by rw [if_pos rfl])
        clear c1 c2 key
        generalize dend (szL objs0) = D at *
        go_wp2_with (go_at_call 13; (first
          | (with_reducible refine (k2 _ HC5.out).mono ?_; rintro e w7 ⟨q7, cc7, rfl, hb7⟩; have m7 := (hb7.cell (p := ⟨w5.heap.size, 1, none⟩) (by simp)).trans (Lib.cell_of_heap (heap_alloc_new w5 _) 1); have m8 := (World.cell?_alloc_lt (w := w7) (a := ⟨w5.heap.size, 1, none⟩) (o := .cells #[.int .i64 0, .slice q7 D cc7] TI) (by have := hb7.size; rw [World.size_alloc] at this; show w5.heap.size < w7.heap.size; omega)).trans m7; have HC7 := Lib.hid (HC5.out.trans (hb7.mono HC5.out.size)); clear hb7 k2)
          | (with_reducible refine k1.mono ?_; rintro e w5 ⟨q5, cc5, rfl, hb5⟩; have HC5 := Lib.hid (hb5.alloc hb5.size (.cells #[.int .i64 0, .slice q5 D cc5] TI)); clear hb5 k1)))
        go_ret
        exact ⟨rfl, HBW.out.trans ((HC7.out.alloc HC7.out.size _).mono HBW.out.size)⟩
      · obtain ⟨k1, k2⟩ := key _ _ _ _ c1 c2 (by rw [if_pos rfl]) (by rw [if_neg (by decide)])
        clear c1 c2 key
        generalize dend (szL objs0) = D at *
        go_wp2_with (go_at_call 13; (first
          | (with_reducible refine (k2 _ HC5.out).mono ?_; rintro e w7 ⟨q7, cc7, rfl, hb7⟩; have m7 := (hb7.cell (p := ⟨w5.heap.size, 1, none⟩) (by simp)).trans (Lib.cell_of_heap (heap_alloc_new w5 _) 1); have m8 := (World.cell?_alloc_lt (w := w7) (a := ⟨w5.heap.size, 1, none⟩) (o := .cells #[.int .i64 0, .slice q7 0 cc7] TI) (by have := hb7.size; rw [World.size_alloc] at this; show w5.heap.size < w7.heap.size; omega)).trans m7; have HC7 := Lib.hid (HC5.out.trans (hb7.mono HC5.out.size)); clear hb7 k2)
          | (with_reducible refine k1.mono ?_; rintro e w5 ⟨q5, cc5, rfl, hb5⟩; have HC5 := Lib.hid (hb5.alloc hb5.size (.cells #[.int .i64 0, .slice q5 D cc5] TI)); clear hb5 k1)))
        go_ret
        exact ⟨rfl, HBW.out.trans ((HC7.out.alloc HC7.out.size _).mono HBW.out.size)⟩
      · obtain ⟨k1, k2⟩ := key _ _ _ _ c1 c2 (by rw [if_neg (by decide)]) (by rw [if_pos rfl])
        clear c1 c2 key
        generalize dend (szL objs0) = D at *
        go_wp2_with (go_at_call 13; (first
          | (with_reducible refine (k2 _ HC5.out).mono ?_; rintro e w7 ⟨q7, cc7, rfl, hb7⟩; have m7 := (hb7.cell (p := ⟨w5.heap.size, 1, none⟩) (by simp)).trans (Lib.cell_of_heap (heap_alloc_new w5 _) 1); have m8 := (World.cell?_alloc_lt (w := w7) (a := ⟨w5.heap.size, 1, none⟩) (o := .cells #[.int .i64 0, .slice q7 D cc7] TI) (by have := hb7.size; rw [World.size_alloc] at this; show w5.heap.size < w7.heap.size; omega)).trans m7; have HC7 := Lib.hid (HC5.out.trans (hb7.mono HC5.out.size)); clear hb7 k2)
          | (with_reducible refine k1.mono ?_; rintro e w5 ⟨q5, cc5, rfl, hb5⟩; have HC5 := Lib.hid (hb5.alloc hb5.size (.cells #[.int .i64 0, .slice q5 0 cc5] TI)); clear hb5 k1)))
        go_ret
        exact ⟨rfl, HBW.out.trans ((HC7.out.alloc HC7.out.size _).mono HBW.out.size)⟩
      · obtain ⟨k1, k2⟩ := key _ _ 0 0 c1 c2 (by rw [if_neg (by decide)]) (by rw [if_neg (by decide)])
        clear c1 c2 key
        go_wp2_with (go_at_call 13; (first
          | (with_reducible refine (k2 _ HC5.out).mono ?_; rintro e w7 ⟨q7, cc7, rfl, hb7⟩; have m7 := (hb7.cell (p := ⟨w5.heap.size, 1, none⟩) (by simp)).trans (Lib.cell_of_heap (heap_alloc_new w5 _) 1); have m8 := (World.cell?_alloc_lt (w := w7) (a := ⟨w5.heap.size, 1, none⟩) (o := .cells #[.int .i64 0, .slice q7 0 cc7] TI) (by have := hb7.size; rw [World.size_alloc] at this; show w5.heap.size < w7.heap.size; omega)).trans m7; have HC7 := Lib.hid (HC5.out.trans (hb7.mono HC5.out.size)); clear hb7 k2)
          | (with_reducible refine k1.mono ?_; rintro e w5 ⟨q5, cc5, rfl, hb5⟩; have HC5 := Lib.hid (hb5.alloc hb5.size (.cells #[.int .i64 0, .slice q5 0 cc5] TI)); clear hb5 k1)))
        go_ret
        exact ⟨rfl, HBW.out.trans ((HC7.out.alloc HC7.out.size _).mono HBW.out.size)⟩

set_option maxRecDepth 100000 in
theorem lifted (os : Os) (started : os.Started) (H : Type) (enc : TypeId × Value → H) :
    ReturnsInHanded {} Tryz.checked os 5 .any (Rows.linkOrderSpec.pre6 enc Tryz.prog Tryz.f5 Rows.linkOrderRow.domain false) (Rows.linkOrderSpec.post enc Tryz.prog Tryz.f5 false true false false) := by
  refine returnsInHanded_of_change (C := Tryz.checked) own started (by kernel_rfl) Tryz.func5
    (ChangeSpec.witness6 (enc := enc) (C := Tryz.checked) false ⟨#[], #[.slice none 0 0, .int .i64 0], []⟩ 8 (by kernel_rfl) (by kernel_rfl) (by kernel_rfl) (by kernel_rfl)) ?_
  intro W base args ds gs before hval0 hW hcnd _
  have hval : ∀ (j : Nat) t v, Tryz.f5.params[j]? = some t → args[j]? = some v → Value.okWide Tryz.prog W .any base t v := hval0
  have hW' := hW
  obtain ⟨p, q, hA0, hV, rfl, hfz, hnd⟩ := hW
  have hA : DataW.TrodAll enc Tryz.prog W 0 (fun _ => true) true Tryz.f5.params.toList args.toList ds p := hA0
  rw [Tryz.params5] at hA hval
  obtain ⟨v0, vs0, d0, ds0, p0, q0, hargs, rfl, rfl, h0, r0⟩ := trodAll_cons hA
  obtain ⟨v1, vs1, d1, ds1, p1, q1, rfl, rfl, rfl, h1, r1⟩ := trodAll_cons r0
  obtain ⟨rfl, rfl, rfl⟩ := trodAll_nil r1
  obtain rfl : args = #[v0, v1] := by cases args; simp_all
  obtain ⟨rfl, rfl⟩ := trodVars_none hV
  obtain ⟨objs0, ha0, hw0⟩ := RsO.open_objs (hval 0 22 v0 rfl rfl) h0
  obtain ⟨a1, rfl, rfl, rfl, wa1⟩ := open_int Tryz.underlying3 (hval 1 3 v1 rfl rfl) h1
  clear hA0 hval0
  simp only [List.append_nil] at hW'
  refine (walk v0 objs0 a1 wa1 W ha0 hw0).mono fun e W' ⟨he, hg⟩ => ?_
  subst he
  exact ⟨_, rfl, _, _, _, [], _, _, hW', (trodAll_cons_mk (shut_bool Tryz.underlying4 _) trodAll_mk0), (trodAll_cons_mk (OB.shut_any (by kernel_rfl) (by kernel_rfl) (by decide) h0 hg) (trodAll_cons_mk (shut_int Tryz.underlying3 wa1) trodAll_mk0)), rfl, hg.frame _, fun h => by cases h⟩

theorem over : Rows.linkOrderRow.holds Tryz.pinned (OpenSpec.ofChange Rows.linkOrderSpec) :=
  OpenClaim.holds_of_wide 5 Tryz.f5 rfl rfl rfl rfl rfl rfl rfl ⟨rfl, rfl, rfl, rfl, rfl⟩ rfl rfl rfl rfl rfl (by kernel_rfl) Tryz.func5 (by kernel_rfl)
    (of_decide_eq_true (by kernel_rfl)) (by unfold Func.isWrapper; first | (rw [if_pos (by decide +kernel)]; kernel_rfl) | (rw [if_neg (by decide +kernel)]; exact ⟨rfl, rfl⟩))
    (fun os started H enc _ => lifted os started H enc)

/-- The statement. -/
theorem proved : Rows.LinkOrderSaid :=
  over
end Go.Proofs.YtlmblfkcmhgdaaaGreat.linkOrder
