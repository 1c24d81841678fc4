/-
  For every word and every address the law PatchStores returns true: an LUI and an SW that are patched with the address put the word there.
  Conditions: none beyond those of the given statement.
-/
import Derived.Test.YtieehjkmfmkfjabRows
import Derived.Test.YtieehjkmfmkfjabPatS
import Derived.Test.YtieehjkmfmkfjabObjI
import Derived.BigGuardPart
import Derived.WalkSpells
import Derived.WalkKit
import Derived.ProofKit
import Derived.OpenShut
namespace Go.Proofs.Ytieehjkmfmkfjab.patchStores
open Go.ChangeShapes Go.WideShapes Go.ChangeAt Go.RowKit
set_option linter.unusedVariables false
set_option linter.unusedSimpArgs false

theorem own : ownKnob Try.prog.godebug = none := by kernel_rfl
open PM PC PA PL PS MM MC MB MP MQ MR MX OI
open MK hiding image_of
def dst (i : Nat) : Nat := if i = 11 then 4 else 96 + i
theorem dst_inj (i j : Nat) (hi : i < 12) (hj : j < 12) (h : dst i = dst j) : i = j := by
  unfold dst at h
  split at h <;> split at h <;> omega
theorem is_two (w : World) : Is (w.alloc (.cells #[.int .i64 18, .int .i64 17, .int .i64 0, .int .i64 0, .int .i64 2, .int .i64 42, .int .i64 0, .int .i64 0, .int .i64 0, .int .i64 0] 31)) (.slice (some ⟨w.heap.size, 0, none⟩) 2 2) [(18, 17, 0, 0, 2), (42, 0, 0, 0, 0)] := by
  have hg := heap_alloc_new w (.cells #[.int .i64 18, .int .i64 17, .int .i64 0, .int .i64 0, .int .i64 2, .int .i64 42, .int .i64 0, .int .i64 0, .int .i64 0, .int .i64 0] 31)
  refine ⟨w.heap.size, 2, rfl, by simp, fun k a b c d e hk => ?_⟩
  have c := fun j => cell_of_row _ w.heap.size j _ _ _ hg
  match k, hk with
  | 0, hk => cases hk; exact ⟨c 0, c 1, c 2, c 3, c 4⟩
  | 1, hk => cases hk; exact ⟨c 5, c 6, c 7, c 8, c 9⟩
  | (k + 2), hk => simp at hk
theorem field_n (a b n : Int) (p : Option Addr) (l c : Nat) (w : World) : (Instr.field 43 (.agg #[.int .i64 a, .int .u32 b, .slice p l c, .int .i64 n]) 3).run Try.prog w = .ok (.int .i64 n) w := by kernel_rfl
theorem addr_is (r : Int) (h : 0 ≤ r ∧ r ≤ 65535) : ∃ a : Nat, 64 ≤ a ∧ a ≤ 16060 ∧ a % 4 = 0 ∧ 64 + 4 * (r % 4000) = (a : Int) := ⟨(64 + 4 * (r % 4000)).toNat, by omega, by omega, by omega, by omega⟩

set_option maxRecDepth 100000 in
set_option maxHeartbeats 8000000 in
theorem walk (a0 : Int) (wa0 : (Lit.int .u32 a0).wf = true) (a1 : Int) (wa1 : (Lit.int .u16 a1).wf = true) (w : World) :
    Calls Try.prog 6 #[.int .u32 a0, .int .u16 a1] w fun e w' => e = .returned (.bool true) ∧ Below w.heap.size w w' := by
  have hv := bounds_u32 wa0
  have hr := bounds_u16 wa1
  obtain ⟨a, ha1, ha2, ha4, hav⟩ := addr_is a1 hr
  have hab : 0 ≤ (a : Int) ∧ (a : Int) ≤ 4294967295 := by omega
  obtain ⟨p1, p2, p3, p4, HG⟩ := store_words (a : Int)
  have c1 := fun w => CE.encode_ 38 5 0 0 0 (by decide) w
  have c2 := fun w => CE.encode_ 31 0 5 10 0 (by decide) w
  have c3 := fun w => patch_ 1 (CE.encW 38 5 0 0 0) (a : Int) 8 (CL.enc_bd _ _ _ _ _) hab (by omega) w
  have c4 := fun w => patch_ 3 (CE.encW 31 0 5 10 0) (a : Int) 12 (CL.enc_bd _ _ _ _ _) hab (by omega) w
  rw [lui0 (by omega)] at c1
  rw [sw0] at c2
  rw [p1, p2] at c3
  rw [p3, p4] at c4
  unfold CW.iv at c1 c2
  have hhi := hi_bd (a : Int)
  have hpp := parts (a : Int) hab
  obtain ⟨T, hT, t1, t2, t3⟩ := store_run (N := 17024) HG hhi hpp (by omega) ha4 (by omega) a0 hv (MW.loaded (fb ((storeL (hiI (a : Int)) (loI (a : Int))).map wordOf)) 16 (MW.up 16) 17024 0) ⟨code_loaded (storeL _ _) _ _ _, rfl, rfl, rfl⟩
  have t4 : PS.part T.s.mem a 4 = bts [a0] := by rw [t3]; exact part_lay _ _ _
  have cb := fun (w : World) v (h : Ws w v ((storeL (hiI (a : Int)) (loI (a : Int))).map wordOf)) => bytes_ w v _ (by show 4 ≤ 100000; omega) h
  have hx : (storeL (hiI (a : Int)) (loI (a : Int))).map wordOf = [CE.encW 18 17 0 0 2, CE.encW 42 0 0 0 0, CE.encW 38 5 0 0 (hiI (a : Int)), CE.encW 31 0 5 10 (loI (a : Int))] := rfl
  have hF := fine_loaded (fb_bd ((storeL (hiI (a : Int)) (loI (a : Int))).map wordOf)) 16 17024 (MW.up 16) 0 (by decide) (by omega) (by omega)
  have cwd := fun w => words_ _ _ [(18, 17, 0, 0, 2), (42, 0, 0, 0, 0)] (by decide) (is_two w) (fun i hi => HG i (by simp only [List.mem_cons, List.not_mem_nil, or_false] at hi; rcases hi with rfl | rfl <;> simp [storeL]))
  have hy : ([(18, 17, 0, 0, 2), (42, 0, 0, 0, 0)] : List Ins).map wordOf = [CE.encW 18 17 0 0 2, CE.encW 42 0 0 0 0] := rfl
  rw [hx] at cb hT hF
  rw [hy] at cwd
  generalize CE.encW 38 5 0 0 (hiI (a : Int)) = X at *
  generalize CE.encW 31 0 5 10 (loI (a : Int)) = Y at *
  generalize CE.encW 38 5 0 0 0 = X0 at *
  generalize CE.encW 31 0 5 10 0 = Y0 at *
  generalize CE.encW 18 17 0 0 2 = U1 at *
  generalize CE.encW 42 0 0 0 0 = U2 at *
  have HT := Lib.hid hT
  have HT1 := Lib.hid t1
  have HT4 := Lib.hid t4
  have HFI := Lib.hid hF
  have hfl := field_n T.s.state (MV.codeOf T.s) 4
  obtain ⟨i0, hi, hz0, hz1, hz2⟩ := info_parts u32_info
  have HPP := Lib.hid (⟨ha1, ha2, ha4⟩ : _ ∧ _ ∧ _)
  clear hT t1 t2 t3 t4 hF hx hy HG p1 p2 p3 p4 hhi hpp hab ha1 ha2 ha4
  go_enter Try.func6, Try.ntmps6
  go_upto_region 10 with (first
    | (go_at_call 9; (with_reducible refine (awake_ _).mono ?_); rintro e w1 ⟨rfl, hb0⟩; have H0 := Lib.hid hb0; clear hb0)
    | (go_at_call 12; (with_reducible refine (c1 _).mono ?_); rintro e w2 ⟨rfl, hb2⟩; have H1 := Lib.hid (H0.out.trans (hb2.mono H0.out.size)); clear hb2)
    | (go_at_call 12; (with_reducible refine (c2 _).mono ?_); rintro e w3 ⟨rfl, hb2⟩; have H2 := Lib.hid (H1.out.trans (hb2.mono H1.out.size)); clear hb2)
    | (go_at_call 13; (with_reducible refine (c3 _).mono ?_); rintro e w4 ⟨rfl, hb2⟩; have H3 := Lib.hid (H2.out.trans (hb2.mono H2.out.size)); clear hb2)
    | (go_at_call 13; (with_reducible refine (c4 _).mono ?_); rintro e w5 ⟨rfl, hb2⟩; have H4 := Lib.hid (H3.out.trans (hb2.mono H3.out.size)); clear hb2))
  have hs5 := H4.out.size
  go_upto_region 11 with (first
    | (go_at_call 19; (with_reducible refine (cwd _).mono ?_); rintro e w6 ⟨v6, rfl, ho6, hb6⟩; have HO6 := Lib.hid ho6; have HS6 := Lib.hid hb6.size; have H5 := Lib.hid ((H4.out.alloc hs5 _).trans (hb6.mono (by simp only [World.size_alloc]; omega))); clear ho6 hb6)
    | (at_builtin; refine wpList_append_own_at _ rfl _ _ 38 rfl _ 22 i0 (.int .u32 0) 1 4 Try.underlying38 hi hz0 hz1 hz2 rfl (by decide) _ _ _ rfl (HO6.out.alloc _) ⟨w6.heap.size, 0, none⟩ 2 2 [.int .u32 X, .int .u32 Y] rfl rfl (World.news_of_block (cs := #[.int .u32 X, .int .u32 Y]) (t := 22) (fr := (0, 0)) (heap_alloc_new _ _)) (by simp [Value.oneCell']) (by unfold maxLen; show 2 + 2 ≤ _; omega) (by show (2 + 2) * 4 ≤ _; omega) (by have := HS6.out; rw [World.size_alloc w6]; omega) ?_; intro v7 w7 ho7 hg7 _ _))
  have hW7 : Ws w7 v7 [U1, U2, X, Y] := ws_of (xs := [U1, U2, X, Y]) ho7
  have H7 : Below w.heap.size w w7 := (H5.out.alloc H5.out.size _).grown hg7 (by have := H5.out.size; simp only [World.size_alloc]; omega) (fun g hg => by have := (HO6.out.lt g hg).1; simp only [World.size_alloc] at this; omega)
  have H7s := H7.size
  have H7h := Lib.hid H7
  clear ho7 hg7 HO6 HS6 H7
  have cbb := cb _ _ hW7
  clear hW7 cb
  go_upto_region 14 with (first
    | (go_at_call 15; (with_reducible refine cbb.mono ?_); rintro e w8 ⟨v8, rfl, ho8, hb8⟩; obtain ⟨g, cap, rfl, hg, hcell⟩ := MK.image_of ho8 (by simp) 16 rfl; have HC := Lib.hid hcell; have H8 := Lib.hid (H7h.out.trans (hb8.mono H7s)); clear ho8 hb8 hcell)
    | (go_at_call 14; (with_reducible refine (MW.load_ok 0 (by omega) g 0 16 cap 17000 (by omega) (by omega) (by decide) 17024 (by decide) _ _ hg HC.out).mono ?_); rintro e w9 ⟨b, bm, rfl, A, hb, hbm, hb3⟩; have HA := Lib.hid A; have H9 := Lib.hid (H8.out.trans (hb3.mono H8.out.size)); clear A hb3))
  have hs8 := H8.out.size
  have hs9 := H9.out.size
  have AA := HA.out.kept (w' := w9.alloc (.cells #[.int .u32 a0] 22)) (Below.heap_alloc _ _ _ (lt_of_get HA.out.head)) (Below.heap_alloc _ _ _ (lt_of_get HA.out.mem))
  have hl1 := lt_of_get HA.out.head
  have hl2 := lt_of_get HA.out.mem
  have I : MD.Inp (w9.alloc (.cells #[.int .u32 a0] 22)) (w9.alloc (.cells #[.int .u32 a0] 22)).heap.size b bm (.slice (some ⟨w9.heap.size, 0, none⟩) 1 1) [a0] := by
    refine ⟨.inr ⟨w9.heap.size, 0, 1, rfl, Nat.le_refl 1, by unfold maxLen; omega, by simp, by omega, by omega, fun j y hj => ?_⟩⟩
    match j, hj with
    | 0, hj => cases hj; exact Lib.cell_of_heap (heap_alloc_new w9 _) 0
    | j + 1, hj => simp at hj
  have cg := MV.run_ AA I HFI.out (fun y hy => by rw [List.mem_singleton.1 hy]; exact hv) (by omega) 4 (by omega) T HT.out (by have := HT1.out; omega)
  clear AA I HA
  go_upto_region 17 with (first
    | (go_at_call 16; (with_reducible refine cg.mono ?_); rintro e w10 ⟨p5, l5, c5, he, R⟩; rw [HT1.out] at he; subst he; have cby := bytes_in R.at_ (by omega) a 4 (by omega) (by have := HPP.out; omega); rw [show ((4 : Nat) : Int) = 4 from rfl] at cby; have HB10 := Lib.hid ((H9.out.alloc hs9 _).trans (R.own.below (by simp only [World.size_alloc]; omega) (by omega) (by omega))); clear R cg)
    | (go_at_call 20; (with_reducible refine cby.mono ?_); rintro e w11 ⟨gb, cap, rfl, ho, hb11⟩; rw [HT4.out] at ho; have HGOT := Lib.hid ho; have H11 := Lib.hid (HB10.out.trans (hb11.mono HB10.out.size)); clear ho hb11))
  obtain ⟨S, hS⟩ : ∃ S, strOf (bts [a0]) = S := ⟨_, rfl⟩
  have HS := Lib.hid hS
  have HS2 := Lib.hid hS
  clear hS
  refine facts_ (n := 12) (dst := dst) (F := fun i v W => match i with | 0 => v = .int .i64 0 | 1 => v = .bool true | 2 => v = .bool true | 3 => v = .slice (some ⟨gb, 0, none⟩) 4 cap | 4 => v = .string S | 5 => v = .int .u32 a0 | 6 => ∃ g, v = .slice (some ⟨g, 0, none⟩) 1 1 ∧ g < W.heap.size ∧ W.cell? ⟨g, 0, none⟩ = some (.int .u32 a0) | 7 => ∃ g c B, v = .slice (some ⟨g, 0, none⟩) 4 c ∧ W.ownsRow B 5 1 (.slice (some ⟨g, 0, none⟩) 4 c) 4 (u8s (bts [a0])) | 8 => v = .string S | 9 => v = .bool true | 10 => v = .bool true | 11 => v = .bool true | _ => True) (by kernel_rfl) (ahead_of (by kernel_rfl)) rfl dst_inj ?mono ?step ?done
  case mono =>
    intro i v W W' h hb
    match i, h with
    | 0, h => exact h
    | 1, h => exact h
    | 2, h => exact h
    | 3, h => exact h
    | 4, h => exact h
    | 5, h => exact h
    | 6, ⟨g, e, l, k⟩ => exact ⟨g, e, Nat.lt_of_lt_of_le l hb.size, (hb.cell (p := ⟨g, 0, none⟩) l).trans k⟩
    | 7, ⟨g, c, B, e, h⟩ => exact ⟨g, c, B, e, own_up h hb⟩
    | 8, h => exact h
    | 9, h => exact h
    | 10, h => exact h
    | 11, h => exact h
    | i + 12, h => trivial
  case step =>
    intro i op hop a W1 hM hF
    have hi : i < 12 := (Array.getElem?_eq_some_iff.1 hop).1
    match i, hi with
      | 0, _ =>
        cases hop
        refine op_ rfl rfl ?_
        have t18 : a.tmps[18]?.getD undef = .int .i64 0 := (Array.getD_eq_getD_getElem?).symm.trans ((hM.oth 18 (by intro i hi; unfold dst; split <;> omega)).trans rfl)
        have HM := Lib.hid hM
        clear hM hF
        go_simp
        exact did_put _ (by rw [HM.out.sz]; exact (by decide : dst 0 < 107)) (Below.refl _ _) (by rfl)
      | 1, _ =>
        cases hop
        refine op_ rfl rfl ?_
        have t96 : a.tmps[96]?.getD undef = .int .i64 0 := (Array.getD_eq_getD_getElem?).symm.trans (hF ⟨0, .data⟩ (by simp) rfl)
        have HM := Lib.hid hM
        clear hM hF
        go_simp
        exact did_put _ (by rw [HM.out.sz]; exact (by decide : dst 1 < 107)) (Below.refl _ _) (by rfl)
      | 2, _ =>
        cases hop
        refine op_ rfl rfl ?_
        have t97 : a.tmps[97]?.getD undef = .bool true := (Array.getD_eq_getD_getElem?).symm.trans (hF ⟨1, .data⟩ (by simp) rfl)
        have HM := Lib.hid hM
        clear hM hF
        go_simp
        exact did_put _ (by rw [HM.out.sz]; exact (by decide : dst 2 < 107)) (Below.refl _ _) (by rfl)
      | 3, _ =>
        cases hop
        have tg : a.tmps[98]?.getD undef = .bool true := (Array.getD_eq_getD_getElem?).symm.trans (hF ⟨2, .guard⟩ (by simp) rfl)
        refine op_g rfl (by simp [Region.wanted, yielded, got tg]) ?_
        clear tg
        have t17 : a.tmps[17]?.getD undef = .slice (some ⟨gb, 0, none⟩) 4 cap := (Array.getD_eq_getD_getElem?).symm.trans ((hM.oth 17 (by intro i hi; unfold dst; split <;> omega)).trans rfl)
        have HM := Lib.hid hM
        clear hM hF
        go_simp
        exact did_put _ (by rw [HM.out.sz]; exact (by decide : dst 3 < 107)) (Below.refl _ _) (by rfl)
      | 4, _ =>
        cases hop
        have tg : a.tmps[98]?.getD undef = .bool true := (Array.getD_eq_getD_getElem?).symm.trans (hF ⟨2, .guard⟩ (by simp) rfl)
        refine op_g rfl (by simp [Region.wanted, yielded, got tg]) ?_
        clear tg
        have t99 : a.tmps[99]?.getD undef = .slice (some ⟨gb, 0, none⟩) 4 cap := (Array.getD_eq_getD_getElem?).symm.trans (hF ⟨3, .data⟩ (by simp) rfl)
        have hcv := conv_row (own_up HGOT.out hM.bel)
        rw [HS.out] at hcv
        have HM := Lib.hid hM
        clear hM hF
        go_simp
        exact did_put _ (by rw [HM.out.sz]; exact (by decide : dst 4 < 107)) (Below.refl _ _) (by rfl)
      | 5, _ =>
        cases hop
        have tg : a.tmps[98]?.getD undef = .bool true := (Array.getD_eq_getD_getElem?).symm.trans (hF ⟨2, .guard⟩ (by simp) rfl)
        refine op_g rfl (by simp [Region.wanted, yielded, got tg]) ?_
        clear tg
        have t0 : a.tmps[0]?.getD undef = .int .u32 a0 := (Array.getD_eq_getD_getElem?).symm.trans ((hM.oth 0 (by intro i hi; unfold dst; split <;> omega)).trans rfl)
        have HM := Lib.hid hM
        clear hM hF
        go_simp
        exact did_put _ (by rw [HM.out.sz]; exact (by decide : dst 5 < 107)) (Below.refl _ _) (by rfl)
      | 6, _ =>
        cases hop
        have tg : a.tmps[98]?.getD undef = .bool true := (Array.getD_eq_getD_getElem?).symm.trans (hF ⟨2, .guard⟩ (by simp) rfl)
        refine op_g rfl (by simp [Region.wanted, yielded, got tg]) ?_
        clear tg
        have t101 : a.tmps[101]?.getD undef = .int .u32 a0 := (Array.getD_eq_getD_getElem?).symm.trans (hF ⟨5, .data⟩ (by simp) rfl)
        have HM := Lib.hid hM
        clear hM hF
        go_simp
        exact did_put _ (by rw [HM.out.sz]; exact (by decide : dst 6 < 107)) ((Below.refl _ _).alloc (Nat.le_refl _) _) ⟨W1.heap.size, rfl, by simp, Lib.cell_of_heap (heap_alloc_new W1 _) 0⟩
      | 7, _ =>
        cases hop
        have tg : a.tmps[98]?.getD undef = .bool true := (Array.getD_eq_getD_getElem?).symm.trans (hF ⟨2, .guard⟩ (by simp) rfl)
        refine op_g rfl (by simp [Region.wanted, yielded, got tg]) ?_
        clear tg
        obtain ⟨g1, e1, l1, k1⟩ := hF ⟨6, .data⟩ (by simp) rfl
        have t102 : a.tmps[102]?.getD undef = .slice (some ⟨g1, 0, none⟩) 1 1 := (Array.getD_eq_getD_getElem?).symm.trans e1
        have cby := bytes_ W1 (.slice (some ⟨g1, 0, none⟩) 1 1) [a0] (by simp) (.inr ⟨g1, 0, 1, rfl, l1, fun j x hj => by match j, hj with | 0, hj => cases hj; exact k1 | j + 1, hj => simp at hj⟩)
        have HM := Lib.hid hM
        clear hM hF e1 k1
        go_simp
        (with_reducible refine cby.mono ?_)
        rintro e W2 ⟨v2, rfl, ho, hb⟩
        obtain ⟨g2, c2, rfl, -, -⟩ := MK.image_of ho (by simp) 4 rfl
        exact did_put _ (by rw [HM.out.sz]; exact (by decide : dst 7 < 107)) hb ⟨g2, c2, rfl, W1.heap.size, ho⟩
      | 8, _ =>
        cases hop
        have tg : a.tmps[98]?.getD undef = .bool true := (Array.getD_eq_getD_getElem?).symm.trans (hF ⟨2, .guard⟩ (by simp) rfl)
        refine op_g rfl (by simp [Region.wanted, yielded, got tg]) ?_
        clear tg
        obtain ⟨g2, c2, B2, e2, ho⟩ := hF ⟨7, .data⟩ (by simp) rfl
        have t103 : a.tmps[103]?.getD undef = .slice (some ⟨g2, 0, none⟩) 4 c2 := (Array.getD_eq_getD_getElem?).symm.trans e2
        have hcv := conv_row ho
        rw [HS2.out] at hcv
        have HM := Lib.hid hM
        clear hM hF e2 ho
        go_simp
        exact did_put _ (by rw [HM.out.sz]; exact (by decide : dst 8 < 107)) (Below.refl _ _) (by rfl)
      | 9, _ =>
        cases hop
        have tg : a.tmps[98]?.getD undef = .bool true := (Array.getD_eq_getD_getElem?).symm.trans (hF ⟨2, .guard⟩ (by simp) rfl)
        refine op_g rfl (by simp [Region.wanted, yielded, got tg]) ?_
        clear tg
        have t100 : a.tmps[100]?.getD undef = .string S := (Array.getD_eq_getD_getElem?).symm.trans (hF ⟨4, .data⟩ (by simp) rfl)
        have t104 : a.tmps[104]?.getD undef = .string S := (Array.getD_eq_getD_getElem?).symm.trans (hF ⟨8, .data⟩ (by simp) rfl)
        have HM := Lib.hid hM
        clear hM hF
        go_simp
        exact did_put _ (by rw [HM.out.sz]; exact (by decide : dst 9 < 107)) (Below.refl _ _) (by rfl)
      | 10, _ =>
        cases hop
        refine op_ rfl rfl ?_
        have t98 : a.tmps[98]?.getD undef = .bool true := (Array.getD_eq_getD_getElem?).symm.trans (hF ⟨2, .data⟩ (by simp) rfl)
        have t105 : a.tmps[105]?.getD undef = .bool true := (Array.getD_eq_getD_getElem?).symm.trans (hF ⟨9, .data⟩ (by simp) rfl)
        have HM := Lib.hid hM
        clear hM hF
        go_simp
        exact did_put _ (by rw [HM.out.sz]; exact (by decide : dst 10 < 107)) (Below.refl _ _) (by rfl)
      | 11, _ =>
        cases hop
        refine op_ rfl rfl ?_
        have t106 : a.tmps[106]?.getD undef = .bool true := (Array.getD_eq_getD_getElem?).symm.trans (hF ⟨10, .data⟩ (by simp) rfl)
        have HM := Lib.hid hM
        clear hM hF
        go_simp
        exact did_put _ (by rw [HM.out.sz]; exact (by decide : dst 11 < 107)) (Below.refl _ _) (by rfl)
      | i + 12, h => exact absurd h (by omega)
  case done =>
    intro a W1 hM hF
    have t4 : a.tmps[4]?.getD undef = .bool true := (Array.getD_eq_getD_getElem?).symm.trans (hF 11 (by decide))
    have hd := hM.d
    have HB2 := Lib.hid hM.bel
    clear hM hF
    go_wp2
    exact bodyPost_ret (v := .bool true) (by simp [results, Try.results6, go_sem, t4]) hd ⟨rfl, H11.out.trans (HB2.out.mono H11.out.size)⟩

set_option maxRecDepth 100000 in
theorem lifted (os : Os) (started : os.Started) (H : Type) (enc : TypeId × Value → H) :
    ReturnsInHanded {} Try.checked os 6 .any (Rows.patchStoresSpec.pre6 enc Try.prog Try.f6 Rows.patchStoresRow.domain false) (Rows.patchStoresSpec.post enc Try.prog Try.f6 false true false false) := by
  refine returnsInHanded_of_change (C := Try.checked) own started (by kernel_rfl) Try.func6
    (ChangeSpec.witness6 (enc := enc) (C := Try.checked) false ⟨#[], #[.int .u32 0, .int .u16 0], []⟩ 8 (by kernel_rfl) (by kernel_rfl) (by kernel_rfl) (by kernel_rfl)) ?_
  intro W base args ds gs before hval0 hW hcnd _
  have hval : ∀ (j : Nat) t v, Try.f6.params[j]? = some t → args[j]? = some v → Value.okWide Try.prog W .any base t v := hval0
  have hW' := hW
  obtain ⟨p, q, hA0, hV, rfl, hfz, hnd⟩ := hW
  have hA : DataW.TrodAll enc Try.prog W 0 (fun _ => true) true Try.f6.params.toList args.toList ds p := hA0
  rw [Try.params6] at hA hval
  obtain ⟨v0, vs0, d0, ds0, p0, q0, hargs, rfl, rfl, h0, r0⟩ := trodAll_cons hA
  obtain ⟨v1, vs1, d1, ds1, p1, q1, rfl, rfl, rfl, h1, r1⟩ := trodAll_cons r0
  obtain ⟨rfl, rfl, rfl⟩ := trodAll_nil r1
  obtain rfl : args = #[v0, v1] := by cases args; simp_all
  obtain ⟨rfl, rfl⟩ := trodVars_none hV
  obtain ⟨a0, rfl, rfl, rfl, wa0⟩ := open_int Try.underlying22 (hval 0 22 v0 rfl rfl) h0
  obtain ⟨a1, rfl, rfl, rfl, wa1⟩ := open_int Try.underlying47 (hval 1 47 v1 rfl rfl) h1
  clear hA0 hval0
  simp only [List.append_nil] at hW'
  refine (walk a0 wa0 a1 wa1 W ).mono fun e W' ⟨he, hg⟩ => ?_
  subst he
  exact ⟨_, rfl, _, _, _, [], [], [], hW', (trodAll_cons_mk (shut_bool Try.underlying4 _) trodAll_mk0), (trodAll_cons_mk (shut_int Try.underlying22 wa0) (trodAll_cons_mk (shut_int Try.underlying47 wa1) trodAll_mk0)), rfl, hg.frame _, fun h => by cases h⟩

theorem over : Rows.patchStoresRow.holds Try.pinned (OpenSpec.ofChange Rows.patchStoresSpec) :=
  OpenClaim.holds_of_wide 6 Try.f6 rfl rfl rfl rfl rfl rfl rfl ⟨rfl, rfl, rfl, rfl, rfl⟩ rfl rfl rfl rfl rfl (by kernel_rfl) Try.func6 (by kernel_rfl)
    (of_decide_eq_true (by kernel_rfl)) (by unfold Func.isWrapper; first | (rw [if_pos (by decide +kernel)]; kernel_rfl) | (rw [if_neg (by decide +kernel)]; exact ⟨rfl, rfl⟩))
    (fun os started H enc _ => lifted os started H enc)

/-- The statement. -/
theorem proved : Rows.PatchStoresSaid :=
  over
end Go.Proofs.Ytieehjkmfmkfjab.patchStores
