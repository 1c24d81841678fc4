/-
  Of any objects the law ResolveOwn returns true: an object more that defines names for itself alone changes neither what is wrong nor what the others mean.
  Conditions: none beyond those of the given statement.
-/
import Derived.Test.YtlmblfkcmhgdaaaRows
import Derived.Test.YtlmblfkcmhgdaaaResOr
import Derived.Laws.StructEq
import Derived.Deep.DeepMust
import Derived.Test.YtlmblfkcmhgdaaaResOx
import Derived.Test.YtlmblfkcmhgdaaaResA
import Derived.Test.YtlmblfkcmhgdaaaResO
import Derived.Deep.AppendLies
import Derived.Deep.RegionHeld3
import Derived.Deep.DeepCutAuto
import Derived.BigQuiet
import Derived.BigRegion
import Derived.WalkKit
import Derived.ProofKit
import Derived.OpenShut
namespace Go.Proofs.Ytlmblfkcmhgdaaa.resolveOwn
open Go.ChangeShapes Go.WideShapes Go.ChangeAt Go.RowKit
set_option linter.unusedVariables false
set_option linter.unusedSimpArgs false

theorem own : ownKnob Try.prog.godebug = none := by kernel_rfl
open Go.Maps Go.WideMaps
open OO OJ RsM RsP RsF RsB RsT RsD RsQ RsY RsJ RsZ RsV RsH RsC LV RsOw RsOr
open OI (op_)
theorem dst_ne {k : Nat} (h : ∀ i : Fin 15, dst19 i.val ≠ some k) : ∀ i, i < 15 → dst19 i ≠ some k := fun i hi => h ⟨i, hi⟩
theorem tg_neq (x y : Int) (w : World) : (binOp .neq 37 (.agg #[.int .i64 x, .int .i64 y]) (.agg #[.int .i64 x, .int .i64 y])).run Try.prog w = .ok (.bool false) w := by
  have hS : Try.prog.underlying 37 = some (.struct (Try.prog.fieldsOf 37)) := by kernel_rfl
  have u3 := Try.underlying3
  rw [run_neq_struct, show (10000 : Nat) = 9999 + 1 from rfl, run_equalIn_agg w 9999 _ _ _ hS (by kernel_rfl)]
  simp only [Program.fieldsOf, Try.underlying37]
  go_simp
theorem tgL_le (objs : List ObjV) : (tgL objs).length ≤ objs.length := by
  by_cases h : resCode objs = 0
  · rw [tgL_ok h]; exact Nat.le_refl _
  · rw [tgL_ne h]; exact Nat.zero_le _
theorem own_rows1 {objs : List ObjV} {m : ObjV} {E : Int} (h0 : resCode objs = E) (h1 : resCode (objs ++ [m]) = E) (hd : ∀ s ∈ m.ss, defs s = false) (i : Nat) (r : List (Int × Int)) (h : (tgL objs)[i]? = some r) : (tgL (objs ++ [m]))[i]? = some r := by
  by_cases hz : resCode objs = 0
  · have hi : i < objs.length := by have := (List.getElem?_eq_some_iff.1 h).1; rwa [tgL_ok hz] at this
    unfold tgL at h ⊢
    rw [if_pos hz] at h
    rw [if_pos (h1.trans (h0.symm.trans hz))]
    rw [List.getElem?_map, List.getElem?_range hi] at h
    rw [List.getElem?_map, List.getElem?_range (by rw [List.length_append]; omega)]
    rw [← h, Option.map_some, Option.map_some, RsE.rows_more hd hi]
  · rw [tgL_ne hz] at h; simp at h
theorem own_rows2 {objs : List ObjV} {m : ObjV} (h0 : resCode objs = 0) (h1 : resCode (objs ++ [m]) = 0) : (tgL (objs ++ [m])).length = (tgL objs).length + 1 := by
  rw [tgL_ok h0, tgL_ok h1, List.length_append]; rfl
theorem below_dn {w u : World} {B : Nat} (h : Below B w u) (k : Nat) : Below B w (u.drewN k) := ⟨h.os, h.tape, h.output, h.size, h.block⟩
theorem put15 (u : Nat → Value) (a : Act) (h : a.tmps.size ≤ 100000) : OI.putAll (SU.num dst19) u 15 a = (OI.putAll (SU.num dst19) u 13 a).put (some 14) (u 14) := by
  show ((OI.putAll (SU.num dst19) u 13 a).put (some 100000) (u 13)).put (some 14) (u 14) = _
  rw [SU.put_out (a := OI.putAll (SU.num dst19) u 13 a) (d := 100000) (u 13) (by rw [OI.putAll_size]; exact h)]
theorem row_get {objs : List ObjV} {k j : Nat} (hk : k < objs.length) (hj : j < objs[k].ss.length) : (row objs k)[j]? = some ⟨k, j, objs[k].ss[j]⟩ := by
  unfold row
  rw [ssAt_eq hk, List.getElem?_map, List.getElem?_range hj, Option.map_some, List.getD_eq_getElem?_getD, List.getElem?_eq_getElem hj]
  rfl
theorem row_take {objs : List ObjV} {k j : Nat} (hk : k < objs.length) (hj : j < objs[k].ss.length) : (row objs k).take (j + 1) = (row objs k).take j ++ [⟨k, j, objs[k].ss[j]⟩] := by
  have hl : j < (row objs k).length := by rw [row_length, ssAt_eq hk]; exact hj
  rw [List.take_succ_eq_append_getElem hl]
  have := row_get hk hj
  rw [List.getElem?_eq_getElem hl] at this
  rw [Option.some.inj this]
theorem row_all {objs : List ObjV} {k : Nat} (hk : k < objs.length) : (row objs k).take objs[k].ss.length = row objs k := by
  apply List.take_of_length_le
  rw [row_length, ssAt_eq hk]
  exact Nat.le_refl _
theorem few_flat2 {objs : List ObjV} (h : fewO objs = true) : (flat objs).length ≤ 720 := by
  obtain ⟨h1, h2⟩ := fewO_lim h
  have h3 : ∀ o ∈ objs, o.ss.length ≤ 60 := fun o ho => (OE.few_lim (h2 o ho)).2.2.1
  have := flatTo_len h3 objs.length
  unfold flat
  omega
theorem small_names {objs : List ObjV} (h : fewO objs = true) : ∀ o ∈ objs, ∀ s ∈ o.ss, s.name.size ≤ maxLen := fun o ho s hs => by
  have := (OE.few_lim ((fewO_lim h).2 o ho)).2.2.2.2 s hs
  unfold maxLen
  omega

set_option maxRecDepth 100000 in
set_option maxHeartbeats 8000000 in
theorem walk (v0 : Value) (objs0 : List OO.ObjV) (w : World) (ha0 : RsM.ObjsAt w.heap.size w v0 objs0) (hw0 : ∀ o ∈ objs0, o.Wf) :
    Calls Try.prog 3 #[v0] w fun e w' => e = .returned (.bool true) ∧ Below w.heap.size w w' := by
  have HO := Lib.hid ha0
  have HW := Lib.hid hw0
  have HM := Lib.hid (OB.Sl_len ha0)
  obtain ⟨p, c, rfl, -⟩ := ha0
  clear hw0
  cases hf : RsF.fewO objs0 with
  | false =>
    have HF := Lib.hid hf
    clear hf
    go_enter Try.func3, Try.ntmps3
    go_wp2_with (first
      | (go_at_call 4; (first
          | (with_reducible refine (RsA.awake_ _).mono ?_; rintro e w3 ⟨rfl, hb3⟩; have HB3 := Lib.hid (HB2.out.trans (hb3.mono HB2.out.size)); clear hb3)
          | (with_reducible refine (RsA.awake_ _).mono ?_; rintro e w1 ⟨rfl, hb1⟩; have HB1 := Lib.hid hb1; clear hb1)))
      | (go_at_call 5; (with_reducible refine (RsF.fewO_ HB1.out.size (ObjsAt.same HO.out (Same.of HB1.out (Nat.le_refl _))) HW.out HM.out).mono ?_); rintro e w2 ⟨rfl, hb2⟩; have HB2 := Lib.hid (HB1.out.trans (hb2.mono HB1.out.size)); rw [HF.out]; clear hb2))
    go_ret
    exact ⟨rfl, HB3.out⟩
  | true =>
    have hmk := @run_makeMap Try.prog
    have HF := Lib.hid hf
    obtain ⟨hm12, hms, hN⟩ := few_flat hf
    have hN2 := few_flat2 hf
    have HSN := Lib.hid (small_names hf)
    have HMS := Lib.hid hms
    clear hf hms
    go_enter Try.func3, Try.ntmps3
    go_upto_region 5 with (first
      | (go_at_call 4; with_reducible refine (RsA.awake_ _).mono ?_; rintro e w1 ⟨rfl, hb1⟩; have HB1 := Lib.hid hb1; clear hb1)
      | (go_at_call 5; (with_reducible refine (RsF.fewO_ HB1.out.size (ObjsAt.same HO.out (Same.of HB1.out (Nat.le_refl _))) HW.out HM.out).mono ?_); rintro e w2 ⟨rfl, hb2⟩; have HB2 := Lib.hid (HB1.out.trans (hb2.mono HB1.out.size)); rw [HF.out]; clear hb2))
    have h2z := HB2.out.size
    have hi0 : OwI w w2.heap.size [] (((w2.alloc (.cells #[.int .u32 19] TW)).alloc (.cells #[.slice (some ⟨w2.heap.size, 0, none⟩) 1 1, .slice none 0 0, .slice none 0 0, .slice none 0 0] TO)).alloc (.map #[] 0)) := by
      refine ⟨?_, ⟨none, 0, ?_, World.ownsRow_nil _ _ _ _⟩, ?_, ((HB2.out.alloc h2z _).alloc (by simp only [World.size_alloc]; omega) _).alloc (by simp only [World.size_alloc]; omega) _, by simp⟩
      · exact (Lib.alloc_old _ _ _ (by simp only [World.size_alloc]; omega)).trans ((Lib.alloc_old _ _ _ (by simp)).trans (heap_alloc_new w2 _))
      · have := heap_alloc_new (w2.alloc (.cells #[.int .u32 19] TW)) (.cells #[.slice (some ⟨w2.heap.size, 0, none⟩) 1 1, .slice none 0 0, .slice none 0 0, .slice none 0 0] TO)
        rw [World.size_alloc] at this
        exact (Lib.alloc_old _ _ _ (by simp only [World.size_alloc]; omega)).trans this
      · have := World.ownsMap_made (H := Unit) (((w2.alloc (.cells #[.int .u32 19] TW)).alloc (.cells #[.slice (some ⟨w2.heap.size, 0, none⟩) 1 1, .slice none 0 0, .slice none 0 0, .slice none 0 0] TO))) Try.prog 9 (plainElem Try.prog 4)
        simp only [World.size_alloc] at this
        exact this
    have HI0 := Lib.hid hi0
    have hs3 : (((w2.alloc (.cells #[.int .u32 19] TW)).alloc (.cells #[.slice (some ⟨w2.heap.size, 0, none⟩) 1 1, .slice none 0 0, .slice none 0 0, .slice none 0 0] TO)).alloc (.map #[] 0)).heap.size = w2.heap.size + 3 := by simp
    clear hi0 HB1
    generalize ((w2.alloc (.cells #[.int .u32 19] TW)).alloc (.cells #[.slice (some ⟨w2.heap.size, 0, none⟩) 1 1, .slice none 0 0, .slice none 0 0, .slice none 0 0] TO)).alloc (.map #[] 0) = w3 at *
    obtain ⟨iy, hiy, hzy0, hzy1, hzy2⟩ := info_parts infoY
    go_wp2_with fail
    go_loopw [30] (fun i wr => ∃ k : Nat, k ≤ objs0.length ∧ i = .int .i64 k ∧ Hid (OwI w w2.heap.size (ownL (flatTo objs0 k)) wr)) (fun i _ => objs0.length - (intOf i).toNat)
    case atStart => exact ⟨0, Nat.zero_le _, rfl, HI0⟩
    case round =>
      clear HI0
      obtain ⟨k, hk, rfl, HI⟩ := hrel
      by_cases hlt : k < objs0.length
      · obtain ⟨p', c', hv, hh⟩ := HO.out
        cases hv
        obtain ⟨b, o, rfl, hb, -, -, hin⟩ := hh (by omega)
        obtain ⟨v0, v1, v2, v3, c0, c1, c2, c3, hoa⟩ := hin k _ (List.getElem?_eq_getElem hlt)
        obtain ⟨ps, cs, rfl, hss⟩ := hoa.ss
        obtain ⟨pw, cw, rfl, -⟩ := hoa.ws
        obtain ⟨pd, cd, rfl, -⟩ := hoa.ds
        obtain ⟨pr, cr, rfl, -⟩ := hoa.rs
        have hbw : b < w.heap.size := by omega
        have hls : objs0[k].ss.length ≤ 100000 := by have := (OE.few_lim ((fewO_lim HF.out).2 _ (List.getElem_mem hlt))).2.2.1; omega
        have HBL := Lib.hid HI.out.bel
        have g0 := (HBL.out.cell (p := ⟨b, o + k * 4, none⟩) hbw).trans c0
        have g1 := (HBL.out.cell (p := ⟨b, o + k * 4 + 1, none⟩) hbw).trans c1
        have g2 := (HBL.out.cell (p := ⟨b, o + k * 4 + 2, none⟩) hbw).trans c2
        have g3 := (HBL.out.cell (p := ⟨b, o + k * 4 + 3, none⟩) hbw).trans c3
        have hk1 : (0 : Int) ≤ (k : Int) := by omega
        have HSS := Lib.hid hss
        clear c0 c1 c2 c3 hss hin hoa
        go_wp2_with fail
        go_loopw [37] (fun i wr => ∃ j : Nat, j ≤ objs0[k].ss.length ∧ i = .int .i64 j ∧ Hid (OwI w w2.heap.size (ownL (flatTo objs0 k ++ (row objs0 k).take j)) wr)) (fun i _ => objs0[k].ss.length - (intOf i).toNat)
        case atStart => exact ⟨0, Nat.zero_le _, rfl, Lib.hid (by rw [List.take_zero, List.append_nil]; exact HI.out.alloc _)⟩
        case round =>
          clear g0 g1 g2 g3 HBL HI
          obtain ⟨j, hj, rfl, HI⟩ := hrel
          by_cases hjl : j < objs0[k].ss.length
          · obtain ⟨sb, so, rfl, hsb, -, -, hrow⟩ := HSS.out (by omega)
            obtain ⟨s0, s1, s2, s3, s4⟩ := (hrow j _ (List.getElem?_eq_getElem hjl)).below HI.out.bel hsb
            have hj1 : (0 : Int) ≤ (j : Int) := by omega
            have hsz := HSN.out _ (List.getElem_mem hlt) _ (List.getElem_mem hjl)
            have HTK := Lib.hid (show flatTo objs0 k ++ (row objs0 k).take (j + 1) = (flatTo objs0 k ++ (row objs0 k).take j) ++ [⟨k, j, objs0[k].ss[j]⟩] by rw [row_take hlt hjl, List.append_assoc])
            clear hrow
            generalize objs0[k].ss[j] = s at *
            generalize flatTo objs0 k ++ (row objs0 k).take j = L at *
            have HST := Lib.hid (ownL_snoc L ⟨k, j, s⟩)
            have hnm := bs_nmb ⟨k, j, s⟩
            obtain ⟨nm, sc, vl, fr, gl⟩ := s
            simp only at hnm s0 s1 s2 s3 s4 hsz
            unfold ownStep at HST
            have hlN := (own_od L).len
            generalize ownL L = N at *
            generalize nmb ⟨k, j, ⟨nm, sc, vl, fr, gl⟩⟩ = n at *
            subst hnm
            have hbs : (bs n).size = n.length := by unfold bs; simp [ByteArray.size]
            have HW0 := Lib.hid (HI.out.alloc (.cells #[.string (bs n), .int .i64 sc, .int .i64 vl, .int .i64 fr, .bool gl] TY))
            have hlk := seen_ HW0.out.map hsz
            have hz0 := HI.out.zz
            obtain ⟨q, cq, ha1, hrow⟩ := HI.out.a1
            have k2 := Lib.cell_of_heap ha1 2
            simp only [List.getElem?_toArray, List.getElem?_cons_zero, List.getElem?_cons_succ] at k2
            have ha1' : (wr.alloc (.cells #[.string (bs n), .int .i64 sc, .int .i64 vl, .int .i64 fr, .bool gl] TY)).heap[w2.heap.size + 1]? = _ := (Lib.alloc_old _ _ _ (by omega)).trans ha1
            have hrow' := hrow.alloc (.cells #[.string (bs n), .int .i64 sc, .int .i64 vl, .int .i64 fr, .bool gl] TY)
            have k2a := Lib.cell_of_heap ha1' 2
            simp only [List.getElem?_toArray, List.getElem?_cons_zero, List.getElem?_cons_succ] at k2a
            have HA1 := Lib.hid ha1'
            have HR := Lib.hid hrow'
            have HRNE := Lib.hid (show (Value.slice q N.length cq).ownBlock = none ∨ (Value.slice q N.length cq).ownBlock ≠ some (w2.heap.size + 2) by
              cases hq : (Value.slice q N.length cq).ownBlock with
              | none => exact .inl rfl
              | some a => exact .inr (fun e => by have := (hrow'.lt _ hq).1; cases e; omega))
            have HTM := Lib.hid (fun (W1 W2 : World) (q' : Option Addr) (c' : Nat) hm hg1 hr hg => ow_next (W1 := W1) (W2 := W2) (q' := q') (c' := c') (n := n) HW0.out h2z ha1' hrow' hm hg1 hr hg)
            have HKEY := Lib.hid (show keyOf Try.prog 9 (.string (bs n)) = some (nkey (bs n)) from keyOf_string_mk Try.underlying9 hsz)
            have HSY := Lib.hid (show (wr.alloc (.cells #[.string (bs n), .int .i64 sc, .int .i64 vl, .int .i64 fr, .bool gl] TY)).cell? ⟨wr.heap.size, 0, none⟩ = some (.string (bs n)) from Lib.cell_of_heap (heap_alloc_new wr _) 0)
            clear ha1 ha1' hrow hrow'
            have SKIP : ¬ (n ≠ [] ∧ n ∉ N ∧ N.length < 500) → Hid (OwI w w2.heap.size (ownL (flatTo objs0 k ++ (row objs0 k).take (j + 1))) (wr.alloc (.cells #[.string (bs n), .int .i64 sc, .int .i64 vl, .int .i64 fr, .bool gl] TY))) := fun h => Lib.hid (by rw [HTK.out, HST.out, if_neg h]; exact HW0.out)
            have TAKE : (n ≠ [] ∧ n ∉ N ∧ N.length < 500) → ∀ W, OwI w w2.heap.size (N ++ [n]) W → Hid (OwI w w2.heap.size (ownL (flatTo objs0 k ++ (row objs0 k).take (j + 1))) W) := fun h W hW => Lib.hid (by rw [HTK.out, HST.out, if_pos h]; exact hW)
            have SKIP := Lib.hid SKIP
            have TAKE := Lib.hid TAKE
            clear HTK HST
            by_cases e0 : n.length = 0
            · have h1 := SKIP.out (fun h => h.1 (List.eq_nil_of_length_eq_zero e0))
              have HS1 := h1
              clear h1 hlk
              go_wp2_with fail
              go_roundw
              case rel => exact ⟨j + 1, by omega, by go_num, HS1⟩
              case measure => simp [intOf]; omega
            · have hne : n ≠ [] := fun h => e0 (by rw [h]; rfl)
              have hgt : (0 : Int) < ((bs n).size : Int) := by omega
              have hgd : decide ((0 : Int) < ((bs n).size : Int)) = true := decide_eq_true hgt
              have hnl : 0 < n.length := by omega
              by_cases e1 : n ∈ N
              · have HS1 := SKIP.out (fun h => h.2.1 e1)
                rw [decide_eq_true e1] at hlk
                clear hne e1
                go_wp2_with fail
                all_goals
                  go_roundw
                  case rel => exact ⟨j + 1, by omega, by go_num, HS1⟩
                  case measure => simp [intOf]; omega
              · rw [decide_eq_false e1] at hlk
                by_cases e2 : N.length < 500
                · have HTA := Lib.hid (TAKE.out ⟨hne, e1, e2⟩)
                  have e2d : decide ((N.length : Int) < 500) = true := by rw [decide_eq_true_eq]; omega
                  clear hne e1 SKIP TAKE
                  go_wp2_with (first
                    | (at_mapUpdate; go_must (refine wpList_mapUpdate_own _ rfl _ _ _ 32 rfl 9 4 lawS Try.underlying32 (plainElem Try.prog 4) (w2.heap.size + 2) N.length _ rfl HW0.out.map (by unfold maxLen; omega) _ _ _ rfl rfl HKEY.out (.lit (.bool true)) [] (plainElem_bool Try.underlying4 true) ?_); go_must (intro w5 hm5 hg5; have h5z := hg5.size; simp only [World.size_alloc] at h5z; have hA5 := (hg5.block (w2.heap.size + 1) (by simp only [World.size_alloc]; omega) (fun e => by injection e with e; omega)).trans HA1.out; have c5 := Lib.cell_of_heap hA5 2; simp only [List.getElem?_toArray, List.getElem?_cons_zero, List.getElem?_cons_succ] at c5; have HA5 := Lib.hid hA5; have HR5 := Lib.hid (HR.out.kept hg5 HRNE.out); have hs5 := (cell_same (hg5.block wr.heap.size (by simp only [World.size_alloc]; omega) (fun e => by injection e with e; omega)) 0).trans HSY.out; have HM5 := Lib.hid hm5; have HG5 := Lib.hid hg5; clear hm5 hg5 hA5))
                    | (at_builtin; refine wpList_append_lies _ rfl _ _ 28 rfl (w2.heap.size + 3) TY iy (.agg #[.string ByteArray.empty, .int .i64 0, .int .i64 0, .int .i64 0, .bool false]) 5 48 Try.underlying28 hiy hzy0 hzy1 hzy2 rfl (by decide) _ _ _ rfl (HR5.out.alloc _) ⟨w5.heap.size, 0, none⟩ 1 1 [.string (bs n), .int .i64 1, .int .i64 0, .int .i64 0, .bool false] rfl rfl (World.news_of_block (cs := #[.string (bs n), .int .i64 1, .int .i64 0, .int .i64 0, .bool false]) (t := TY) (fr := (0, 0)) (heap_alloc_new w5 _)) (by simp [Value.oneCell']) (by decide) (by unfold maxLen; omega) (by omega) (by simp only [World.size_alloc]; omega) (w5.heap.size + 1) (by simp only [World.size_alloc]) ?_; intro gg cap w7 hown7 hgrow7 hat7 hlt7; have hb7 := (hgrow7.block (w2.heap.size + 1) (by simp only [World.size_alloc]; omega) (fun e => by have := (HR5.out.lt _ e.symm).1; omega)).trans ((Lib.alloc_old _ _ _ (by omega)).trans HA5.out); have c7 := Lib.cell_of_heap hb7 2; have c8 := Lib.frozen_of_heap hb7 2; simp only [List.getElem?_toArray, List.getElem?_cons_zero, List.getElem?_cons_succ] at c7; have HN7 := Lib.hid (HTM.out w5 w7 _ _ HM5.out HG5.out hown7 hgrow7); clear hown7 hgrow7 hat7 hb7))
                  go_roundw
                  case rel => exact ⟨j + 1, by omega, by go_num, HTA.out _ HN7.out⟩
                  case measure => simp [intOf]; omega
                · have HS1 := SKIP.out (fun h => e2 h.2.2)
                  clear hne e1
                  go_wp2_with fail
                  all_goals
                    go_roundw
                    case rel => exact ⟨j + 1, by omega, by go_num, HS1⟩
                    case measure => simp [intOf]; omega
          · obtain rfl : j = objs0[k].ss.length := by omega
            have HI2 := Lib.hid (show OwI w w2.heap.size (ownL (flatTo objs0 (k + 1))) wr by have := HI.out; rwa [row_all hlt, ← flatTo_succ] at this)
            go_wp2_with fail
            go_roundw
            case rel => exact ⟨k + 1, by omega, by go_num, HI2⟩
            case measure => simp [intOf]; omega
      · obtain rfl : k = objs0.length := by omega
        have HI2 := Lib.hid (show OwI w w2.heap.size (ownL (flat objs0)) wr from HI.out)
        have hbr : Below w.heap.size w wr := HI.out.bel
        have cr := RsOr.res3lo_ (w := wr) (n₀ := w.heap.size) hbr.size (ObjsAt.same HO.out (Same.of hbr (Nat.le_refl _))) HW.out (by omega) HMS.out hN
        have HOD := Lib.hid (own_od (flat objs0))
        have HBR := Lib.hid hbr
        clear HI hbr
        by_cases hE : resCode objs0 = 2
        · have hE2 : (resCode objs0 == 2) = true := by rw [hE]; rfl
          clear hE
          generalize resCode objs0 = E at *
          go_wp2_with (go_at_call 6; go_must (with_reducible refine cr.mono ?_); rintro e w5 ⟨p5, c5, rfl, ht5, hb5⟩; have HB5 := Lib.hid hb5; clear ht5 hb5 cr)
          go_ret
          have b5 := HBR.out.trans (HB5.out.mono HBR.out.size)
          exact ⟨rfl, b5.alloc b5.size _⟩
        · have hE2 : (resCode objs0 == 2) = false := by simpa using hE
          have hcs : ∀ o ∈ objs0, OCk.chk o = true := Decidable.byContradiction fun h => hE (code_form.2 h)
          have HCS := Lib.hid hcs
          have HCODE := Lib.hid (own_code HOD.out hcs)
          have HPL := Lib.hid (own_place HOD.out hcs)
          clear hcs hE
          have hNN := (own_od (flat objs0)).len
          generalize ownL (flat objs0) = N at *
          generalize hEE : resCode objs0 = E at *
          generalize hII : (placeOf objs0).1 = PI at *
          generalize hKK : (placeOf objs0).2 = PK at *
          have HEE := Lib.hid (⟨hEE, hII, hKK⟩ : _ ∧ _ ∧ _)
          clear hEE hII hKK
          go_upto_region 19 with (go_at_call 6; go_must (with_reducible refine cr.mono ?_); rintro e w5 ⟨p5, c5, rfl, ht5, hb5⟩; have HT5 := Lib.hid ht5; have HB5 := Lib.hid hb5; clear ht5 hb5 cr)
          obtain ⟨W0, hW0⟩ : ∃ W0, W0 = w5.alloc (.cells #[.int .i64 PI, .int .i64 PK] 37) := ⟨_, rfl⟩
          have hat0 : W0.heap[w5.heap.size]? = some (.cells #[.int .i64 PI, .int .i64 PK] 37 (0, 0)) := by rw [hW0]; exact heap_alloc_new w5 _
          have hb50 : Below w5.heap.size w5 W0 := by rw [hW0]; exact (Below.refl _ _).alloc (Nat.le_refl _) _
          rw [← hW0]
          clear hW0
          have hbr0 : Below wr.heap.size wr W0 := HB5.out.trans (hb50.mono HB5.out.size)
          have hb0 : Below w.heap.size w W0 := HBR.out.trans (hbr0.mono HBR.out.size)
          have htin : RsOr.TIn (fun k => wr.heap.size ≤ k ∧ k < w5.heap.size) W0 (.slice p5 (tgL objs0).length c5) (tgL objs0) := HT5.out.kept hb50.size fun k hk _ => hb50.block k hk
          have hzz := HI2.out.zz
          obtain ⟨q, cq, ha1, hrowN⟩ := HI2.out.a1
          have hmore := (hbr0.block (w2.heap.size + 1) (by omega)).trans ha1
          have hobs := ObjsAt.same HO.out (Same.of hb0 (Nat.le_refl _))
          obtain ⟨oc, hocl, hone, hocb, hoca⟩ := objs_cells hobs
          have hmo : ObjAt W0.heap.size W0 (.slice (some ⟨w2.heap.size, 0, none⟩) 1 1) (.slice none 0 0) (.slice q N.length cq) (.slice none 0 0) (moO N) := by
            have a0 : W0.heap[w2.heap.size]? = some (.cells #[.int .u32 19] TW (0, 0)) := (hbr0.block _ (by omega)).trans HI2.out.a0
            have hrow : W0.ownsRow (w2.heap.size + 3) TY 5 (.slice q N.length cq) N.length (symsC (N.map symO)) := hrowN.kept (row := none) ⟨hbr0.os, hbr0.tape, hbr0.output, hbr0.size, fun i hi _ => hbr0.block i hi⟩ (by cases (Value.slice q N.length cq).ownBlock <;> simp)
            have := mo_at (v := .slice q N.length cq) (ss := N.map symO) a0 (by rw [List.length_map]; exact hrow)
            exact this
          obtain ⟨hocl2, hoca2⟩ := more_of (w' := W0) hocl (fun i x hx => by
            obtain ⟨v0, v1, v2, v3, e0, e1, e2, e3, ho⟩ := hoca i x hx
            exact ⟨v0, v1, v2, v3, e0, e1, e2, e3, ho.up hb0.size⟩) hmo
          obtain ⟨io, hio, ho0, ho1, ho2⟩ := info_parts infoO
          have HMORE := Lib.hid hmore
          have HOCA := Lib.hid hoca2
          have HOCB := Lib.hid hocb
          have HONE := Lib.hid hone
          have HTIN := Lib.hid htin
          have HAT0 := Lib.hid hat0
          have HB0 := Lib.hid hb0
          clear hmore hoca hoca2 hocb hone htin hat0 hb0 hb50 hbr0 ha1 hrowN hmo hobs
          have HPLAN := Lib.hid (plan19 (.slice p objs0.length c) (.agg #[.slice (some ⟨w2.heap.size, 0, none⟩) 1 1, .slice none 0 0, .slice q N.length cq, .slice none 0 0]) (.agg #[.int .i64 PI, .int .i64 PK]) (.int .i64 E) objs0.length (tgL (objs0 ++ [moO N])).length W0.heap.size oc [.slice (some ⟨w2.heap.size, 0, none⟩) 1 1, .slice none 0 0, .slice q N.length cq, .slice none 0 0] PI PK (tgL (objs0 ++ [moO N])))
          refine SU.plan_ (n := 15) (dst := dst19) (dep := dep19) (cons := cons19) (G := G19 (.slice p objs0.length c) (.agg #[.slice (some ⟨w2.heap.size, 0, none⟩) 1 1, .slice none 0 0, .slice q N.length cq, .slice none 0 0]) (.agg #[.int .i64 PI, .int .i64 PK]) (.int .i64 E) objs0.length (tgL (objs0 ++ [moO N])).length) (F := F19 (.agg #[.int .i64 PI, .int .i64 PK]) (.int .i64 E) objs0.length W0.heap.size oc [.slice (some ⟨w2.heap.size, 0, none⟩) 1 1, .slice none 0 0, .slice q N.length cq, .slice none 0 0] PI PK (tgL (objs0 ++ [moO N]))) (by kernel_rfl) (SU.aheadB_of (by kernel_rfl)) rfl HPLAN.out (SU.dep_of (by kernel_rfl)) ?step ?done
          case step =>
            intro i op hop a w1 S hM hG hF hS hD
            have hi : i < 15 := (Array.getElem?_eq_some_iff.1 hop).1
            match i, hi with
            | 0, _ =>
              cases hop
              have HM := Lib.hid hM
              refine op_ rfl rfl ?_
              clear hM hG hF hS hD
              go_simp
              exact SU.did_b _ (fun k => k = w1.heap.size) (HPLAN.out).inj (by decide) (by rfl) (by rw [HM.out.sz]; exact (by decide : 80 < 153)) ((Below.refl _ _).alloc (Nat.le_refl _) _) (fun k hk => by subst hk; simp) (fun u eu en => ⟨⟨_, eu⟩, _, eu, rfl, by simp, heap_alloc_new _ _⟩)
            | 1, _ =>
              cases hop
              have HM := Lib.hid hM
              refine op_ rfl rfl ?_
              have t0 : a.tmps[0]?.getD undef = (.slice p objs0.length c) := (Array.getD_eq_getD_getElem?).symm.trans ((hM.oth 0 (dst_ne (by decide))).trans rfl)
              clear hM hG hF hS hD
              go_simp
              exact SU.did_b _ (fun _ => False) (HPLAN.out).inj (by decide) (by rfl) (by rw [HM.out.sz]; exact (by decide : 81 < 153)) (Below.refl _ _) (fun k hk => hk.elim) (fun u eu en => ⟨eu, trivial⟩)
            | 2, _ =>
              cases hop
              have HM := Lib.hid hM
              obtain ⟨g, e0, s0, l0, h0⟩ := hF 0 (.inl ⟨rfl, rfl⟩)
              have hgH := (hS 0 g (.inl ⟨rfl, rfl⟩) s0).1
              have e1 : a.tmps.getD 81 undef = (.slice p objs0.length c) := hG 1 (by simp [dep19])
              have hb := hM.bel
              have hbs := hb.size
              have hnw : 0 < objs0.length → ∃ b' o', p = some ⟨b', o', none⟩ ∧ ∀ j u, oc[j]? = some u → w1.cell? ⟨b', o' + j, none⟩ = some u := fun hp => by
                obtain ⟨b', o', e, hbl, hc⟩ := HOCB.out hp
                exact ⟨b', o', e, fun j u hu => (hb.cell (p := ⟨b', o' + j, none⟩) (Nat.lt_of_lt_of_le hbl HB0.out.size)).trans (hc j u hu)⟩
              refine op_ rfl rfl (wp_append_sl rfl _ _ 22 rfl W0.heap.size TO io (.agg #[.slice none 0 0, .slice none 0 0, .slice none 0 0, .slice none 0 0]) 4 96 Try.underlying22 hio ho0 ho1 ho2 rfl (by decide) (.slice (some ⟨g, 0, none⟩) 0 0) 0 [] e0 ⟨rfl, .inr ⟨g, 0, #[], rfl, hgH, h0, Nat.le_refl _, Nat.zero_le _, rfl, rfl⟩⟩ p objs0.length c oc e1 hocl hnw HONE.out (by unfold maxLen; omega) (by omega) hbs ?_)
              intro p' c' w' hown hgrow hat
              rw [Nat.zero_add, List.nil_append] at hown
              rw [Nat.zero_add] at hat ⊢
              exact SU.did_ _ (fun k => (Value.slice p' objs0.length c').ownBlock = some k) (HPLAN.out).inj (by decide) (by rfl) (by rw [HM.out.sz]; exact (by decide : 82 < 153)) hgrow.os hgrow.tape hgrow.output hgrow.size (fun k hk hn => hgrow.block k hk (fun e => hn 0 (.inl ⟨rfl, rfl⟩) (by injection e with e; have e' : k = g := e; subst e'; exact s0))) (fun k hk => by
                rcases hat with e | e
                · rw [hk] at e; injection e with e; have e' : k = g := e; subst e'; exact .inl ⟨0, .inl ⟨rfl, rfl⟩, s0⟩
                · have := (hown.lt k hk).2; rw [hk] at e; injection e with e; exact .inr ⟨by omega, this⟩) (fun u eu en => ⟨⟨p', c', eu⟩, by show w'.ownsRow W0.heap.size TO 4 (u 2) objs0.length oc ∧ _; rw [eu]; exact ⟨hown, fun _ h => h⟩⟩)
            | 3, _ =>
              cases hop
              have HM := Lib.hid hM
              refine op_ rfl rfl ?_
              have t3 : a.tmps[3]?.getD undef = .pointer (some ⟨w2.heap.size + 1, 0, none⟩) := (Array.getD_eq_getD_getElem?).symm.trans ((hM.oth 3 (dst_ne (by decide))).trans rfl)
              have hmo := (hM.bel.block _ (lt_heap HMORE.out)).trans HMORE.out
              have m0 := Lib.cell_of_heap hmo 0
              have m1 := Lib.cell_of_heap hmo 1
              have m2 := Lib.cell_of_heap hmo 2
              have m3 := Lib.cell_of_heap hmo 3
              simp only [List.getElem?_toArray, List.getElem?_cons_zero, List.getElem?_cons_succ] at m0 m1 m2 m3
              clear hM hG hF hS hD hmo
              go_simp
              exact SU.did_b _ (fun _ => False) (HPLAN.out).inj (by decide) (by rfl) (by rw [HM.out.sz]; exact (by decide : 83 < 153)) (Below.refl _ _) (fun k hk => hk.elim) (fun u eu en => ⟨eu, trivial⟩)
            | 4, _ =>
              cases hop
              have HM := Lib.hid hM
              refine op_ rfl rfl ?_
              have t83 : a.tmps[83]?.getD undef = (.agg #[.slice (some ⟨w2.heap.size, 0, none⟩) 1 1, .slice none 0 0, .slice q N.length cq, .slice none 0 0]) := (Array.getD_eq_getD_getElem?).symm.trans (hG 3 (by simp [dep19]))
              clear hM hG hF hS hD
              go_simp
              exact SU.did_b _ (fun k => k = w1.heap.size) (HPLAN.out).inj (by decide) (by rfl) (by rw [HM.out.sz]; exact (by decide : 84 < 153)) ((Below.refl _ _).alloc (Nat.le_refl _) _) (fun k hk => by subst hk; simp) (fun u eu en => ⟨⟨_, eu⟩, _, eu, rfl, by simp, heap_alloc_new _ _⟩)
            | 5, _ =>
              cases hop
              have HM := Lib.hid hM
              obtain ⟨f2, s2⟩ := hF 2 (.inr (.inl ⟨rfl, .inl rfl⟩))
              obtain ⟨g, e4, s4, l4, h4⟩ := hF 4 (.inr (.inl ⟨rfl, .inr rfl⟩))
              obtain ⟨p2, c2, e2⟩ := hG 2 (by simp [dep19])
              have hbs := hM.bel.size
              rw [e2] at f2 s2
              have hnw : 0 < 1 → ∃ b' o', (some ⟨g, 0, none⟩ : Option Addr) = some ⟨b', o', none⟩ ∧ ∀ j u, ([.slice (some ⟨w2.heap.size, 0, none⟩) 1 1, .slice none 0 0, .slice q N.length cq, .slice none 0 0])[j]? = some u → w1.cell? ⟨b', o' + j, none⟩ = some u := fun _ => ⟨g, 0, rfl, fun j u hu => by rw [Nat.zero_add]; exact (Lib.cell_of_heap h4 j).trans (by rw [List.getElem?_toArray]; exact hu)⟩
              refine op_ rfl rfl (wp_append_sl rfl _ _ 22 rfl W0.heap.size TO io (.agg #[.slice none 0 0, .slice none 0 0, .slice none 0 0, .slice none 0 0]) 4 96 Try.underlying22 hio ho0 ho1 ho2 rfl (by decide) (.slice p2 objs0.length c2) objs0.length oc e2 f2 (some ⟨g, 0, none⟩) 1 1 [.slice (some ⟨w2.heap.size, 0, none⟩) 1 1, .slice none 0 0, .slice q N.length cq, .slice none 0 0] e4 rfl hnw (by simp [Value.oneCell']) (by unfold maxLen; omega) (by omega) hbs ?_)
              intro p' c' w' hown hgrow hat
              exact SU.did_ _ (fun k => (Value.slice p' (objs0.length + 1) c').ownBlock = some k) (HPLAN.out).inj (by decide) (by rfl) (by rw [HM.out.sz]; exact (by decide : 85 < 153)) hgrow.os hgrow.tape hgrow.output hgrow.size (fun k hk hn => hgrow.block k hk (fun e => hn 2 (.inr (.inl ⟨rfl, .inl rfl⟩)) (s2 k e.symm))) (fun k hk => by
                rcases hat with e | e
                · rw [hk] at e; exact .inl ⟨2, .inr (.inl ⟨rfl, .inl rfl⟩), s2 k e.symm⟩
                · have := (hown.lt k hk).2; rw [hk] at e; injection e with e; exact .inr ⟨by omega, this⟩) (fun u eu en => ⟨⟨p', c', eu⟩, by show w'.ownsRow W0.heap.size TO 4 (u 5) (objs0.length + 1) (oc ++ [.slice (some ⟨w2.heap.size, 0, none⟩) 1 1, .slice none 0 0, .slice q N.length cq, .slice none 0 0]) ∧ _; rw [eu]; exact ⟨hown, fun _ h => h⟩⟩)
            | 6, _ =>
              cases hop
              have HM := Lib.hid hM
              obtain ⟨f5, s5⟩ := hF 5 (.inr (.inr (.inl ⟨rfl, rfl⟩)))
              obtain ⟨p6, c6, e5⟩ := hG 5 (by simp [dep19])
              rw [e5] at f5
              have hb := hM.bel
              have hob : ObjsAt w1.heap.size w1 (.slice p6 (objs0.length + 1) c6) (objs0 ++ [moO N]) := objs_of (by simp) f5 (fun i x hx => by
                obtain ⟨v0, v1, v2, v3, q0, q1, q2, q3, ho⟩ := HOCA.out i x hx
                exact ⟨v0, v1, v2, v3, q0, q1, q2, q3, (ho.below hb).up hb.size⟩)
              have c6' := RsOr.res3lo_ (w := w1) (n₀ := w1.heap.size) (Nat.le_refl _) hob (fun x hx => by
                rcases List.mem_append.1 hx with hx | hx
                · exact HW.out x hx
                · rw [List.mem_singleton.1 hx]; exact moO_wf HOD.out HW.out) (by simp; omega) (fun x hx => by
                rcases List.mem_append.1 hx with hx | hx
                · exact HMS.out x hx
                · rw [List.mem_singleton.1 hx, moO_len]; unfold maxLen; omega) (by rw [flat_own]; omega)
              rw [HCODE.out, HPL.out, HEE.out.2.1, HEE.out.2.2] at c6'
              refine op_ rfl rfl ?_
              have t85 : a.tmps[85]?.getD undef = .slice p6 (objs0.length + 1) c6 := (Array.getD_eq_getD_getElem?).symm.trans e5
              clear hM hG hF hS hD hb hob e5 f5 s5
              go_simp
              refine c6'.mono ?_
              rintro e w' ⟨p8, c8, rfl, ht, hb8⟩
              exact SU.did_b _ (fun k => w1.heap.size ≤ k ∧ k < w'.heap.size) (HPLAN.out).inj (by decide) (by rfl) (by rw [HM.out.sz]; exact (by decide : 86 < 153)) hb8 (fun k hk => hk) (fun u eu en => ⟨⟨p8, c8, eu⟩, _, eu, ht⟩)
            | 7, _ =>
              cases hop
              have HM := Lib.hid hM
              obtain ⟨p8, c8, e6⟩ := hG 6 (by simp [dep19])
              refine op_ rfl rfl ?_
              have t86 : a.tmps[86]?.getD undef = .tuple #[.slice p8 (tgL (objs0 ++ [moO N])).length c8, (.agg #[.int .i64 PI, .int .i64 PK]), (.int .i64 E)] := (Array.getD_eq_getD_getElem?).symm.trans e6
              clear hM hG hF hS hD
              go_simp
              exact SU.did_b _ (fun _ => False) (HPLAN.out).inj (by decide) (by rfl) (by rw [HM.out.sz]; exact (by decide : 79 < 153)) (Below.refl _ _) (fun k hk => hk.elim) (fun u eu en => ⟨⟨eu.trans (e6.symm.trans (en 6 (by decide) (by decide)).symm), p8, c8, eu⟩, trivial⟩)
            | 8, _ =>
              cases hop
              have HM := Lib.hid hM
              obtain ⟨-, p8, c8, e7⟩ := hG 7 (by simp [dep19])
              refine op_ rfl rfl ?_
              have t79 : a.tmps[79]?.getD undef = .tuple #[.slice p8 (tgL (objs0 ++ [moO N])).length c8, (.agg #[.int .i64 PI, .int .i64 PK]), (.int .i64 E)] := (Array.getD_eq_getD_getElem?).symm.trans e7
              clear hM hG hF hS hD
              go_simp
              exact SU.did_b _ (fun _ => False) (HPLAN.out).inj (by decide) (by rfl) (by rw [HM.out.sz]; exact (by decide : 87 < 153)) (Below.refl _ _) (fun k hk => hk.elim) (fun u eu en => ⟨⟨by rw [en 7 (by decide) (by decide), eu]; exact e7, p8, c8, eu⟩, trivial⟩)
            | 9, _ =>
              cases hop
              have HM := Lib.hid hM
              obtain ⟨-, p8, c8, e7⟩ := hG 7 (by simp [dep19])
              refine op_ rfl rfl ?_
              have t79 : a.tmps[79]?.getD undef = .tuple #[.slice p8 (tgL (objs0 ++ [moO N])).length c8, (.agg #[.int .i64 PI, .int .i64 PK]), (.int .i64 E)] := (Array.getD_eq_getD_getElem?).symm.trans e7
              clear hM hG hF hS hD
              go_simp
              exact SU.did_b _ (fun _ => False) (HPLAN.out).inj (by decide) (by rfl) (by rw [HM.out.sz]; exact (by decide : 88 < 153)) (Below.refl _ _) (fun k hk => hk.elim) (fun u eu en => ⟨eu, trivial⟩)
            | 10, _ =>
              cases hop
              have HM := Lib.hid hM
              obtain ⟨-, p8, c8, e7⟩ := hG 7 (by simp [dep19])
              refine op_ rfl rfl ?_
              have t79 : a.tmps[79]?.getD undef = .tuple #[.slice p8 (tgL (objs0 ++ [moO N])).length c8, (.agg #[.int .i64 PI, .int .i64 PK]), (.int .i64 E)] := (Array.getD_eq_getD_getElem?).symm.trans e7
              clear hM hG hF hS hD
              go_simp
              exact SU.did_b _ (fun _ => False) (HPLAN.out).inj (by decide) (by rfl) (by rw [HM.out.sz]; exact (by decide : 89 < 153)) (Below.refl _ _) (fun k hk => hk.elim) (fun u eu en => ⟨eu, trivial⟩)
            | 11, _ =>
              cases hop
              have HM := Lib.hid hM
              refine op_ rfl rfl ?_
              clear hM hG hF hS hD
              go_simp
              exact SU.did_b _ (fun k => k = w1.heap.size) (HPLAN.out).inj (by decide) (by rfl) (by rw [HM.out.sz]; exact (by decide : 13 < 153)) ((Below.refl _ _).alloc (Nat.le_refl _) _) (fun k hk => by subst hk; simp) (fun u eu en => ⟨⟨_, eu⟩, _, eu, rfl, by simp, _, _, heap_alloc_new _ _⟩)
            | 12, _ =>
              cases hop
              have HM := Lib.hid hM
              obtain ⟨-, p8, c8, e8⟩ := hG 8 (by simp [dep19])
              refine op_ rfl rfl ?_
              have t87 : a.tmps[87]?.getD undef = .slice p8 (tgL (objs0 ++ [moO N])).length c8 := (Array.getD_eq_getD_getElem?).symm.trans e8
              clear hM hG hF hS hD
              go_simp
              exact SU.did_b _ (fun _ => False) (HPLAN.out).inj (by decide) (by rfl) (by rw [HM.out.sz]; exact (by decide : 12 < 153)) (Below.refl _ _) (fun k hk => hk.elim) (fun u eu en => ⟨eu.trans (e8.symm.trans (en 8 (by decide) (by decide)).symm), trivial⟩)
            | 13, _ =>
              cases hop
              have HM := Lib.hid hM
              obtain ⟨g, e11, s11, l11, x0, y0, h11⟩ := hF 11 (.inr (.inr (.inr ⟨rfl, rfl⟩)))
              have e9 : a.tmps.getD 88 undef = (.agg #[.int .i64 PI, .int .i64 PK]) := hG 9 (by simp [dep19])
              refine op_ rfl rfl ?_
              have t13 : a.tmps[13]?.getD undef = .pointer (some ⟨g, 0, none⟩) := (Array.getD_eq_getD_getElem?).symm.trans e11
              have t88 : a.tmps[88]?.getD undef = (.agg #[.int .i64 PI, .int .i64 PK]) := (Array.getD_eq_getD_getElem?).symm.trans e9
              have q0 := Lib.cell_of_heap h11 0
              have q1 := Lib.cell_of_heap h11 1
              simp only [List.getElem?_toArray, List.getElem?_cons_zero, List.getElem?_cons_succ] at q0 q1
              have f0 := Lib.frozen_of_heap h11 0
              have f1 := Lib.frozen_of_heap h11 1
              have HG2 := Lib.hid (⟨e11, h11, s11, l11⟩ : _ ∧ _ ∧ _ ∧ _)
              clear hM hG hF hS hD e11 e9 h11 s11 l11
              go_simp
              obtain ⟨e11, h11, s11, l11⟩ := HG2.out
              have z0 := heap_setCell_same w1 g 0 _ _ (.int .i64 PI) h11
              have z1 := heap_setCell_same _ g 1 _ _ (.int .i64 PK) z0
              simp only [List.setIfInBounds_toArray, List.set_cons_zero, List.set_cons_succ] at z1
              exact ⟨.int .i64 0, fun k => k = g, rfl, rfl, rfl, rfl, by simp [World.setCell], fun k hk hn => by
                have hkg : k ≠ g := fun e => hn 11 (.inr (.inr (.inr ⟨rfl, rfl⟩))) (e ▸ s11)
                rw [heap_setCell_other _ ⟨g, 1, none⟩ k _ hkg, heap_setCell_other _ ⟨g, 0, none⟩ k _ hkg], fun k hk => .inl ⟨11, .inr (.inr (.inr ⟨rfl, rfl⟩)), hk ▸ s11⟩, trivial, g, e11, rfl, by simpa [World.setCell] using l11, z1⟩
            | 14, _ =>
              cases hop
              have HM := Lib.hid hM
              have e10 : a.tmps.getD 89 undef = (.int .i64 E) := hG 10 (by simp [dep19])
              refine op_ rfl rfl ?_
              have t89 : a.tmps[89]?.getD undef = (.int .i64 E) := (Array.getD_eq_getD_getElem?).symm.trans e10
              clear hM hG hF hS hD
              go_simp
              exact SU.did_b _ (fun _ => False) (HPLAN.out).inj (by decide) (by rfl) (by rw [HM.out.sz]; exact (by decide : 14 < 153)) (Below.refl _ _) (fun k hk => hk.elim) (fun u eu en => ⟨eu, trivial⟩)
            | k + 15, h => omega
          case done =>
            intro a w1 S hM hG hF hD
            have hnc : ∀ m, m = 6 ∨ m = 13 → ∀ j, j < 15 → ¬ cons19 j m := fun m hm j hj hc => by unfold cons19 at hc; omega
            obtain ⟨⟨tv, e6, hti⟩, -⟩ := hF 6 (by decide) (hnc 6 (.inl rfl))
            obtain ⟨⟨gt, e13, -, lgt, hgt⟩, hgS⟩ := hF 13 (by decide) (hnc 13 (.inr rfl))
            obtain ⟨u, hu⟩ : ∃ u : Nat → Value, u = fun i => a.tmps.getD (SU.num dst19 i) undef := ⟨_, rfl⟩
            have ea := hM.eq
            rw [← hu] at ea
            have g := fun i (h : i < 15) => hG i h
            have x0 : u 0 = SU.got dst19 a 0 := by rw [hu]; rfl
            have x1 : u 1 = SU.got dst19 a 1 := by rw [hu]; rfl
            have x2 : u 2 = SU.got dst19 a 2 := by rw [hu]; rfl
            have x3 : u 3 = SU.got dst19 a 3 := by rw [hu]; rfl
            have x4 : u 4 = SU.got dst19 a 4 := by rw [hu]; rfl
            have x5 : u 5 = SU.got dst19 a 5 := by rw [hu]; rfl
            have x6 : u 6 = SU.got dst19 a 6 := by rw [hu]; rfl
            have x7 : u 7 = SU.got dst19 a 7 := by rw [hu]; rfl
            have x8 : u 8 = SU.got dst19 a 8 := by rw [hu]; rfl
            have x9 : u 9 = SU.got dst19 a 9 := by rw [hu]; rfl
            have x10 : u 10 = SU.got dst19 a 10 := by rw [hu]; rfl
            have x11 : u 11 = SU.got dst19 a 11 := by rw [hu]; rfl
            have x12 : u 12 = SU.got dst19 a 12 := by rw [hu]; rfl
            have x14 : u 14 = SU.got dst19 a 14 := by rw [hu]; rfl
            clear hu
            obtain ⟨g0, v0⟩ := hG 0 (by decide)
            have v1 : SU.got dst19 a 1 = (.slice p objs0.length c) := hG 1 (by decide)
            obtain ⟨p2, c2, v2⟩ := hG 2 (by decide)
            have v3 : SU.got dst19 a 3 = (.agg #[.slice (some ⟨w2.heap.size, 0, none⟩) 1 1, .slice none 0 0, .slice q N.length cq, .slice none 0 0]) := hG 3 (by decide)
            obtain ⟨g4, v4⟩ := hG 4 (by decide)
            obtain ⟨p6, c6, v5⟩ := hG 5 (by decide)
            obtain ⟨v7, -⟩ := hG 7 (by decide)
            obtain ⟨v78, p8, c8, v8⟩ := hG 8 (by decide)
            have v9 : SU.got dst19 a 9 = (.agg #[.int .i64 PI, .int .i64 PK]) := hG 9 (by decide)
            have v10 : SU.got dst19 a 10 = (.int .i64 E) := hG 10 (by decide)
            have v12 : SU.got dst19 a 12 = SU.got dst19 a 8 := hG 12 (by decide)
            have v14 : SU.got dst19 a 14 = (.int .i64 E) := hG 14 (by decide)
            have etv : tv = .slice p8 (tgL (objs0 ++ [moO N])).length c8 := by
              have h := v7.symm.trans v78
              rw [e6, v8] at h
              injection h with h
              simp only [Array.mk.injEq, List.cons.injEq, and_true] at h
              exact h
            have v6 : SU.got dst19 a 6 = .tuple #[.slice p8 (tgL (objs0 ++ [moO N])).length c8, (.agg #[.int .i64 PI, .int .i64 PK]), (.int .i64 E)] := by rw [← etv]; exact e6
            rw [etv] at hti
            have v7' := v7.trans v6
            rw [v0] at x0
            rw [v1] at x1
            rw [v2] at x2
            rw [v3] at x3
            rw [v4] at x4
            rw [v5] at x5
            rw [v6] at x6
            rw [v7'] at x7
            rw [v8] at x8
            rw [v9] at x9
            rw [v10] at x10
            rw [show SU.got dst19 a 11 = _ from e13] at x11
            rw [v12, v8] at x12
            rw [v14] at x14
            have hti2 := Lib.hid hti.at_
            have hbw1 := hM.bel
            have HBW1 := Lib.hid hbw1
            have HGT := Lib.hid hgt
            rw [ea, put15 u _ (by show 153 ≤ 100000; omega)]
            clear ea hM hG hF hD g hnc e6 e13 v0 v1 v2 v3 v4 v5 v6 v7 v78 v8 v9 v10 v12 v14 v7' etv hti hbw1 hgS hgt
            simp only [OI.putAll, SU.num, dst19, Option.getD_some, x0, x1, x2, x3, x4, x5, x6, x7, x8, x9, x10, x11, x12, x14]
            clear x0 x1 x2 x3 x4 x5 x6 x7 x8 x9 x10 x11 x12 x14
            go_simp
            have TA := (HTIN.out.kept HBW1.out.size (fun k hk _ => HBW1.out.block k hk)).at_
            have TB := hti2.out
            have hrows : ∀ i r, (tgL objs0)[i]? = some r → (tgL (objs0 ++ [moO N]))[i]? = some r := fun i r h => own_rows1 HEE.out.1 HCODE.out (moO_defs N) i r h
            have hlen : E = 0 → (tgL (objs0 ++ [moO N])).length = (tgL objs0).length + 1 := fun h => own_rows2 (HEE.out.1.trans h) (HCODE.out.trans h)
            have hlim : (tgL objs0).length ≤ 100 ∧ (tgL (objs0 ++ [moO N])).length ≤ 100 := ⟨by have := tgL_le objs0; omega, by have := tgL_le (objs0 ++ [moO N]); rw [List.length_append, List.length_singleton] at this; omega⟩
            have ba := (HBW1.out.block _ (lt_heap HAT0.out)).trans HAT0.out
            have bg := HGT.out
            have s0 := Lib.cell_of_heap ba 0
            have s1 := Lib.cell_of_heap ba 1
            have t0 := Lib.cell_of_heap bg 0
            have t1 := Lib.cell_of_heap bg 1
            simp only [List.getElem?_toArray, List.getElem?_cons_zero, List.getElem?_cons_succ] at s0 s1 t0 t1
            have hbwf := Lib.hid (HB0.out.trans (HBW1.out.mono HB0.out.size))
            obtain ⟨qa, ca, ea, TA⟩ := TA
            cases ea
            obtain ⟨qb, cb, eb, TB⟩ := TB
            cases eb
            have HTA := Lib.hid TA
            have HTB := Lib.hid TB
            have HROWS := Lib.hid hrows
            have HLEN := Lib.hid hlen
            clear TA TB hrows hlen ba bg hti2 HTIN HGT HAT0
            generalize tgL objs0 = RA at *
            generalize tgL (objs0 ++ [moO N]) = RB at *
            have hne := tg_neq PI PK
            have e1 : (E != E) = false := by simp
            by_cases hE0 : E = 0
            · have e2 : (E == 0) = true := by rw [hE0]; rfl
              have e3 : ((RB.length : Int) != (RA.length : Int) + 1) = false := by rw [bne_eq_false_iff_eq, HLEN.out hE0]; omega
              clear hE0
              go_wp2
              go_loopw [112] (fun iv wa => ∃ i : Nat, i ≤ RA.length ∧ iv = .int .i64 (i : Int) ∧ Hid (Below w1.heap.size w1 wa)) (fun iv _ => RA.length - (intOf iv).toNat)
              case atStart => exact ⟨0, Nat.zero_le _, rfl, Lib.hid (Below.refl _ _)⟩
              case round =>
                obtain ⟨i, hi, rfl, HI3⟩ := hrel
                obtain ⟨wa, rfl⟩ : ∃ wa : World, wa = wr := ⟨_, rfl⟩
                by_cases hlt : i < RA.length
                · have hrA := List.getElem?_eq_getElem hlt
                  have hrB := HROWS.out i _ hrA
                  have hltB : i < RB.length := (List.getElem?_eq_some_iff.1 hrB).1
                  obtain ⟨ba, oa, rfl, hba, hca1, hca2, hA⟩ := HTA.out (by omega)
                  obtain ⟨bb, ob, rfl, hbb, hcb1, hcb2, hB⟩ := HTB.out (by omega)
                  obtain ⟨va, c0, pa, ka, rfl, hra⟩ := hA i _ hrA
                  obtain ⟨vb, d0, pb, kb, rfl, hrb⟩ := hB i _ hrB
                  have HRA := Lib.hid hra
                  have HRB := Lib.hid hrb
                  have x0 := (HI3.out.cell (p := ⟨ba, oa + i, none⟩) hba).trans c0
                  have hrl : RA[i].length ≤ maxLen := by
                    by_cases h0 : 0 < RA[i].length
                    · obtain ⟨b', o', -, -, h1, h2, -⟩ := hra h0
                      omega
                    · unfold maxLen; omega
                  unfold maxLen at hrl
                  have C0 := Lib.hid c0
                  have D0 := Lib.hid d0
                  have hi0 : (0 : Int) ≤ (i : Int) := by omega
                  have hi1 : (i : Int) < (RA.length : Int) := by omega
                  have hi2 : (i : Int) < (RB.length : Int) := by omega
                  clear hrA hrB hA hB hra hrb c0 d0
                  generalize RA[i] = r at *
                  go_wp2
                  clear x0
                  go_loopw [120] (fun kv wx => ∃ k : Nat, k ≤ r.length ∧ kv = .int .i64 (k : Int) ∧ Hid (Below w1.heap.size w1 wx)) (fun kv _ => r.length - (intOf kv).toNat)
                  case atStart => exact ⟨0, Nat.zero_le _, rfl, HI3⟩
                  case round =>
                    obtain ⟨k, hk, rfl, HK3⟩ := hrel
                    by_cases hkt : k < r.length
                    · obtain ⟨b2, o2, rfl, hb2, -, -, hc2⟩ := HRA.out (by omega)
                      obtain ⟨b3, o3, rfl, hb3, -, -, hc3⟩ := HRB.out (by omega)
                      have hg := List.getElem?_eq_getElem hkt
                      obtain ⟨q0, q1⟩ := hc2 k _ hg
                      obtain ⟨r0, r1⟩ := hc3 k _ hg
                      have y0 := (HK3.out.cell (p := ⟨ba, oa + i, none⟩) hba).trans C0.out
                      have y1 := (HK3.out.cell (p := ⟨bb, ob + i, none⟩) hbb).trans D0.out
                      have y2 := (HK3.out.cell (p := ⟨b2, o2 + k * 2, none⟩) hb2).trans q0
                      have y3 := (HK3.out.cell (p := ⟨b2, o2 + k * 2 + 1, none⟩) hb2).trans q1
                      have y4 := (HK3.out.cell (p := ⟨b3, o3 + k * 2, none⟩) hb3).trans r0
                      have y5 := (HK3.out.cell (p := ⟨b3, o3 + k * 2 + 1, none⟩) hb3).trans r1
                      have hk0 : (0 : Int) ≤ (k : Int) := by omega
                      have hk1 : (k : Int) < (r.length : Int) := by omega
                      have z0 : ((r.length : Int) != (r.length : Int)) = false := by simp
                      clear hc2 hc3 q0 q1 r0 r1 hg
                      generalize r[k] = t at *
                      obtain ⟨tx, ty⟩ := t
                      simp only at y2 y3 y4 y5
                      have hne2 := tg_neq tx ty
                      go_upto_region 28 with fail
                      go_quiet (fail)
                      go_wp2
                      go_roundw
                      case rel => exact ⟨k + 1, by omega, by go_num, Lib.hid (below_dn HK3.out _)⟩
                      case measure => simp [intOf]; omega
                    · obtain rfl : k = r.length := by omega
                      go_wp2
                      go_roundw
                      case rel => exact ⟨i + 1, by omega, by go_num, HK3⟩
                      case measure => simp [intOf]; omega
                · obtain rfl : i = RA.length := by omega
                  go_wp2
                  go_ret
                  exact ⟨rfl, hbwf.out.trans (HI3.out.mono hbwf.out.size)⟩
            · have e2 : (E == 0) = false := by simpa using hE0
              clear hE0
              go_wp2
              go_loopw [112] (fun iv wa => ∃ i : Nat, i ≤ RA.length ∧ iv = .int .i64 (i : Int) ∧ Hid (Below w1.heap.size w1 wa)) (fun iv _ => RA.length - (intOf iv).toNat)
              case atStart => exact ⟨0, Nat.zero_le _, rfl, Lib.hid (Below.refl _ _)⟩
              case round =>
                obtain ⟨i, hi, rfl, HI3⟩ := hrel
                obtain ⟨wa, rfl⟩ : ∃ wa : World, wa = wr := ⟨_, rfl⟩
                by_cases hlt : i < RA.length
                · have hrA := List.getElem?_eq_getElem hlt
                  have hrB := HROWS.out i _ hrA
                  have hltB : i < RB.length := (List.getElem?_eq_some_iff.1 hrB).1
                  obtain ⟨ba, oa, rfl, hba, hca1, hca2, hA⟩ := HTA.out (by omega)
                  obtain ⟨bb, ob, rfl, hbb, hcb1, hcb2, hB⟩ := HTB.out (by omega)
                  obtain ⟨va, c0, pa, ka, rfl, hra⟩ := hA i _ hrA
                  obtain ⟨vb, d0, pb, kb, rfl, hrb⟩ := hB i _ hrB
                  have HRA := Lib.hid hra
                  have HRB := Lib.hid hrb
                  have x0 := (HI3.out.cell (p := ⟨ba, oa + i, none⟩) hba).trans c0
                  have hrl : RA[i].length ≤ maxLen := by
                    by_cases h0 : 0 < RA[i].length
                    · obtain ⟨b', o', -, -, h1, h2, -⟩ := hra h0
                      omega
                    · unfold maxLen; omega
                  unfold maxLen at hrl
                  have C0 := Lib.hid c0
                  have D0 := Lib.hid d0
                  have hi0 : (0 : Int) ≤ (i : Int) := by omega
                  have hi1 : (i : Int) < (RA.length : Int) := by omega
                  have hi2 : (i : Int) < (RB.length : Int) := by omega
                  clear hrA hrB hA hB hra hrb c0 d0
                  generalize RA[i] = r at *
                  go_wp2
                  clear x0
                  go_loopw [120] (fun kv wx => ∃ k : Nat, k ≤ r.length ∧ kv = .int .i64 (k : Int) ∧ Hid (Below w1.heap.size w1 wx)) (fun kv _ => r.length - (intOf kv).toNat)
                  case atStart => exact ⟨0, Nat.zero_le _, rfl, HI3⟩
                  case round =>
                    obtain ⟨k, hk, rfl, HK3⟩ := hrel
                    by_cases hkt : k < r.length
                    · obtain ⟨b2, o2, rfl, hb2, -, -, hc2⟩ := HRA.out (by omega)
                      obtain ⟨b3, o3, rfl, hb3, -, -, hc3⟩ := HRB.out (by omega)
                      have hg := List.getElem?_eq_getElem hkt
                      obtain ⟨q0, q1⟩ := hc2 k _ hg
                      obtain ⟨r0, r1⟩ := hc3 k _ hg
                      have y0 := (HK3.out.cell (p := ⟨ba, oa + i, none⟩) hba).trans C0.out
                      have y1 := (HK3.out.cell (p := ⟨bb, ob + i, none⟩) hbb).trans D0.out
                      have y2 := (HK3.out.cell (p := ⟨b2, o2 + k * 2, none⟩) hb2).trans q0
                      have y3 := (HK3.out.cell (p := ⟨b2, o2 + k * 2 + 1, none⟩) hb2).trans q1
                      have y4 := (HK3.out.cell (p := ⟨b3, o3 + k * 2, none⟩) hb3).trans r0
                      have y5 := (HK3.out.cell (p := ⟨b3, o3 + k * 2 + 1, none⟩) hb3).trans r1
                      have hk0 : (0 : Int) ≤ (k : Int) := by omega
                      have hk1 : (k : Int) < (r.length : Int) := by omega
                      have z0 : ((r.length : Int) != (r.length : Int)) = false := by simp
                      clear hc2 hc3 q0 q1 r0 r1 hg
                      generalize r[k] = t at *
                      obtain ⟨tx, ty⟩ := t
                      simp only at y2 y3 y4 y5
                      have hne2 := tg_neq tx ty
                      go_upto_region 28 with fail
                      go_quiet (fail)
                      go_wp2
                      go_roundw
                      case rel => exact ⟨k + 1, by omega, by go_num, Lib.hid (below_dn HK3.out _)⟩
                      case measure => simp [intOf]; omega
                    · obtain rfl : k = r.length := by omega
                      go_wp2
                      go_roundw
                      case rel => exact ⟨i + 1, by omega, by go_num, HK3⟩
                      case measure => simp [intOf]; omega
                · obtain rfl : i = RA.length := by omega
                  go_wp2
                  go_ret
                  exact ⟨rfl, hbwf.out.trans (HI3.out.mono hbwf.out.size)⟩

set_option maxRecDepth 100000 in
theorem lifted (os : Os) (started : os.Started) (H : Type) (enc : TypeId × Value → H) :
    ReturnsInHanded {} Try.checked os 3 .any (Rows.resolveOwnSpec.pre6 enc Try.prog Try.f3 Rows.resolveOwnRow.domain false) (Rows.resolveOwnSpec.post enc Try.prog Try.f3 false true false false) := by
  refine returnsInHanded_of_change (C := Try.checked) own started (by kernel_rfl) Try.func3
    (ChangeSpec.witness6 (enc := enc) (C := Try.checked) false ⟨#[], #[.slice none 0 0], []⟩ 8 (by kernel_rfl) (by kernel_rfl) (by kernel_rfl) (by kernel_rfl)) ?_
  intro W base args ds gs before hval0 hW hcnd _
  have hval : ∀ (j : Nat) t v, Try.f3.params[j]? = some t → args[j]? = some v → Value.okWide Try.prog W .any base t v := hval0
  have hW' := hW
  obtain ⟨p, q, hA0, hV, rfl, hfz, hnd⟩ := hW
  have hA : DataW.TrodAll enc Try.prog W 0 (fun _ => true) true Try.f3.params.toList args.toList ds p := hA0
  rw [Try.params3] at hA hval
  obtain ⟨v0, vs0, d0, ds0, p0, q0, hargs, rfl, rfl, h0, r0⟩ := trodAll_cons hA
  obtain ⟨rfl, rfl, rfl⟩ := trodAll_nil r0
  obtain rfl : args = #[v0] := by cases args; simp_all
  obtain ⟨rfl, rfl⟩ := trodVars_none hV
  obtain ⟨objs0, ha0, hw0⟩ := RsO.open_objs (hval 0 22 v0 rfl rfl) h0
  clear hA0 hval0
  simp only [List.append_nil] at hW'
  refine (walk v0 objs0 W ha0 hw0).mono fun e W' ⟨he, hg⟩ => ?_
  subst he
  exact ⟨_, rfl, _, _, _, [], _, _, hW', (trodAll_cons_mk (shut_bool Try.underlying4 _) trodAll_mk0), (trodAll_cons_mk (OB.shut_any (by kernel_rfl) (by kernel_rfl) (by decide) h0 hg) trodAll_mk0), rfl, hg.frame _, fun h => by cases h⟩

theorem over : Rows.resolveOwnRow.holds Try.pinned (OpenSpec.ofChange Rows.resolveOwnSpec) :=
  OpenClaim.holds_of_wide 3 Try.f3 rfl rfl rfl rfl rfl rfl rfl ⟨rfl, rfl, rfl, rfl, rfl⟩ rfl rfl rfl rfl rfl (by kernel_rfl) Try.func3 (by kernel_rfl)
    (of_decide_eq_true (by kernel_rfl)) (by unfold Func.isWrapper; first | (rw [if_pos (by decide +kernel)]; kernel_rfl) | (rw [if_neg (by decide +kernel)]; exact ⟨rfl, rfl⟩))
    (fun os started H enc _ => lifted os started H enc)

/-- The statement. -/
theorem proved : Rows.ResolveOwnSaid :=
  over
end Go.Proofs.Ytlmblfkcmhgdaaa.resolveOwn
