/-
  The program's check of an object: it comes back where there is one, and else throws a flaw: a contract. No condition but that the object lies in memory.
-/
import Derived.Test.YtlmblfkcmhgdaaaObjCk
import Derived.Test.YtlmblfkcmhgdaaaObjCl
import Derived.Deep.DeepCutAuto
namespace Go.Proofs.Ytlmblfkcmhgdaaa
open Go.RowKit Go.Maps Go.WideMaps
set_option linter.unusedVariables false
set_option linter.unusedSimpArgs false
namespace OCh
open OO OJ OU ORl OCk OF OI
theorem box0 (w : World) (x : Obj) : Below w.heap.size w (w.alloc x) := (Below.refl _ _).alloc (Nat.le_refl _) _
theorem law9 : Keyed Try.prog 9 := string_keyed Try.underlying9
theorem zeroU (w : World) : (zeroValue 58).run Try.prog w = .ok (.agg #[]) w := by kernel_rfl
theorem demand_ (b : Bool) (w : World) : Calls Try.prog 20 #[.bool b] w fun e w' => e = (if b then .returned (.tuple #[]) else thrown) ∧ w = w' := by
  cases b
  · exact demand_no w
  · exact demand_yes w
def dst (i : Nat) : Nat := 74 + i
theorem dst_inj (i j : Nat) (hi : i < 18) (hj : j < 18) (h : dst i = dst j) : i = j := by unfold dst at h; omega
set_option maxRecDepth 100000 in
set_option maxHeartbeats 8000000 in
theorem check_lens {w : World} {n₀ : Nat} {v0 v1 v2 v3 : Value} {o : ObjV} (hn : n₀ ≤ w.heap.size) (ho : ObjAt n₀ w v0 v1 v2 v3 o) (hw : o.Wf) (hl : lensB o = true) :
    Calls Try.prog 18 #[.agg #[v0, v1, v2, v3]] w (CkEnd (chk o) w) := by
  have hmm := @run_makeMap Try.prog
  obtain ⟨p0, q0, rfl, -⟩ := ho.ws
  obtain ⟨p1, q1, rfl, -⟩ := ho.ds
  obtain ⟨p2, q2, rfl, -⟩ := ho.ss
  obtain ⟨p3, q3, rfl, -⟩ := ho.rs
  have hl' := hl
  unfold lensB at hl'
  simp only [Bool.and_eq_true, decide_eq_true_eq] at hl'
  obtain ⟨⟨h0, h1, h8⟩, h2, h3⟩ := hl'
  have h8' : (o.ds.length : Int) % 8 = 0 := by omega
  have HL := Lib.hid hl
  have HO := Lib.hid ho
  have HW := Lib.hid hw
  clear ho hw hl h8
  go_enter Try.func18, Try.ntmps18
  have d0 : decide ((o.ws.length : Int) ≤ 65536) = true := decide_eq_true (by omega)
  have d1 : decide ((o.ds.length : Int) ≤ 65536) = true := decide_eq_true (by omega)
  have d2 : decide ((o.ss.length : Int) ≤ 600) = true := decide_eq_true (by omega)
  have d3 : decide ((o.rs.length : Int) ≤ 65536) = true := decide_eq_true (by omega)
  have d8 : ((o.ds.length : Int) % 8 == 0) = true := by simpa using h8'
  go_upto_region 4 with (go_at_call 20; (with_reducible refine (demand_t _ ?_ _).mono ?_); (focus first | rfl | (simp; done) | (simp; omega)); rintro e w1 ⟨rfl, rfl⟩)
  clear d0 d1 d2 d3 d8 h8'
  have hbx0 := heap_alloc_new w (.cells #[.slice p0 o.ws.length q0, .slice p1 o.ds.length q1, .slice p2 o.ss.length q2, .slice p3 o.rs.length q3] TO)
  have hB0 : Below w.heap.size w ((w.alloc (.cells #[.slice p0 o.ws.length q0, .slice p1 o.ds.length q1, .slice p2 o.ss.length q2, .slice p3 o.rs.length q3] TO)).alloc (.map #[] 0)) := ((Below.refl _ _).alloc (Nat.le_refl _) _).alloc (by simp) _
  have hbx : ((w.alloc (.cells #[.slice p0 o.ws.length q0, .slice p1 o.ds.length q1, .slice p2 o.ss.length q2, .slice p3 o.rs.length q3] TO)).alloc (.map #[] 0)).heap[w.heap.size]? = some (.cells #[.slice p0 o.ws.length q0, .slice p1 o.ds.length q1, .slice p2 o.ss.length q2, .slice p3 o.rs.length q3] TO (0, 0)) := (Lib.alloc_old _ _ _ (by simp)).trans hbx0
  have hmp : ((w.alloc (.cells #[.slice p0 o.ws.length q0, .slice p1 o.ds.length q1, .slice p2 o.ss.length q2, .slice p3 o.rs.length q3] TO)).alloc (.map #[] 0)).ownsMap Try.prog 9 unitElem (w.heap.size + 1) 0 (names o.ss 0) := by
    have := World.ownsMap_made (H := Unit) (w.alloc (.cells #[.slice p0 o.ws.length q0, .slice p1 o.ds.length q1, .slice p2 o.ss.length q2, .slice p3 o.rs.length q3] TO)) Try.prog 9 unitElem
    rwa [World.size_alloc] at this
  have HB0 := Lib.hid hB0
  have HX0 := Lib.hid hbx
  have HM0 := Lib.hid hmp
  clear hbx0 hbx hB0 hmp
  generalize (w.alloc (.cells #[.slice p0 o.ws.length q0, .slice p1 o.ds.length q1, .slice p2 o.ss.length q2, .slice p3 o.rs.length q3] TO)).alloc (.map #[] 0) = W0 at *
  have HX0c := HX0.out
  have y2 : W0.cell? ⟨w.heap.size, 2, none⟩ = some (.slice p2 o.ss.length q2) := Lib.cell_of_heap HX0c 2
  clear HX0c
  go_wp2_with fail
  go_loopw [42] (fun i wr => ∃ k : Nat, k ≤ o.ss.length ∧ i = .int .i64 k ∧ Hid (symsTo o.ws.length o.ds.length o.ss k = true) ∧ wr.ownsMap Try.prog 9 unitElem (w.heap.size + 1) k (names o.ss k) ∧ Below w.heap.size w wr ∧ wr.heap[w.heap.size]? = some (.cells #[.slice p0 o.ws.length q0, .slice p1 o.ds.length q1, .slice p2 o.ss.length q2, .slice p3 o.rs.length q3] TO (0, 0))) (fun i _ => o.ss.length - (intOf i).toNat)
  case atStart => exact ⟨0, Nat.zero_le _, rfl, Lib.hid rfl, HM0.out, HB0.out, HX0.out⟩
  case round =>
    clear y2 HB0 HX0 HM0
    obtain ⟨k, hk, rfl, hq, hown, hbl, hbx⟩ := hrel
    by_cases hlt : k < o.ss.length
    · obtain ⟨p, c, hv, hh⟩ := HO.out.ss
      cases hv
      obtain ⟨xb, xo, rfl, hxb, -, -, hrow⟩ := hh (by omega)
      obtain ⟨s0, s1, s2, s3, s4⟩ := (hrow k _ (List.getElem?_eq_getElem hlt)).below (hbl.mono hn) hxb
      have hnm := (HW.out.ss _ (List.getElem_mem hlt)).name
      have hkey : keyOf Try.prog 9 (.string o.ss[k].name) = some (key o.ss[k]) := keyOf_string_mk Try.underlying9 hnm
      have HA := Lib.hid ((symAt_eq (nt := o.ws.length) (nd := o.ds.length) hlt).trans (by rw [← has_names]))
      have HNS := Lib.hid (names_succ o.ss k hlt)
      have hsz := hbl.size
      have hN := lt_heap hbx
      have hN1 := hown.lt
      have hxw : xb < wr.heap.size := by omega
      have c1 := fun w' => symbol_ (nt := o.ws.length) (nd := o.ds.length) (n2 := o.ss.length) (n3 := o.rs.length) (q0 := q0) (q1 := q1) (q2 := q2) (q3 := q3) (p0 := p0) (p1 := p1) (p2 := some ⟨xb, xo, none⟩) (p3 := p3) o.ss[k] w' hnm (by unfold maxLen; omega) (by unfold maxLen; omega)
      obtain ⟨f0, f1, f2, f3⟩ : wr.cell? ⟨w.heap.size, 0, none⟩ = some (.slice p0 o.ws.length q0) ∧ wr.cell? ⟨w.heap.size, 1, none⟩ = some (.slice p1 o.ds.length q1) ∧ wr.cell? ⟨w.heap.size, 2, none⟩ = some (.slice (some ⟨xb, xo, none⟩) o.ss.length q2) ∧ wr.cell? ⟨w.heap.size, 3, none⟩ = some (.slice p3 o.rs.length q3) :=
        ⟨Lib.cell_of_heap hbx 0, Lib.cell_of_heap hbx 1, Lib.cell_of_heap hbx 2, Lib.cell_of_heap hbx 3⟩
      have HQ := hq
      have HLT := Lib.hid hlt
      have HBX := Lib.hid hbx
      have HBL := Lib.hid hbl
      clear hrow hnm hh hq hbx hbl
      generalize o.ss[k] = x at *
      cases hb1 : Maps.has (names o.ss k) (key x) with
      | true =>
        have HC := Lib.hid (show chk o = false from chk_sym HLT.out (by rw [HA.out, hb1]; rfl))
        clear HA
        go_wp2_with (first
          | (at_lookup; refine wpList_lookup_own_unit _ rfl _ _ 61 rfl 9 58 law9 Try.underlying61 (zeroU _) (w.heap.size + 1) k _ rfl (hown.alloc _) _ _ rfl hkey ?_)
          | (go_at_call 21; (with_reducible refine (c1 _).mono ?_); rintro e w2 ⟨rfl, hb3⟩; have HB3 := Lib.hid hb3; clear hb3)
          | (go_at_call 20; (with_reducible refine (demand_f _ ?_ _).mono ?_); (focus first | rfl | (simp; done) | (simp; omega)); rintro e w3 ⟨rfl, rfl⟩))
        exact ⟨rfl, (⟨by rw [HC.out]; rfl, (HBL.out.alloc HBL.out.size _).alloc (by simp; omega) _⟩ : CkEnd (chk o) w thrown _)⟩
      | false =>
        cases hb2 : symOk o.ws.length o.ds.length x with
        | false =>
          have HC := Lib.hid (show chk o = false from chk_sym HLT.out (by rw [HA.out, hb1, hb2]; rfl))
          rw [hb2] at c1
          clear HA hb2
          go_wp2_with (first
            | (at_lookup; refine wpList_lookup_own_unit _ rfl _ _ 61 rfl 9 58 law9 Try.underlying61 (zeroU _) (w.heap.size + 1) k _ rfl (hown.alloc _) _ _ rfl hkey ?_)
            | (go_at_call 21; (with_reducible refine (c1 _).mono ?_); rintro e w2 ⟨rfl, hb3⟩; have HB3 := Lib.hid hb3; clear hb3)
            | (go_at_call 20; (with_reducible refine (demand_f _ ?_ _).mono ?_); (focus first | rfl | (simp; done) | (simp; omega)); rintro e w3 ⟨rfl, rfl⟩))
          exact ⟨rfl, (⟨by rw [HC.out]; rfl, ((HBL.out.alloc HBL.out.size _).alloc (by simp; omega) _).trans (HB3.out.mono (by simp; omega))⟩ : CkEnd (chk o) w thrown _)⟩
        | true =>
          have HC := Lib.hid (show symsTo o.ws.length o.ds.length o.ss (k + 1) = true by rw [symsTo_succ, HQ.out, HA.out, hb1, hb2]; rfl)
          rw [hb2] at c1
          clear HA hb2
          go_wp2_with (first
            | (at_lookup; refine wpList_lookup_own_unit _ rfl _ _ 61 rfl 9 58 law9 Try.underlying61 (zeroU _) (w.heap.size + 1) k _ rfl (hown.alloc _) _ _ rfl hkey ?_)
            | (go_at_call 21; (with_reducible refine (c1 _).mono ?_); rintro e w2 ⟨rfl, hb3⟩; have hown2 := ((hown.alloc _).alloc _).kept (CD.grown_of hb3) (by simp); have hs2 := hb3.size; simp only [World.size_alloc] at hs2; have g0 := (hb3.cell (p := ⟨wr.heap.size, 0, none⟩) (by simp only [World.size_alloc]; omega)).trans (Lib.cell_of_heap ((Lib.alloc_old _ _ _ (by simp)).trans (heap_alloc_new wr _)) 0); simp only [List.getElem?_toArray, List.getElem?_cons_zero] at g0; have HB3 := Lib.hid hb3; clear hb3)
            | (go_at_call 20; (with_reducible refine (demand_t _ ?_ _).mono ?_); (focus first | rfl | (simp; done) | (simp; omega)); rintro e w3 ⟨rfl, rfl⟩)
            | (at_mapUpdate; refine wpList_mapUpdate_own _ rfl _ _ _ 61 rfl 9 58 law9 Try.underlying61 (unitElem (H := Unit)) (w.heap.size + 1) k _ rfl hown2 (by unfold maxLen; omega) _ _ _ rfl rfl hkey _ [] unitElem_mk ?_; intro w5 hown5 hgrow5))
          have hb2 : Below wr.heap.size wr w2 := ((box0 wr _).alloc (by simp) _).trans (HB3.out.mono (by simp only [World.size_alloc]; omega))
          have s5 := hgrow5.size
          go_roundw
          case rel =>
            exact ⟨k + 1, by omega, by go_num, HC, by rw [HNS.out]; exact hown5, ((HBL.out.trans (hb2.mono HBL.out.size)).grown hgrow5 (by omega) (fun j hj => by cases hj; omega)),
              (hgrow5.block _ (by omega) (by simp)).trans ((hb2.block _ hN).trans HBX.out)⟩
          case measure => simp [intOf]; omega
    · obtain rfl : k = o.ss.length := by omega
      have HQ := hq
      have y3 : wr.cell? ⟨w.heap.size, 3, none⟩ = some (.slice p3 o.rs.length q3) := Lib.cell_of_heap hbx 3
      have HB0 := Lib.hid hbl
      have HX0 := Lib.hid hbx
      clear hq hbl hbx hown
      obtain ⟨wo, rfl⟩ : ∃ wo : World, wo = wr := ⟨_, rfl⟩
      go_wp2_with fail
      go_loopw [69] (fun i wr => ∃ k : Nat, k ≤ o.rs.length ∧ i = .int .i64 k ∧ Hid (relsTo o.ws o.ds.length o.ss.length o.rs k = true) ∧ Below w.heap.size w wr ∧ wr.heap[w.heap.size]? = some (.cells #[.slice p0 o.ws.length q0, .slice p1 o.ds.length q1, .slice p2 o.ss.length q2, .slice p3 o.rs.length q3] TO (0, 0))) (fun i _ => o.rs.length - (intOf i).toNat)
      case atStart => exact ⟨0, Nat.zero_le _, rfl, Lib.hid rfl, HB0.out, HX0.out⟩
      case round =>
        clear y3 HB0 HX0
        obtain ⟨k, hk, rfl, hq, hbl, hbx⟩ := hrel
        by_cases hlt : k < o.rs.length
        · obtain ⟨p, c, hv, hh⟩ := HO.out.rs
          cases hv
          obtain ⟨rb, ro, rfl, hrb, -, -, hrow⟩ := hh (by omega)
          have hr0 := hrow k _ (List.getElem?_eq_getElem hlt)
          have HLT := Lib.hid hlt
          have hN := lt_heap hbx
          have hsz := hbl.size
          have hrw : rb < wr.heap.size := by omega
          obtain ⟨s0, s1, s2, s3, s4⟩ := hr0.below (hbl.mono hn) hrb
          have HBX := Lib.hid hbx
          have HBL := Lib.hid hbl
          have HQ2 := hq
          have hk1 : (0 : Int) ≤ (k : Int) := by omega
          have HR0 := Lib.hid hr0
          by_cases hz0 : k = 0
          · have HA := Lib.hid (show relAt o.ws o.ds.length o.ss.length o.rs k = relOk o.ws o.ds.length o.ss.length o.rs[k] by subst hz0; exact relAt_zero hlt)
            have HS := Lib.hid (show relsTo o.ws o.ds.length o.ss.length o.rs (k + 1) = relAt o.ws o.ds.length o.ss.length o.rs k by rw [relsTo_succ, hq.out]; rfl)
            have hz : ((k : Int) == 0) = true := by simpa using hz0
            clear hrow hh hq hbx hbl hr0 hz0
            generalize o.rs[k] = r at *
            cases hp : relOk o.ws o.ds.length o.ss.length r with
            | true =>
              have HC := Lib.hid (show relsTo o.ws o.ds.length o.ss.length o.rs (k + 1) = true by rw [HS.out, HA.out, hp])
              go_upto_region 14 with (fail)
              have KC := Lib.hid (fun (W' : World) (hb : Below (wr.alloc (.cells #[.int .i64 r.sect, .int .i64 r.place, .int .i64 r.kind, .int .i64 r.sym, .int .i64 r.add] 65)).heap.size (wr.alloc (.cells #[.int .i64 r.sect, .int .i64 r.place, .int .i64 r.kind, .int .i64 r.sym, .int .i64 r.add] 65)) W') =>
                (⟨Lib.cell_of_heap ((hb.block _ (by simp; omega)).trans ((Lib.alloc_old _ _ _ hN).trans HBX.out)) 0, Lib.cell_of_heap ((hb.block _ (by simp; omega)).trans ((Lib.alloc_old _ _ _ hN).trans HBX.out)) 1, Lib.cell_of_heap ((hb.block _ (by simp; omega)).trans ((Lib.alloc_old _ _ _ hN).trans HBX.out)) 2, Lib.cell_of_heap ((hb.block _ (by simp; omega)).trans ((Lib.alloc_old _ _ _ hN).trans HBX.out)) 3,
                 Lib.cell_of_heap ((hb.block _ (by simp)).trans (heap_alloc_new _ _)) 0, Lib.cell_of_heap ((hb.block _ (by simp)).trans (heap_alloc_new _ _)) 1, Lib.cell_of_heap ((hb.block _ (by simp)).trans (heap_alloc_new _ _)) 2, Lib.cell_of_heap ((hb.block _ (by simp)).trans (heap_alloc_new _ _)) 3, Lib.cell_of_heap ((hb.block _ (by simp)).trans (heap_alloc_new _ _)) 4⟩ :
                W'.cell? ⟨w.heap.size, 0, none⟩ = some (.slice p0 o.ws.length q0) ∧ W'.cell? ⟨w.heap.size, 1, none⟩ = some (.slice p1 o.ds.length q1) ∧ W'.cell? ⟨w.heap.size, 2, none⟩ = some (.slice p2 o.ss.length q2) ∧ W'.cell? ⟨w.heap.size, 3, none⟩ = some (.slice (some ⟨rb, ro, none⟩) o.rs.length q3) ∧
                W'.cell? ⟨wr.heap.size, 0, none⟩ = some (.int .i64 r.sect) ∧ W'.cell? ⟨wr.heap.size, 1, none⟩ = some (.int .i64 r.place) ∧ W'.cell? ⟨wr.heap.size, 2, none⟩ = some (.int .i64 r.kind) ∧ W'.cell? ⟨wr.heap.size, 3, none⟩ = some (.int .i64 r.sym) ∧ W'.cell? ⟨wr.heap.size, 4, none⟩ = some (.int .i64 r.add)))
              have KR := Lib.hid (fun (W' : World) (hb : Below (wr.alloc (.cells #[.int .i64 r.sect, .int .i64 r.place, .int .i64 r.kind, .int .i64 r.sym, .int .i64 r.add] 65)).heap.size (wr.alloc (.cells #[.int .i64 r.sect, .int .i64 r.place, .int .i64 r.kind, .int .i64 r.sym, .int .i64 r.add] 65)) W') =>
                relocation_ (n₀ := n₀) (nd := o.ds.length) (ns := o.ss.length) (n3 := o.rs.length) (q1 := q1) (q2 := q2) (q3 := q3) (p1 := p1) (p2 := p2) (p3 := some ⟨rb, ro, none⟩) r W' HW.out.ws (HO.out.below ((HBL.out.trans (((box0 wr _).trans (hb.mono (by simp))).mono HBL.out.size)).mono hn)).ws (Nat.le_trans hn (Nat.le_trans hsz (by have := hb.size; simp only [World.size_alloc] at this; omega))) (by unfold maxLen; omega) (by unfold maxLen; omega))
              rw [hp] at KR
              clear HR0 hrw s0 s1 s2 s3 s4
              refine facts2_ (n := 18) (dst := dst) (F := Fv (fun i => match i with | 0 => some (some (.int .i64 (k : Int))) | 1 => some (some (.bool true)) | 2 => some (some (.bool true)) | 3 => none | 4 => none | 5 => none | 6 => none | 7 => none | 8 => none | 9 => none | 10 => none | 11 => some (some (.bool true)) | 12 => some (some (.bool true)) | 13 => some (some (.agg #[.slice p0 o.ws.length q0, .slice p1 o.ds.length q1, .slice p2 o.ss.length q2, .slice (some ⟨rb, ro, none⟩) o.rs.length q3])) | 14 => some (some (.agg #[.int .i64 r.sect, .int .i64 r.place, .int .i64 r.kind, .int .i64 r.sym, .int .i64 r.add])) | 15 => some (some (.bool true)) | 16 => some (some (.bool true)) | 17 => some (some (.tuple #[])) | _ => none)) (by kernel_rfl) (ahead_of (by kernel_rfl)) rfl dst_inj (fun _ _ _ _ h _ => h) ?step ?done
              case step =>
                intro i op hop a W1 hM hF
                have hi : i < 18 := (Array.getElem?_eq_some_iff.1 hop).1
                match i, hi with
                  | 0, _ =>
                    cases hop
                    refine op_ rfl rfl ?_
                    have t7 : a.tmps[7]?.getD undef = .int .i64 (k : Int) := (Array.getD_eq_getD_getElem?).symm.trans ((hM.oth 7 (by intro i hi; show 74 + i ≠ _; omega)).trans rfl)
                    have HM := Lib.hid hM
                    clear hM hF
                    go_simp
                    exact did_put _ (by rw [HM.out.sz]; exact (by decide : dst 0 < 93)) (Below.refl _ _) (by exact rfl)
                  | 1, _ =>
                    cases hop
                    refine op_ rfl rfl ?_
                    have t74 : a.tmps[74]?.getD undef = .int .i64 (k : Int) := (Array.getD_eq_getD_getElem?).symm.trans (hF ⟨0, .data⟩ (by simp) rfl)
                    have HM := Lib.hid hM
                    clear hM hF
                    go_simp
                    exact did_put _ (by rw [HM.out.sz]; exact (by decide : dst 1 < 93)) (Below.refl _ _) (by exact rfl)
                  | 2, _ =>
                    cases hop
                    refine op_ rfl rfl ?_
                    have t75 : a.tmps[75]?.getD undef = .bool true := (Array.getD_eq_getD_getElem?).symm.trans (hF ⟨1, .data⟩ (by simp) rfl)
                    have HM := Lib.hid hM
                    clear hM hF
                    go_simp
                    exact did_put _ (by rw [HM.out.sz]; exact (by decide : dst 2 < 93)) (Below.refl _ _) (by exact rfl)
                  | 3, _ =>
                    cases hop
                    have tg : a.tmps[76]?.getD undef = .bool true := (Array.getD_eq_getD_getElem?).symm.trans (hF ⟨2, .guard⟩ (by simp) rfl)
                    refine op_n rfl (by simp [Region.wanted, yielded, got tg]) ?_
                    exact did_put _ (by rw [hM.sz]; exact (by decide : dst 3 < 93)) (Below.refl _ _) trivial
                  | 4, _ =>
                    cases hop
                    have tg : a.tmps[76]?.getD undef = .bool true := (Array.getD_eq_getD_getElem?).symm.trans (hF ⟨2, .guard⟩ (by simp) rfl)
                    refine op_n rfl (by simp [Region.wanted, yielded, got tg]) ?_
                    exact did_put _ (by rw [hM.sz]; exact (by decide : dst 4 < 93)) (Below.refl _ _) trivial
                  | 5, _ =>
                    cases hop
                    have tg : a.tmps[76]?.getD undef = .bool true := (Array.getD_eq_getD_getElem?).symm.trans (hF ⟨2, .guard⟩ (by simp) rfl)
                    refine op_n rfl (by simp [Region.wanted, yielded, got tg]) ?_
                    exact did_put _ (by rw [hM.sz]; exact (by decide : dst 5 < 93)) (Below.refl _ _) trivial
                  | 6, _ =>
                    cases hop
                    have tg : a.tmps[76]?.getD undef = .bool true := (Array.getD_eq_getD_getElem?).symm.trans (hF ⟨2, .guard⟩ (by simp) rfl)
                    refine op_n rfl (by simp [Region.wanted, yielded, got tg]) ?_
                    exact did_put _ (by rw [hM.sz]; exact (by decide : dst 6 < 93)) (Below.refl _ _) trivial
                  | 7, _ =>
                    cases hop
                    have tg : a.tmps[76]?.getD undef = .bool true := (Array.getD_eq_getD_getElem?).symm.trans (hF ⟨2, .guard⟩ (by simp) rfl)
                    refine op_n rfl (by simp [Region.wanted, yielded, got tg]) ?_
                    exact did_put _ (by rw [hM.sz]; exact (by decide : dst 7 < 93)) (Below.refl _ _) trivial
                  | 8, _ =>
                    cases hop
                    have tg : a.tmps[76]?.getD undef = .bool true := (Array.getD_eq_getD_getElem?).symm.trans (hF ⟨2, .guard⟩ (by simp) rfl)
                    refine op_n rfl (by simp [Region.wanted, yielded, got tg]) ?_
                    exact did_put _ (by rw [hM.sz]; exact (by decide : dst 8 < 93)) (Below.refl _ _) trivial
                  | 9, _ =>
                    cases hop
                    have tg : a.tmps[76]?.getD undef = .bool true := (Array.getD_eq_getD_getElem?).symm.trans (hF ⟨2, .guard⟩ (by simp) rfl)
                    refine op_n rfl (by simp [Region.wanted, yielded, got tg]) ?_
                    exact did_put _ (by rw [hM.sz]; exact (by decide : dst 9 < 93)) (Below.refl _ _) trivial
                  | 10, _ =>
                    cases hop
                    have tg : a.tmps[76]?.getD undef = .bool true := (Array.getD_eq_getD_getElem?).symm.trans (hF ⟨2, .guard⟩ (by simp) rfl)
                    refine op_n rfl (by simp [Region.wanted, yielded, got tg]) ?_
                    exact did_put _ (by rw [hM.sz]; exact (by decide : dst 10 < 93)) (Below.refl _ _) trivial
                  | 11, _ =>
                    cases hop
                    refine op_ rfl rfl ?_
                    have t76 : a.tmps[76]?.getD undef = .bool true := (Array.getD_eq_getD_getElem?).symm.trans (hF ⟨2, .data⟩ (by simp) rfl)
                    have HM := Lib.hid hM
                    clear hM hF
                    go_simp
                    exact did_put _ (by rw [HM.out.sz]; exact (by decide : dst 11 < 93)) (Below.refl _ _) (by exact rfl)
                  | 12, _ =>
                    cases hop
                    refine op_ rfl rfl ?_
                    have t85 : a.tmps[85]?.getD undef = .bool true := (Array.getD_eq_getD_getElem?).symm.trans (hF ⟨11, .data⟩ (by simp) rfl)
                    have HM := Lib.hid hM
                    clear hM hF
                    go_simp
                    exact did_put _ (by rw [HM.out.sz]; exact (by decide : dst 12 < 93)) (Below.refl _ _) (by exact rfl)
                  | 13, _ =>
                    cases hop
                    have tg : a.tmps[86]?.getD undef = .bool true := (Array.getD_eq_getD_getElem?).symm.trans (hF ⟨12, .guard⟩ (by simp) rfl)
                    refine op_g rfl (by simp [Region.wanted, yielded, got tg]) ?_
                    clear tg
                    have t1 : a.tmps[1]?.getD undef = .pointer (some ⟨w.heap.size, 0, none⟩) := (Array.getD_eq_getD_getElem?).symm.trans ((hM.oth 1 (by intro i hi; show 74 + i ≠ _; omega)).trans rfl)
                    obtain ⟨f0, f1, f2, f3, g0, g1, g2, g3, g4⟩ := KC.out W1 hM.bel
                    have HM := Lib.hid hM
                    clear hM hF
                    go_simp
                    exact did_put _ (by rw [HM.out.sz]; exact (by decide : dst 13 < 93)) (Below.refl _ _) (by exact rfl)
                  | 14, _ =>
                    cases hop
                    have tg : a.tmps[86]?.getD undef = .bool true := (Array.getD_eq_getD_getElem?).symm.trans (hF ⟨12, .guard⟩ (by simp) rfl)
                    refine op_g rfl (by simp [Region.wanted, yielded, got tg]) ?_
                    clear tg
                    have t8 : a.tmps[8]?.getD undef = .pointer (some ⟨wr.heap.size, 0, none⟩) := (Array.getD_eq_getD_getElem?).symm.trans ((hM.oth 8 (by intro i hi; show 74 + i ≠ _; omega)).trans rfl)
                    obtain ⟨f0, f1, f2, f3, g0, g1, g2, g3, g4⟩ := KC.out W1 hM.bel
                    have HM := Lib.hid hM
                    clear hM hF
                    go_simp
                    exact did_put _ (by rw [HM.out.sz]; exact (by decide : dst 14 < 93)) (Below.refl _ _) (by exact rfl)
                  | 15, _ =>
                    cases hop
                    have tg : a.tmps[86]?.getD undef = .bool true := (Array.getD_eq_getD_getElem?).symm.trans (hF ⟨12, .guard⟩ (by simp) rfl)
                    refine op_g rfl (by simp [Region.wanted, yielded, got tg]) ?_
                    clear tg
                    have t87 : a.tmps[87]?.getD undef = .agg #[.slice p0 o.ws.length q0, .slice p1 o.ds.length q1, .slice p2 o.ss.length q2, .slice (some ⟨rb, ro, none⟩) o.rs.length q3] := (Array.getD_eq_getD_getElem?).symm.trans (hF ⟨13, .data⟩ (by simp) rfl)
                    have t88 : a.tmps[88]?.getD undef = .agg #[.int .i64 r.sect, .int .i64 r.place, .int .i64 r.kind, .int .i64 r.sym, .int .i64 r.add] := (Array.getD_eq_getD_getElem?).symm.trans (hF ⟨14, .data⟩ (by simp) rfl)
                    have HM := Lib.hid hM
                    have cc := KR.out W1 hM.bel
                    clear hM hF
                    go_simp
                    (with_reducible refine cc.mono ?_)
                    rintro e W2 ⟨rfl, hb⟩
                    exact did_put _ (by rw [HM.out.sz]; exact (by decide : dst 15 < 93)) hb (by exact rfl)
                  | 16, _ =>
                    cases hop
                    refine op_ rfl rfl ?_
                    have t86 : a.tmps[86]?.getD undef = .bool true := (Array.getD_eq_getD_getElem?).symm.trans (hF ⟨12, .data⟩ (by simp) rfl)
                    have t89 : a.tmps[89]?.getD undef = .bool true := (Array.getD_eq_getD_getElem?).symm.trans (hF ⟨15, .data⟩ (by simp) rfl)
                    have HM := Lib.hid hM
                    clear hM hF
                    go_simp
                    exact did_put _ (by rw [HM.out.sz]; exact (by decide : dst 16 < 93)) (Below.refl _ _) (by exact rfl)
                  | 17, _ =>
                    cases hop
                    refine op_ rfl rfl ?_
                    have t90 : a.tmps[90]?.getD undef = .bool true := (Array.getD_eq_getD_getElem?).symm.trans (hF ⟨16, .data⟩ (by simp) rfl)
                    have HM := Lib.hid hM
                    clear hM hF
                    go_simp
                    (with_reducible refine (demand_yes _).mono ?_)
                    rintro e W2 ⟨rfl, rfl⟩
                    exact did_put _ (by rw [HM.out.sz]; exact (by decide : dst 17 < 93)) (Below.refl _ _) (by exact rfl)
                  | i + 18, h => exact absurd h (by omega)
              case done =>
                intro u W1 hbz hF
                have u0 : u 0 = .int .i64 (k : Int) := hF 0 (by decide)
                have u1 : u 1 = .bool true := hF 1 (by decide)
                have u2 : u 2 = .bool true := hF 2 (by decide)
                have u11 : u 11 = .bool true := hF 11 (by decide)
                have u12 : u 12 = .bool true := hF 12 (by decide)
                have u13 : u 13 = .agg #[.slice p0 o.ws.length q0, .slice p1 o.ds.length q1, .slice p2 o.ss.length q2, .slice (some ⟨rb, ro, none⟩) o.rs.length q3] := hF 13 (by decide)
                have u14 : u 14 = .agg #[.int .i64 r.sect, .int .i64 r.place, .int .i64 r.kind, .int .i64 r.sym, .int .i64 r.add] := hF 14 (by decide)
                have u15 : u 15 = .bool true := hF 15 (by decide)
                have u16 : u 16 = .bool true := hF 16 (by decide)
                have u17 : u 17 = .tuple #[] := hF 17 (by decide)
                simp only [putAll, dst, Nat.reduceAdd, u0, u1, u2, u11, u12, u13, u14, u15, u16, u17]
                clear hF u0 u1 u2 u11 u12 u13 u14 u15 u16 u17
                go_wp2_with fail
                go_roundw
                case rel =>
                  exact ⟨k + 1, by omega, by go_num, HC, HBL.out.trans (((box0 wr _).trans (hbz.mono (by simp))).mono HBL.out.size), (hbz.block _ (by simp; omega)).trans ((Lib.alloc_old _ _ _ hN).trans HBX.out)⟩
                case measure => simp [intOf]; omega
            | false =>
              have HC := Lib.hid (show chk o = false from chk_rel HLT.out (by rw [HA.out, hp]))
              go_upto_region 14 with (fail)
              have KC := Lib.hid (fun (W' : World) (hb : Below (wr.alloc (.cells #[.int .i64 r.sect, .int .i64 r.place, .int .i64 r.kind, .int .i64 r.sym, .int .i64 r.add] 65)).heap.size (wr.alloc (.cells #[.int .i64 r.sect, .int .i64 r.place, .int .i64 r.kind, .int .i64 r.sym, .int .i64 r.add] 65)) W') =>
                (⟨Lib.cell_of_heap ((hb.block _ (by simp; omega)).trans ((Lib.alloc_old _ _ _ hN).trans HBX.out)) 0, Lib.cell_of_heap ((hb.block _ (by simp; omega)).trans ((Lib.alloc_old _ _ _ hN).trans HBX.out)) 1, Lib.cell_of_heap ((hb.block _ (by simp; omega)).trans ((Lib.alloc_old _ _ _ hN).trans HBX.out)) 2, Lib.cell_of_heap ((hb.block _ (by simp; omega)).trans ((Lib.alloc_old _ _ _ hN).trans HBX.out)) 3,
                 Lib.cell_of_heap ((hb.block _ (by simp)).trans (heap_alloc_new _ _)) 0, Lib.cell_of_heap ((hb.block _ (by simp)).trans (heap_alloc_new _ _)) 1, Lib.cell_of_heap ((hb.block _ (by simp)).trans (heap_alloc_new _ _)) 2, Lib.cell_of_heap ((hb.block _ (by simp)).trans (heap_alloc_new _ _)) 3, Lib.cell_of_heap ((hb.block _ (by simp)).trans (heap_alloc_new _ _)) 4⟩ :
                W'.cell? ⟨w.heap.size, 0, none⟩ = some (.slice p0 o.ws.length q0) ∧ W'.cell? ⟨w.heap.size, 1, none⟩ = some (.slice p1 o.ds.length q1) ∧ W'.cell? ⟨w.heap.size, 2, none⟩ = some (.slice p2 o.ss.length q2) ∧ W'.cell? ⟨w.heap.size, 3, none⟩ = some (.slice (some ⟨rb, ro, none⟩) o.rs.length q3) ∧
                W'.cell? ⟨wr.heap.size, 0, none⟩ = some (.int .i64 r.sect) ∧ W'.cell? ⟨wr.heap.size, 1, none⟩ = some (.int .i64 r.place) ∧ W'.cell? ⟨wr.heap.size, 2, none⟩ = some (.int .i64 r.kind) ∧ W'.cell? ⟨wr.heap.size, 3, none⟩ = some (.int .i64 r.sym) ∧ W'.cell? ⟨wr.heap.size, 4, none⟩ = some (.int .i64 r.add)))
              have KR := Lib.hid (fun (W' : World) (hb : Below (wr.alloc (.cells #[.int .i64 r.sect, .int .i64 r.place, .int .i64 r.kind, .int .i64 r.sym, .int .i64 r.add] 65)).heap.size (wr.alloc (.cells #[.int .i64 r.sect, .int .i64 r.place, .int .i64 r.kind, .int .i64 r.sym, .int .i64 r.add] 65)) W') =>
                relocation_ (n₀ := n₀) (nd := o.ds.length) (ns := o.ss.length) (n3 := o.rs.length) (q1 := q1) (q2 := q2) (q3 := q3) (p1 := p1) (p2 := p2) (p3 := some ⟨rb, ro, none⟩) r W' HW.out.ws (HO.out.below ((HBL.out.trans (((box0 wr _).trans (hb.mono (by simp))).mono HBL.out.size)).mono hn)).ws (Nat.le_trans hn (Nat.le_trans hsz (by have := hb.size; simp only [World.size_alloc] at this; omega))) (by unfold maxLen; omega) (by unfold maxLen; omega))
              rw [hp] at KR
              clear HR0 hrw s0 s1 s2 s3 s4
              refine facts2_ (n := 18) (dst := dst) (F := Fv (fun i => match i with | 0 => some (some (.int .i64 (k : Int))) | 1 => some (some (.bool true)) | 2 => some (some (.bool true)) | 3 => none | 4 => none | 5 => none | 6 => none | 7 => none | 8 => none | 9 => none | 10 => none | 11 => some (some (.bool true)) | 12 => some (some (.bool true)) | 13 => some (some (.agg #[.slice p0 o.ws.length q0, .slice p1 o.ds.length q1, .slice p2 o.ss.length q2, .slice (some ⟨rb, ro, none⟩) o.rs.length q3])) | 14 => some (some (.agg #[.int .i64 r.sect, .int .i64 r.place, .int .i64 r.kind, .int .i64 r.sym, .int .i64 r.add])) | 15 => some (some (.bool false)) | 16 => some (some (.bool false)) | 17 => some (none) | _ => none)) (by kernel_rfl) (ahead_of (by kernel_rfl)) rfl dst_inj (fun _ _ _ _ h _ => h) ?step ?done
              case step =>
                intro i op hop a W1 hM hF
                have hi : i < 18 := (Array.getElem?_eq_some_iff.1 hop).1
                match i, hi with
                  | 0, _ =>
                    cases hop
                    refine op_ rfl rfl ?_
                    have t7 : a.tmps[7]?.getD undef = .int .i64 (k : Int) := (Array.getD_eq_getD_getElem?).symm.trans ((hM.oth 7 (by intro i hi; show 74 + i ≠ _; omega)).trans rfl)
                    have HM := Lib.hid hM
                    clear hM hF
                    go_simp
                    exact did_put _ (by rw [HM.out.sz]; exact (by decide : dst 0 < 93)) (Below.refl _ _) (by exact rfl)
                  | 1, _ =>
                    cases hop
                    refine op_ rfl rfl ?_
                    have t74 : a.tmps[74]?.getD undef = .int .i64 (k : Int) := (Array.getD_eq_getD_getElem?).symm.trans (hF ⟨0, .data⟩ (by simp) rfl)
                    have HM := Lib.hid hM
                    clear hM hF
                    go_simp
                    exact did_put _ (by rw [HM.out.sz]; exact (by decide : dst 1 < 93)) (Below.refl _ _) (by exact rfl)
                  | 2, _ =>
                    cases hop
                    refine op_ rfl rfl ?_
                    have t75 : a.tmps[75]?.getD undef = .bool true := (Array.getD_eq_getD_getElem?).symm.trans (hF ⟨1, .data⟩ (by simp) rfl)
                    have HM := Lib.hid hM
                    clear hM hF
                    go_simp
                    exact did_put _ (by rw [HM.out.sz]; exact (by decide : dst 2 < 93)) (Below.refl _ _) (by exact rfl)
                  | 3, _ =>
                    cases hop
                    have tg : a.tmps[76]?.getD undef = .bool true := (Array.getD_eq_getD_getElem?).symm.trans (hF ⟨2, .guard⟩ (by simp) rfl)
                    refine op_n rfl (by simp [Region.wanted, yielded, got tg]) ?_
                    exact did_put _ (by rw [hM.sz]; exact (by decide : dst 3 < 93)) (Below.refl _ _) trivial
                  | 4, _ =>
                    cases hop
                    have tg : a.tmps[76]?.getD undef = .bool true := (Array.getD_eq_getD_getElem?).symm.trans (hF ⟨2, .guard⟩ (by simp) rfl)
                    refine op_n rfl (by simp [Region.wanted, yielded, got tg]) ?_
                    exact did_put _ (by rw [hM.sz]; exact (by decide : dst 4 < 93)) (Below.refl _ _) trivial
                  | 5, _ =>
                    cases hop
                    have tg : a.tmps[76]?.getD undef = .bool true := (Array.getD_eq_getD_getElem?).symm.trans (hF ⟨2, .guard⟩ (by simp) rfl)
                    refine op_n rfl (by simp [Region.wanted, yielded, got tg]) ?_
                    exact did_put _ (by rw [hM.sz]; exact (by decide : dst 5 < 93)) (Below.refl _ _) trivial
                  | 6, _ =>
                    cases hop
                    have tg : a.tmps[76]?.getD undef = .bool true := (Array.getD_eq_getD_getElem?).symm.trans (hF ⟨2, .guard⟩ (by simp) rfl)
                    refine op_n rfl (by simp [Region.wanted, yielded, got tg]) ?_
                    exact did_put _ (by rw [hM.sz]; exact (by decide : dst 6 < 93)) (Below.refl _ _) trivial
                  | 7, _ =>
                    cases hop
                    have tg : a.tmps[76]?.getD undef = .bool true := (Array.getD_eq_getD_getElem?).symm.trans (hF ⟨2, .guard⟩ (by simp) rfl)
                    refine op_n rfl (by simp [Region.wanted, yielded, got tg]) ?_
                    exact did_put _ (by rw [hM.sz]; exact (by decide : dst 7 < 93)) (Below.refl _ _) trivial
                  | 8, _ =>
                    cases hop
                    have tg : a.tmps[76]?.getD undef = .bool true := (Array.getD_eq_getD_getElem?).symm.trans (hF ⟨2, .guard⟩ (by simp) rfl)
                    refine op_n rfl (by simp [Region.wanted, yielded, got tg]) ?_
                    exact did_put _ (by rw [hM.sz]; exact (by decide : dst 8 < 93)) (Below.refl _ _) trivial
                  | 9, _ =>
                    cases hop
                    have tg : a.tmps[76]?.getD undef = .bool true := (Array.getD_eq_getD_getElem?).symm.trans (hF ⟨2, .guard⟩ (by simp) rfl)
                    refine op_n rfl (by simp [Region.wanted, yielded, got tg]) ?_
                    exact did_put _ (by rw [hM.sz]; exact (by decide : dst 9 < 93)) (Below.refl _ _) trivial
                  | 10, _ =>
                    cases hop
                    have tg : a.tmps[76]?.getD undef = .bool true := (Array.getD_eq_getD_getElem?).symm.trans (hF ⟨2, .guard⟩ (by simp) rfl)
                    refine op_n rfl (by simp [Region.wanted, yielded, got tg]) ?_
                    exact did_put _ (by rw [hM.sz]; exact (by decide : dst 10 < 93)) (Below.refl _ _) trivial
                  | 11, _ =>
                    cases hop
                    refine op_ rfl rfl ?_
                    have t76 : a.tmps[76]?.getD undef = .bool true := (Array.getD_eq_getD_getElem?).symm.trans (hF ⟨2, .data⟩ (by simp) rfl)
                    have HM := Lib.hid hM
                    clear hM hF
                    go_simp
                    exact did_put _ (by rw [HM.out.sz]; exact (by decide : dst 11 < 93)) (Below.refl _ _) (by exact rfl)
                  | 12, _ =>
                    cases hop
                    refine op_ rfl rfl ?_
                    have t85 : a.tmps[85]?.getD undef = .bool true := (Array.getD_eq_getD_getElem?).symm.trans (hF ⟨11, .data⟩ (by simp) rfl)
                    have HM := Lib.hid hM
                    clear hM hF
                    go_simp
                    exact did_put _ (by rw [HM.out.sz]; exact (by decide : dst 12 < 93)) (Below.refl _ _) (by exact rfl)
                  | 13, _ =>
                    cases hop
                    have tg : a.tmps[86]?.getD undef = .bool true := (Array.getD_eq_getD_getElem?).symm.trans (hF ⟨12, .guard⟩ (by simp) rfl)
                    refine op_g rfl (by simp [Region.wanted, yielded, got tg]) ?_
                    clear tg
                    have t1 : a.tmps[1]?.getD undef = .pointer (some ⟨w.heap.size, 0, none⟩) := (Array.getD_eq_getD_getElem?).symm.trans ((hM.oth 1 (by intro i hi; show 74 + i ≠ _; omega)).trans rfl)
                    obtain ⟨f0, f1, f2, f3, g0, g1, g2, g3, g4⟩ := KC.out W1 hM.bel
                    have HM := Lib.hid hM
                    clear hM hF
                    go_simp
                    exact did_put _ (by rw [HM.out.sz]; exact (by decide : dst 13 < 93)) (Below.refl _ _) (by exact rfl)
                  | 14, _ =>
                    cases hop
                    have tg : a.tmps[86]?.getD undef = .bool true := (Array.getD_eq_getD_getElem?).symm.trans (hF ⟨12, .guard⟩ (by simp) rfl)
                    refine op_g rfl (by simp [Region.wanted, yielded, got tg]) ?_
                    clear tg
                    have t8 : a.tmps[8]?.getD undef = .pointer (some ⟨wr.heap.size, 0, none⟩) := (Array.getD_eq_getD_getElem?).symm.trans ((hM.oth 8 (by intro i hi; show 74 + i ≠ _; omega)).trans rfl)
                    obtain ⟨f0, f1, f2, f3, g0, g1, g2, g3, g4⟩ := KC.out W1 hM.bel
                    have HM := Lib.hid hM
                    clear hM hF
                    go_simp
                    exact did_put _ (by rw [HM.out.sz]; exact (by decide : dst 14 < 93)) (Below.refl _ _) (by exact rfl)
                  | 15, _ =>
                    cases hop
                    have tg : a.tmps[86]?.getD undef = .bool true := (Array.getD_eq_getD_getElem?).symm.trans (hF ⟨12, .guard⟩ (by simp) rfl)
                    refine op_g rfl (by simp [Region.wanted, yielded, got tg]) ?_
                    clear tg
                    have t87 : a.tmps[87]?.getD undef = .agg #[.slice p0 o.ws.length q0, .slice p1 o.ds.length q1, .slice p2 o.ss.length q2, .slice (some ⟨rb, ro, none⟩) o.rs.length q3] := (Array.getD_eq_getD_getElem?).symm.trans (hF ⟨13, .data⟩ (by simp) rfl)
                    have t88 : a.tmps[88]?.getD undef = .agg #[.int .i64 r.sect, .int .i64 r.place, .int .i64 r.kind, .int .i64 r.sym, .int .i64 r.add] := (Array.getD_eq_getD_getElem?).symm.trans (hF ⟨14, .data⟩ (by simp) rfl)
                    have HM := Lib.hid hM
                    have cc := KR.out W1 hM.bel
                    clear hM hF
                    go_simp
                    (with_reducible refine cc.mono ?_)
                    rintro e W2 ⟨rfl, hb⟩
                    exact did_put _ (by rw [HM.out.sz]; exact (by decide : dst 15 < 93)) hb (by exact rfl)
                  | 16, _ =>
                    cases hop
                    refine op_ rfl rfl ?_
                    have t86 : a.tmps[86]?.getD undef = .bool true := (Array.getD_eq_getD_getElem?).symm.trans (hF ⟨12, .data⟩ (by simp) rfl)
                    have t89 : a.tmps[89]?.getD undef = .bool false := (Array.getD_eq_getD_getElem?).symm.trans (hF ⟨15, .data⟩ (by simp) rfl)
                    have HM := Lib.hid hM
                    clear hM hF
                    go_simp
                    exact did_put _ (by rw [HM.out.sz]; exact (by decide : dst 16 < 93)) (Below.refl _ _) (by exact rfl)
                  | 17, _ =>
                    cases hop
                    refine op_ rfl rfl ?_
                    have t90 : a.tmps[90]?.getD undef = .bool false := (Array.getD_eq_getD_getElem?).symm.trans (hF ⟨16, .data⟩ (by simp) rfl)
                    have HM := Lib.hid hM
                    clear hM hF
                    go_simp
                    (with_reducible refine (demand_no _).mono ?_)
                    rintro e W2 ⟨rfl, rfl⟩
                    exact ⟨HM.out.d, (⟨by rw [HC.out]; rfl, HBL.out.trans (((box0 wr _).trans (HM.out.bel.mono (by simp))).mono HBL.out.size)⟩ : CkEnd (chk o) w thrown _)⟩
                  | i + 18, h => exact absurd h (by omega)
              case done =>
                intro u W1 hbz hF
                exact (hF 17 (by decide)).elim
          · obtain ⟨j, hj⟩ : ∃ j : Nat, k = j + 1 := ⟨k - 1, by omega⟩
            have hjl : j < o.rs.length := by omega
            have hq0 := hrow j _ (List.getElem?_eq_getElem hjl)
            obtain ⟨e0, e1, e2, e3, e4⟩ := hq0.below (hbl.mono hn) hrb
            have HA := Lib.hid (show relAt o.ws o.ds.length o.ss.length o.rs k = (riseB o.rs[j] o.rs[k] && relOk o.ws o.ds.length o.ss.length o.rs[k]) by subst hj; exact relAt_succ hlt)
            have HS := Lib.hid (show relsTo o.ws o.ds.length o.ss.length o.rs (k + 1) = relAt o.ws o.ds.length o.ss.length o.rs k by rw [relsTo_succ, hq.out]; rfl)
            have HWR := Lib.hid (show IntKind.i64.wrap ((k : Int) - 1) = (j : Int) by rw [IntWalk.i64_in _ (by omega)]; omega)
            have hz : ((k : Int) == 0) = false := by simpa using hz0
            have hj0 : (0 : Int) ≤ (j : Int) := by omega
            have HJ := Lib.hid hj
            clear hrow hh hq hbx hbl hr0 hz0 hq0 hj
            generalize o.rs[k] = r at *
            generalize o.rs[j] = t at *
            have cr := fun w' => rise_ t r w'
            cases hr : riseB t r with
            | true =>
              rw [hr] at cr HA
              cases hp : relOk o.ws o.ds.length o.ss.length r with
              | true =>
                have HC := Lib.hid (show relsTo o.ws o.ds.length o.ss.length o.rs (k + 1) = true by rw [HS.out, HA.out, hp]; rfl)
                clear hr
                go_upto_region 14 with (fail)
                have KC := Lib.hid (fun (W' : World) (hb : Below (wr.alloc (.cells #[.int .i64 r.sect, .int .i64 r.place, .int .i64 r.kind, .int .i64 r.sym, .int .i64 r.add] 65)).heap.size (wr.alloc (.cells #[.int .i64 r.sect, .int .i64 r.place, .int .i64 r.kind, .int .i64 r.sym, .int .i64 r.add] 65)) W') =>
                  (⟨Lib.cell_of_heap ((hb.block _ (by simp; omega)).trans ((Lib.alloc_old _ _ _ hN).trans HBX.out)) 0, Lib.cell_of_heap ((hb.block _ (by simp; omega)).trans ((Lib.alloc_old _ _ _ hN).trans HBX.out)) 1, Lib.cell_of_heap ((hb.block _ (by simp; omega)).trans ((Lib.alloc_old _ _ _ hN).trans HBX.out)) 2, Lib.cell_of_heap ((hb.block _ (by simp; omega)).trans ((Lib.alloc_old _ _ _ hN).trans HBX.out)) 3,
                   Lib.cell_of_heap ((hb.block _ (by simp)).trans (heap_alloc_new _ _)) 0, Lib.cell_of_heap ((hb.block _ (by simp)).trans (heap_alloc_new _ _)) 1, Lib.cell_of_heap ((hb.block _ (by simp)).trans (heap_alloc_new _ _)) 2, Lib.cell_of_heap ((hb.block _ (by simp)).trans (heap_alloc_new _ _)) 3, Lib.cell_of_heap ((hb.block _ (by simp)).trans (heap_alloc_new _ _)) 4,
                   (hb.cell (p := ⟨rb, ro + j * 5, none⟩) (by simp; omega)).trans ((World.cell?_alloc_lt _ _ _ hrw).trans e0), (hb.cell (p := ⟨rb, ro + j * 5 + 1, none⟩) (by simp; omega)).trans ((World.cell?_alloc_lt _ _ _ hrw).trans e1), (hb.cell (p := ⟨rb, ro + j * 5 + 2, none⟩) (by simp; omega)).trans ((World.cell?_alloc_lt _ _ _ hrw).trans e2), (hb.cell (p := ⟨rb, ro + j * 5 + 3, none⟩) (by simp; omega)).trans ((World.cell?_alloc_lt _ _ _ hrw).trans e3), (hb.cell (p := ⟨rb, ro + j * 5 + 4, none⟩) (by simp; omega)).trans ((World.cell?_alloc_lt _ _ _ hrw).trans e4)⟩ :
                  W'.cell? ⟨w.heap.size, 0, none⟩ = some (.slice p0 o.ws.length q0) ∧ W'.cell? ⟨w.heap.size, 1, none⟩ = some (.slice p1 o.ds.length q1) ∧ W'.cell? ⟨w.heap.size, 2, none⟩ = some (.slice p2 o.ss.length q2) ∧ W'.cell? ⟨w.heap.size, 3, none⟩ = some (.slice (some ⟨rb, ro, none⟩) o.rs.length q3) ∧
                  W'.cell? ⟨wr.heap.size, 0, none⟩ = some (.int .i64 r.sect) ∧ W'.cell? ⟨wr.heap.size, 1, none⟩ = some (.int .i64 r.place) ∧ W'.cell? ⟨wr.heap.size, 2, none⟩ = some (.int .i64 r.kind) ∧ W'.cell? ⟨wr.heap.size, 3, none⟩ = some (.int .i64 r.sym) ∧ W'.cell? ⟨wr.heap.size, 4, none⟩ = some (.int .i64 r.add) ∧
                  W'.cell? ⟨rb, ro + j * 5, none⟩ = some (.int .i64 t.sect) ∧ W'.cell? ⟨rb, ro + j * 5 + 1, none⟩ = some (.int .i64 t.place) ∧ W'.cell? ⟨rb, ro + j * 5 + 2, none⟩ = some (.int .i64 t.kind) ∧ W'.cell? ⟨rb, ro + j * 5 + 3, none⟩ = some (.int .i64 t.sym) ∧ W'.cell? ⟨rb, ro + j * 5 + 4, none⟩ = some (.int .i64 t.add)))
                have KR := Lib.hid (fun (W' : World) (hb : Below (wr.alloc (.cells #[.int .i64 r.sect, .int .i64 r.place, .int .i64 r.kind, .int .i64 r.sym, .int .i64 r.add] 65)).heap.size (wr.alloc (.cells #[.int .i64 r.sect, .int .i64 r.place, .int .i64 r.kind, .int .i64 r.sym, .int .i64 r.add] 65)) W') =>
                  relocation_ (n₀ := n₀) (nd := o.ds.length) (ns := o.ss.length) (n3 := o.rs.length) (q1 := q1) (q2 := q2) (q3 := q3) (p1 := p1) (p2 := p2) (p3 := some ⟨rb, ro, none⟩) r W' HW.out.ws (HO.out.below ((HBL.out.trans (((box0 wr _).trans (hb.mono (by simp))).mono HBL.out.size)).mono hn)).ws (Nat.le_trans hn (Nat.le_trans hsz (by have := hb.size; simp only [World.size_alloc] at this; omega))) (by unfold maxLen; omega) (by unfold maxLen; omega))
                rw [hp] at KR
                clear HR0 hrw s0 s1 s2 s3 s4
                refine facts2_ (n := 18) (dst := dst) (F := Fv (fun i => match i with | 0 => some (some (.int .i64 (k : Int))) | 1 => some (some (.bool false)) | 2 => some (some (.bool false)) | 3 => some (some (.pointer (some ⟨w.heap.size, 3, none⟩))) | 4 => some (some (.slice (some ⟨rb, ro, none⟩) o.rs.length q3)) | 5 => some (some (.int .i64 (k : Int))) | 6 => some (some (.int .i64 (j : Int))) | 7 => some (some (.pointer (some ⟨rb, ro + j * 5, none⟩))) | 8 => some (some (.agg #[.int .i64 t.sect, .int .i64 t.place, .int .i64 t.kind, .int .i64 t.sym, .int .i64 t.add])) | 9 => some (some (.agg #[.int .i64 r.sect, .int .i64 r.place, .int .i64 r.kind, .int .i64 r.sym, .int .i64 r.add])) | 10 => some (some (.bool true)) | 11 => some (some (.bool true)) | 12 => some (some (.bool true)) | 13 => some (some (.agg #[.slice p0 o.ws.length q0, .slice p1 o.ds.length q1, .slice p2 o.ss.length q2, .slice (some ⟨rb, ro, none⟩) o.rs.length q3])) | 14 => some (some (.agg #[.int .i64 r.sect, .int .i64 r.place, .int .i64 r.kind, .int .i64 r.sym, .int .i64 r.add])) | 15 => some (some (.bool true)) | 16 => some (some (.bool true)) | 17 => some (some (.tuple #[])) | _ => none)) (by kernel_rfl) (ahead_of (by kernel_rfl)) rfl dst_inj (fun _ _ _ _ h _ => h) ?step ?done
                case step =>
                  intro i op hop a W1 hM hF
                  have hi : i < 18 := (Array.getElem?_eq_some_iff.1 hop).1
                  match i, hi with
                    | 0, _ =>
                      cases hop
                      refine op_ rfl rfl ?_
                      have t7 : a.tmps[7]?.getD undef = .int .i64 (k : Int) := (Array.getD_eq_getD_getElem?).symm.trans ((hM.oth 7 (by intro i hi; show 74 + i ≠ _; omega)).trans rfl)
                      have HM := Lib.hid hM
                      clear hM hF
                      go_simp
                      exact did_put _ (by rw [HM.out.sz]; exact (by decide : dst 0 < 93)) (Below.refl _ _) (by exact rfl)
                    | 1, _ =>
                      cases hop
                      refine op_ rfl rfl ?_
                      have t74 : a.tmps[74]?.getD undef = .int .i64 (k : Int) := (Array.getD_eq_getD_getElem?).symm.trans (hF ⟨0, .data⟩ (by simp) rfl)
                      have HM := Lib.hid hM
                      clear hM hF
                      go_simp
                      exact did_put _ (by rw [HM.out.sz]; exact (by decide : dst 1 < 93)) (Below.refl _ _) (by exact rfl)
                    | 2, _ =>
                      cases hop
                      refine op_ rfl rfl ?_
                      have t75 : a.tmps[75]?.getD undef = .bool false := (Array.getD_eq_getD_getElem?).symm.trans (hF ⟨1, .data⟩ (by simp) rfl)
                      have HM := Lib.hid hM
                      clear hM hF
                      go_simp
                      exact did_put _ (by rw [HM.out.sz]; exact (by decide : dst 2 < 93)) (Below.refl _ _) (by exact rfl)
                    | 3, _ =>
                      cases hop
                      have tg : a.tmps[76]?.getD undef = .bool false := (Array.getD_eq_getD_getElem?).symm.trans (hF ⟨2, .guard⟩ (by simp) rfl)
                      refine op_g rfl (by simp [Region.wanted, yielded, got tg]) ?_
                      clear tg
                      have t1 : a.tmps[1]?.getD undef = .pointer (some ⟨w.heap.size, 0, none⟩) := (Array.getD_eq_getD_getElem?).symm.trans ((hM.oth 1 (by intro i hi; show 74 + i ≠ _; omega)).trans rfl)
                      have HM := Lib.hid hM
                      clear hM hF
                      go_simp
                      exact did_put _ (by rw [HM.out.sz]; exact (by decide : dst 3 < 93)) (Below.refl _ _) (by exact rfl)
                    | 4, _ =>
                      cases hop
                      have tg : a.tmps[76]?.getD undef = .bool false := (Array.getD_eq_getD_getElem?).symm.trans (hF ⟨2, .guard⟩ (by simp) rfl)
                      refine op_g rfl (by simp [Region.wanted, yielded, got tg]) ?_
                      clear tg
                      have t77 : a.tmps[77]?.getD undef = .pointer (some ⟨w.heap.size, 3, none⟩) := (Array.getD_eq_getD_getElem?).symm.trans (hF ⟨3, .data⟩ (by simp) rfl)
                      obtain ⟨f0, f1, f2, f3, g0, g1, g2, g3, g4, e0, e1, e2, e3, e4⟩ := KC.out W1 hM.bel
                      have HM := Lib.hid hM
                      clear hM hF
                      go_simp
                      exact did_put _ (by rw [HM.out.sz]; exact (by decide : dst 4 < 93)) (Below.refl _ _) (by exact rfl)
                    | 5, _ =>
                      cases hop
                      have tg : a.tmps[76]?.getD undef = .bool false := (Array.getD_eq_getD_getElem?).symm.trans (hF ⟨2, .guard⟩ (by simp) rfl)
                      refine op_g rfl (by simp [Region.wanted, yielded, got tg]) ?_
                      clear tg
                      have t7 : a.tmps[7]?.getD undef = .int .i64 (k : Int) := (Array.getD_eq_getD_getElem?).symm.trans ((hM.oth 7 (by intro i hi; show 74 + i ≠ _; omega)).trans rfl)
                      have HM := Lib.hid hM
                      clear hM hF
                      go_simp
                      exact did_put _ (by rw [HM.out.sz]; exact (by decide : dst 5 < 93)) (Below.refl _ _) (by exact rfl)
                    | 6, _ =>
                      cases hop
                      have tg : a.tmps[76]?.getD undef = .bool false := (Array.getD_eq_getD_getElem?).symm.trans (hF ⟨2, .guard⟩ (by simp) rfl)
                      refine op_g rfl (by simp [Region.wanted, yielded, got tg]) ?_
                      clear tg
                      have t79 : a.tmps[79]?.getD undef = .int .i64 (k : Int) := (Array.getD_eq_getD_getElem?).symm.trans (hF ⟨5, .data⟩ (by simp) rfl)
                      have HM := Lib.hid hM
                      clear hM hF
                      go_simp
                      exact did_put _ (by rw [HM.out.sz]; exact (by decide : dst 6 < 93)) (Below.refl _ _) (by show Value.int IntKind.i64 (IntKind.i64.wrap ((k : Int) - 1)) = .int .i64 (j : Int); rw [HWR.out])
                    | 7, _ =>
                      cases hop
                      have tg : a.tmps[76]?.getD undef = .bool false := (Array.getD_eq_getD_getElem?).symm.trans (hF ⟨2, .guard⟩ (by simp) rfl)
                      refine op_g rfl (by simp [Region.wanted, yielded, got tg]) ?_
                      clear tg
                      have t78 : a.tmps[78]?.getD undef = .slice (some ⟨rb, ro, none⟩) o.rs.length q3 := (Array.getD_eq_getD_getElem?).symm.trans (hF ⟨4, .data⟩ (by simp) rfl)
                      have t80 : a.tmps[80]?.getD undef = .int .i64 (j : Int) := (Array.getD_eq_getD_getElem?).symm.trans (hF ⟨6, .data⟩ (by simp) rfl)
                      have HM := Lib.hid hM
                      clear hM hF
                      go_simp
                      exact did_put _ (by rw [HM.out.sz]; exact (by decide : dst 7 < 93)) (Below.refl _ _) (by exact rfl)
                    | 8, _ =>
                      cases hop
                      have tg : a.tmps[76]?.getD undef = .bool false := (Array.getD_eq_getD_getElem?).symm.trans (hF ⟨2, .guard⟩ (by simp) rfl)
                      refine op_g rfl (by simp [Region.wanted, yielded, got tg]) ?_
                      clear tg
                      have t81 : a.tmps[81]?.getD undef = .pointer (some ⟨rb, ro + j * 5, none⟩) := (Array.getD_eq_getD_getElem?).symm.trans (hF ⟨7, .data⟩ (by simp) rfl)
                      obtain ⟨f0, f1, f2, f3, g0, g1, g2, g3, g4, e0, e1, e2, e3, e4⟩ := KC.out W1 hM.bel
                      have HM := Lib.hid hM
                      clear hM hF
                      go_simp
                      exact did_put _ (by rw [HM.out.sz]; exact (by decide : dst 8 < 93)) (Below.refl _ _) (by exact rfl)
                    | 9, _ =>
                      cases hop
                      have tg : a.tmps[76]?.getD undef = .bool false := (Array.getD_eq_getD_getElem?).symm.trans (hF ⟨2, .guard⟩ (by simp) rfl)
                      refine op_g rfl (by simp [Region.wanted, yielded, got tg]) ?_
                      clear tg
                      have t8 : a.tmps[8]?.getD undef = .pointer (some ⟨wr.heap.size, 0, none⟩) := (Array.getD_eq_getD_getElem?).symm.trans ((hM.oth 8 (by intro i hi; show 74 + i ≠ _; omega)).trans rfl)
                      obtain ⟨f0, f1, f2, f3, g0, g1, g2, g3, g4, e0, e1, e2, e3, e4⟩ := KC.out W1 hM.bel
                      have HM := Lib.hid hM
                      clear hM hF
                      go_simp
                      exact did_put _ (by rw [HM.out.sz]; exact (by decide : dst 9 < 93)) (Below.refl _ _) (by exact rfl)
                    | 10, _ =>
                      cases hop
                      have tg : a.tmps[76]?.getD undef = .bool false := (Array.getD_eq_getD_getElem?).symm.trans (hF ⟨2, .guard⟩ (by simp) rfl)
                      refine op_g rfl (by simp [Region.wanted, yielded, got tg]) ?_
                      clear tg
                      have t82 : a.tmps[82]?.getD undef = .agg #[.int .i64 t.sect, .int .i64 t.place, .int .i64 t.kind, .int .i64 t.sym, .int .i64 t.add] := (Array.getD_eq_getD_getElem?).symm.trans (hF ⟨8, .data⟩ (by simp) rfl)
                      have t83 : a.tmps[83]?.getD undef = .agg #[.int .i64 r.sect, .int .i64 r.place, .int .i64 r.kind, .int .i64 r.sym, .int .i64 r.add] := (Array.getD_eq_getD_getElem?).symm.trans (hF ⟨9, .data⟩ (by simp) rfl)
                      have HM := Lib.hid hM
                      clear hM hF
                      go_simp
                      (with_reducible refine (cr _).mono ?_)
                      rintro e W2 ⟨rfl, hb⟩
                      exact did_put _ (by rw [HM.out.sz]; exact (by decide : dst 10 < 93)) hb (by exact rfl)
                    | 11, _ =>
                      cases hop
                      refine op_ rfl rfl ?_
                      have t76 : a.tmps[76]?.getD undef = .bool false := (Array.getD_eq_getD_getElem?).symm.trans (hF ⟨2, .data⟩ (by simp) rfl)
                      have t84 : a.tmps[84]?.getD undef = .bool true := (Array.getD_eq_getD_getElem?).symm.trans (hF ⟨10, .data⟩ (by simp) rfl)
                      have HM := Lib.hid hM
                      clear hM hF
                      go_simp
                      exact did_put _ (by rw [HM.out.sz]; exact (by decide : dst 11 < 93)) (Below.refl _ _) (by exact rfl)
                    | 12, _ =>
                      cases hop
                      refine op_ rfl rfl ?_
                      have t85 : a.tmps[85]?.getD undef = .bool true := (Array.getD_eq_getD_getElem?).symm.trans (hF ⟨11, .data⟩ (by simp) rfl)
                      have HM := Lib.hid hM
                      clear hM hF
                      go_simp
                      exact did_put _ (by rw [HM.out.sz]; exact (by decide : dst 12 < 93)) (Below.refl _ _) (by exact rfl)
                    | 13, _ =>
                      cases hop
                      have tg : a.tmps[86]?.getD undef = .bool true := (Array.getD_eq_getD_getElem?).symm.trans (hF ⟨12, .guard⟩ (by simp) rfl)
                      refine op_g rfl (by simp [Region.wanted, yielded, got tg]) ?_
                      clear tg
                      have t1 : a.tmps[1]?.getD undef = .pointer (some ⟨w.heap.size, 0, none⟩) := (Array.getD_eq_getD_getElem?).symm.trans ((hM.oth 1 (by intro i hi; show 74 + i ≠ _; omega)).trans rfl)
                      obtain ⟨f0, f1, f2, f3, g0, g1, g2, g3, g4, e0, e1, e2, e3, e4⟩ := KC.out W1 hM.bel
                      have HM := Lib.hid hM
                      clear hM hF
                      go_simp
                      exact did_put _ (by rw [HM.out.sz]; exact (by decide : dst 13 < 93)) (Below.refl _ _) (by exact rfl)
                    | 14, _ =>
                      cases hop
                      have tg : a.tmps[86]?.getD undef = .bool true := (Array.getD_eq_getD_getElem?).symm.trans (hF ⟨12, .guard⟩ (by simp) rfl)
                      refine op_g rfl (by simp [Region.wanted, yielded, got tg]) ?_
                      clear tg
                      have t8 : a.tmps[8]?.getD undef = .pointer (some ⟨wr.heap.size, 0, none⟩) := (Array.getD_eq_getD_getElem?).symm.trans ((hM.oth 8 (by intro i hi; show 74 + i ≠ _; omega)).trans rfl)
                      obtain ⟨f0, f1, f2, f3, g0, g1, g2, g3, g4, e0, e1, e2, e3, e4⟩ := KC.out W1 hM.bel
                      have HM := Lib.hid hM
                      clear hM hF
                      go_simp
                      exact did_put _ (by rw [HM.out.sz]; exact (by decide : dst 14 < 93)) (Below.refl _ _) (by exact rfl)
                    | 15, _ =>
                      cases hop
                      have tg : a.tmps[86]?.getD undef = .bool true := (Array.getD_eq_getD_getElem?).symm.trans (hF ⟨12, .guard⟩ (by simp) rfl)
                      refine op_g rfl (by simp [Region.wanted, yielded, got tg]) ?_
                      clear tg
                      have t87 : a.tmps[87]?.getD undef = .agg #[.slice p0 o.ws.length q0, .slice p1 o.ds.length q1, .slice p2 o.ss.length q2, .slice (some ⟨rb, ro, none⟩) o.rs.length q3] := (Array.getD_eq_getD_getElem?).symm.trans (hF ⟨13, .data⟩ (by simp) rfl)
                      have t88 : a.tmps[88]?.getD undef = .agg #[.int .i64 r.sect, .int .i64 r.place, .int .i64 r.kind, .int .i64 r.sym, .int .i64 r.add] := (Array.getD_eq_getD_getElem?).symm.trans (hF ⟨14, .data⟩ (by simp) rfl)
                      have HM := Lib.hid hM
                      have cc := KR.out W1 hM.bel
                      clear hM hF
                      go_simp
                      (with_reducible refine cc.mono ?_)
                      rintro e W2 ⟨rfl, hb⟩
                      exact did_put _ (by rw [HM.out.sz]; exact (by decide : dst 15 < 93)) hb (by exact rfl)
                    | 16, _ =>
                      cases hop
                      refine op_ rfl rfl ?_
                      have t86 : a.tmps[86]?.getD undef = .bool true := (Array.getD_eq_getD_getElem?).symm.trans (hF ⟨12, .data⟩ (by simp) rfl)
                      have t89 : a.tmps[89]?.getD undef = .bool true := (Array.getD_eq_getD_getElem?).symm.trans (hF ⟨15, .data⟩ (by simp) rfl)
                      have HM := Lib.hid hM
                      clear hM hF
                      go_simp
                      exact did_put _ (by rw [HM.out.sz]; exact (by decide : dst 16 < 93)) (Below.refl _ _) (by exact rfl)
                    | 17, _ =>
                      cases hop
                      refine op_ rfl rfl ?_
                      have t90 : a.tmps[90]?.getD undef = .bool true := (Array.getD_eq_getD_getElem?).symm.trans (hF ⟨16, .data⟩ (by simp) rfl)
                      have HM := Lib.hid hM
                      clear hM hF
                      go_simp
                      (with_reducible refine (demand_yes _).mono ?_)
                      rintro e W2 ⟨rfl, rfl⟩
                      exact did_put _ (by rw [HM.out.sz]; exact (by decide : dst 17 < 93)) (Below.refl _ _) (by exact rfl)
                    | i + 18, h => exact absurd h (by omega)
                case done =>
                  intro u W1 hbz hF
                  have u0 : u 0 = .int .i64 (k : Int) := hF 0 (by decide)
                  have u1 : u 1 = .bool false := hF 1 (by decide)
                  have u2 : u 2 = .bool false := hF 2 (by decide)
                  have u3 : u 3 = .pointer (some ⟨w.heap.size, 3, none⟩) := hF 3 (by decide)
                  have u4 : u 4 = .slice (some ⟨rb, ro, none⟩) o.rs.length q3 := hF 4 (by decide)
                  have u5 : u 5 = .int .i64 (k : Int) := hF 5 (by decide)
                  have u6 : u 6 = .int .i64 (j : Int) := hF 6 (by decide)
                  have u7 : u 7 = .pointer (some ⟨rb, ro + j * 5, none⟩) := hF 7 (by decide)
                  have u8 : u 8 = .agg #[.int .i64 t.sect, .int .i64 t.place, .int .i64 t.kind, .int .i64 t.sym, .int .i64 t.add] := hF 8 (by decide)
                  have u9 : u 9 = .agg #[.int .i64 r.sect, .int .i64 r.place, .int .i64 r.kind, .int .i64 r.sym, .int .i64 r.add] := hF 9 (by decide)
                  have u10 : u 10 = .bool true := hF 10 (by decide)
                  have u11 : u 11 = .bool true := hF 11 (by decide)
                  have u12 : u 12 = .bool true := hF 12 (by decide)
                  have u13 : u 13 = .agg #[.slice p0 o.ws.length q0, .slice p1 o.ds.length q1, .slice p2 o.ss.length q2, .slice (some ⟨rb, ro, none⟩) o.rs.length q3] := hF 13 (by decide)
                  have u14 : u 14 = .agg #[.int .i64 r.sect, .int .i64 r.place, .int .i64 r.kind, .int .i64 r.sym, .int .i64 r.add] := hF 14 (by decide)
                  have u15 : u 15 = .bool true := hF 15 (by decide)
                  have u16 : u 16 = .bool true := hF 16 (by decide)
                  have u17 : u 17 = .tuple #[] := hF 17 (by decide)
                  simp only [putAll, dst, Nat.reduceAdd, u0, u1, u2, u3, u4, u5, u6, u7, u8, u9, u10, u11, u12, u13, u14, u15, u16, u17]
                  clear hF u0 u1 u2 u3 u4 u5 u6 u7 u8 u9 u10 u11 u12 u13 u14 u15 u16 u17
                  go_wp2_with fail
                  go_roundw
                  case rel =>
                    exact ⟨k + 1, by omega, by go_num, HC, HBL.out.trans (((box0 wr _).trans (hbz.mono (by simp))).mono HBL.out.size), (hbz.block _ (by simp; omega)).trans ((Lib.alloc_old _ _ _ hN).trans HBX.out)⟩
                  case measure => simp [intOf]; omega
              | false =>
                have HC := Lib.hid (show chk o = false from chk_rel HLT.out (by rw [HA.out, hp]; rfl))
                clear hr
                go_upto_region 14 with (fail)
                have KC := Lib.hid (fun (W' : World) (hb : Below (wr.alloc (.cells #[.int .i64 r.sect, .int .i64 r.place, .int .i64 r.kind, .int .i64 r.sym, .int .i64 r.add] 65)).heap.size (wr.alloc (.cells #[.int .i64 r.sect, .int .i64 r.place, .int .i64 r.kind, .int .i64 r.sym, .int .i64 r.add] 65)) W') =>
                  (⟨Lib.cell_of_heap ((hb.block _ (by simp; omega)).trans ((Lib.alloc_old _ _ _ hN).trans HBX.out)) 0, Lib.cell_of_heap ((hb.block _ (by simp; omega)).trans ((Lib.alloc_old _ _ _ hN).trans HBX.out)) 1, Lib.cell_of_heap ((hb.block _ (by simp; omega)).trans ((Lib.alloc_old _ _ _ hN).trans HBX.out)) 2, Lib.cell_of_heap ((hb.block _ (by simp; omega)).trans ((Lib.alloc_old _ _ _ hN).trans HBX.out)) 3,
                   Lib.cell_of_heap ((hb.block _ (by simp)).trans (heap_alloc_new _ _)) 0, Lib.cell_of_heap ((hb.block _ (by simp)).trans (heap_alloc_new _ _)) 1, Lib.cell_of_heap ((hb.block _ (by simp)).trans (heap_alloc_new _ _)) 2, Lib.cell_of_heap ((hb.block _ (by simp)).trans (heap_alloc_new _ _)) 3, Lib.cell_of_heap ((hb.block _ (by simp)).trans (heap_alloc_new _ _)) 4,
                   (hb.cell (p := ⟨rb, ro + j * 5, none⟩) (by simp; omega)).trans ((World.cell?_alloc_lt _ _ _ hrw).trans e0), (hb.cell (p := ⟨rb, ro + j * 5 + 1, none⟩) (by simp; omega)).trans ((World.cell?_alloc_lt _ _ _ hrw).trans e1), (hb.cell (p := ⟨rb, ro + j * 5 + 2, none⟩) (by simp; omega)).trans ((World.cell?_alloc_lt _ _ _ hrw).trans e2), (hb.cell (p := ⟨rb, ro + j * 5 + 3, none⟩) (by simp; omega)).trans ((World.cell?_alloc_lt _ _ _ hrw).trans e3), (hb.cell (p := ⟨rb, ro + j * 5 + 4, none⟩) (by simp; omega)).trans ((World.cell?_alloc_lt _ _ _ hrw).trans e4)⟩ :
                  W'.cell? ⟨w.heap.size, 0, none⟩ = some (.slice p0 o.ws.length q0) ∧ W'.cell? ⟨w.heap.size, 1, none⟩ = some (.slice p1 o.ds.length q1) ∧ W'.cell? ⟨w.heap.size, 2, none⟩ = some (.slice p2 o.ss.length q2) ∧ W'.cell? ⟨w.heap.size, 3, none⟩ = some (.slice (some ⟨rb, ro, none⟩) o.rs.length q3) ∧
                  W'.cell? ⟨wr.heap.size, 0, none⟩ = some (.int .i64 r.sect) ∧ W'.cell? ⟨wr.heap.size, 1, none⟩ = some (.int .i64 r.place) ∧ W'.cell? ⟨wr.heap.size, 2, none⟩ = some (.int .i64 r.kind) ∧ W'.cell? ⟨wr.heap.size, 3, none⟩ = some (.int .i64 r.sym) ∧ W'.cell? ⟨wr.heap.size, 4, none⟩ = some (.int .i64 r.add) ∧
                  W'.cell? ⟨rb, ro + j * 5, none⟩ = some (.int .i64 t.sect) ∧ W'.cell? ⟨rb, ro + j * 5 + 1, none⟩ = some (.int .i64 t.place) ∧ W'.cell? ⟨rb, ro + j * 5 + 2, none⟩ = some (.int .i64 t.kind) ∧ W'.cell? ⟨rb, ro + j * 5 + 3, none⟩ = some (.int .i64 t.sym) ∧ W'.cell? ⟨rb, ro + j * 5 + 4, none⟩ = some (.int .i64 t.add)))
                have KR := Lib.hid (fun (W' : World) (hb : Below (wr.alloc (.cells #[.int .i64 r.sect, .int .i64 r.place, .int .i64 r.kind, .int .i64 r.sym, .int .i64 r.add] 65)).heap.size (wr.alloc (.cells #[.int .i64 r.sect, .int .i64 r.place, .int .i64 r.kind, .int .i64 r.sym, .int .i64 r.add] 65)) W') =>
                  relocation_ (n₀ := n₀) (nd := o.ds.length) (ns := o.ss.length) (n3 := o.rs.length) (q1 := q1) (q2 := q2) (q3 := q3) (p1 := p1) (p2 := p2) (p3 := some ⟨rb, ro, none⟩) r W' HW.out.ws (HO.out.below ((HBL.out.trans (((box0 wr _).trans (hb.mono (by simp))).mono HBL.out.size)).mono hn)).ws (Nat.le_trans hn (Nat.le_trans hsz (by have := hb.size; simp only [World.size_alloc] at this; omega))) (by unfold maxLen; omega) (by unfold maxLen; omega))
                rw [hp] at KR
                clear HR0 hrw s0 s1 s2 s3 s4
                refine facts2_ (n := 18) (dst := dst) (F := Fv (fun i => match i with | 0 => some (some (.int .i64 (k : Int))) | 1 => some (some (.bool false)) | 2 => some (some (.bool false)) | 3 => some (some (.pointer (some ⟨w.heap.size, 3, none⟩))) | 4 => some (some (.slice (some ⟨rb, ro, none⟩) o.rs.length q3)) | 5 => some (some (.int .i64 (k : Int))) | 6 => some (some (.int .i64 (j : Int))) | 7 => some (some (.pointer (some ⟨rb, ro + j * 5, none⟩))) | 8 => some (some (.agg #[.int .i64 t.sect, .int .i64 t.place, .int .i64 t.kind, .int .i64 t.sym, .int .i64 t.add])) | 9 => some (some (.agg #[.int .i64 r.sect, .int .i64 r.place, .int .i64 r.kind, .int .i64 r.sym, .int .i64 r.add])) | 10 => some (some (.bool true)) | 11 => some (some (.bool true)) | 12 => some (some (.bool true)) | 13 => some (some (.agg #[.slice p0 o.ws.length q0, .slice p1 o.ds.length q1, .slice p2 o.ss.length q2, .slice (some ⟨rb, ro, none⟩) o.rs.length q3])) | 14 => some (some (.agg #[.int .i64 r.sect, .int .i64 r.place, .int .i64 r.kind, .int .i64 r.sym, .int .i64 r.add])) | 15 => some (some (.bool false)) | 16 => some (some (.bool false)) | 17 => some (none) | _ => none)) (by kernel_rfl) (ahead_of (by kernel_rfl)) rfl dst_inj (fun _ _ _ _ h _ => h) ?step ?done
                case step =>
                  intro i op hop a W1 hM hF
                  have hi : i < 18 := (Array.getElem?_eq_some_iff.1 hop).1
                  match i, hi with
                    | 0, _ =>
                      cases hop
                      refine op_ rfl rfl ?_
                      have t7 : a.tmps[7]?.getD undef = .int .i64 (k : Int) := (Array.getD_eq_getD_getElem?).symm.trans ((hM.oth 7 (by intro i hi; show 74 + i ≠ _; omega)).trans rfl)
                      have HM := Lib.hid hM
                      clear hM hF
                      go_simp
                      exact did_put _ (by rw [HM.out.sz]; exact (by decide : dst 0 < 93)) (Below.refl _ _) (by exact rfl)
                    | 1, _ =>
                      cases hop
                      refine op_ rfl rfl ?_
                      have t74 : a.tmps[74]?.getD undef = .int .i64 (k : Int) := (Array.getD_eq_getD_getElem?).symm.trans (hF ⟨0, .data⟩ (by simp) rfl)
                      have HM := Lib.hid hM
                      clear hM hF
                      go_simp
                      exact did_put _ (by rw [HM.out.sz]; exact (by decide : dst 1 < 93)) (Below.refl _ _) (by exact rfl)
                    | 2, _ =>
                      cases hop
                      refine op_ rfl rfl ?_
                      have t75 : a.tmps[75]?.getD undef = .bool false := (Array.getD_eq_getD_getElem?).symm.trans (hF ⟨1, .data⟩ (by simp) rfl)
                      have HM := Lib.hid hM
                      clear hM hF
                      go_simp
                      exact did_put _ (by rw [HM.out.sz]; exact (by decide : dst 2 < 93)) (Below.refl _ _) (by exact rfl)
                    | 3, _ =>
                      cases hop
                      have tg : a.tmps[76]?.getD undef = .bool false := (Array.getD_eq_getD_getElem?).symm.trans (hF ⟨2, .guard⟩ (by simp) rfl)
                      refine op_g rfl (by simp [Region.wanted, yielded, got tg]) ?_
                      clear tg
                      have t1 : a.tmps[1]?.getD undef = .pointer (some ⟨w.heap.size, 0, none⟩) := (Array.getD_eq_getD_getElem?).symm.trans ((hM.oth 1 (by intro i hi; show 74 + i ≠ _; omega)).trans rfl)
                      have HM := Lib.hid hM
                      clear hM hF
                      go_simp
                      exact did_put _ (by rw [HM.out.sz]; exact (by decide : dst 3 < 93)) (Below.refl _ _) (by exact rfl)
                    | 4, _ =>
                      cases hop
                      have tg : a.tmps[76]?.getD undef = .bool false := (Array.getD_eq_getD_getElem?).symm.trans (hF ⟨2, .guard⟩ (by simp) rfl)
                      refine op_g rfl (by simp [Region.wanted, yielded, got tg]) ?_
                      clear tg
                      have t77 : a.tmps[77]?.getD undef = .pointer (some ⟨w.heap.size, 3, none⟩) := (Array.getD_eq_getD_getElem?).symm.trans (hF ⟨3, .data⟩ (by simp) rfl)
                      obtain ⟨f0, f1, f2, f3, g0, g1, g2, g3, g4, e0, e1, e2, e3, e4⟩ := KC.out W1 hM.bel
                      have HM := Lib.hid hM
                      clear hM hF
                      go_simp
                      exact did_put _ (by rw [HM.out.sz]; exact (by decide : dst 4 < 93)) (Below.refl _ _) (by exact rfl)
                    | 5, _ =>
                      cases hop
                      have tg : a.tmps[76]?.getD undef = .bool false := (Array.getD_eq_getD_getElem?).symm.trans (hF ⟨2, .guard⟩ (by simp) rfl)
                      refine op_g rfl (by simp [Region.wanted, yielded, got tg]) ?_
                      clear tg
                      have t7 : a.tmps[7]?.getD undef = .int .i64 (k : Int) := (Array.getD_eq_getD_getElem?).symm.trans ((hM.oth 7 (by intro i hi; show 74 + i ≠ _; omega)).trans rfl)
                      have HM := Lib.hid hM
                      clear hM hF
                      go_simp
                      exact did_put _ (by rw [HM.out.sz]; exact (by decide : dst 5 < 93)) (Below.refl _ _) (by exact rfl)
                    | 6, _ =>
                      cases hop
                      have tg : a.tmps[76]?.getD undef = .bool false := (Array.getD_eq_getD_getElem?).symm.trans (hF ⟨2, .guard⟩ (by simp) rfl)
                      refine op_g rfl (by simp [Region.wanted, yielded, got tg]) ?_
                      clear tg
                      have t79 : a.tmps[79]?.getD undef = .int .i64 (k : Int) := (Array.getD_eq_getD_getElem?).symm.trans (hF ⟨5, .data⟩ (by simp) rfl)
                      have HM := Lib.hid hM
                      clear hM hF
                      go_simp
                      exact did_put _ (by rw [HM.out.sz]; exact (by decide : dst 6 < 93)) (Below.refl _ _) (by show Value.int IntKind.i64 (IntKind.i64.wrap ((k : Int) - 1)) = .int .i64 (j : Int); rw [HWR.out])
                    | 7, _ =>
                      cases hop
                      have tg : a.tmps[76]?.getD undef = .bool false := (Array.getD_eq_getD_getElem?).symm.trans (hF ⟨2, .guard⟩ (by simp) rfl)
                      refine op_g rfl (by simp [Region.wanted, yielded, got tg]) ?_
                      clear tg
                      have t78 : a.tmps[78]?.getD undef = .slice (some ⟨rb, ro, none⟩) o.rs.length q3 := (Array.getD_eq_getD_getElem?).symm.trans (hF ⟨4, .data⟩ (by simp) rfl)
                      have t80 : a.tmps[80]?.getD undef = .int .i64 (j : Int) := (Array.getD_eq_getD_getElem?).symm.trans (hF ⟨6, .data⟩ (by simp) rfl)
                      have HM := Lib.hid hM
                      clear hM hF
                      go_simp
                      exact did_put _ (by rw [HM.out.sz]; exact (by decide : dst 7 < 93)) (Below.refl _ _) (by exact rfl)
                    | 8, _ =>
                      cases hop
                      have tg : a.tmps[76]?.getD undef = .bool false := (Array.getD_eq_getD_getElem?).symm.trans (hF ⟨2, .guard⟩ (by simp) rfl)
                      refine op_g rfl (by simp [Region.wanted, yielded, got tg]) ?_
                      clear tg
                      have t81 : a.tmps[81]?.getD undef = .pointer (some ⟨rb, ro + j * 5, none⟩) := (Array.getD_eq_getD_getElem?).symm.trans (hF ⟨7, .data⟩ (by simp) rfl)
                      obtain ⟨f0, f1, f2, f3, g0, g1, g2, g3, g4, e0, e1, e2, e3, e4⟩ := KC.out W1 hM.bel
                      have HM := Lib.hid hM
                      clear hM hF
                      go_simp
                      exact did_put _ (by rw [HM.out.sz]; exact (by decide : dst 8 < 93)) (Below.refl _ _) (by exact rfl)
                    | 9, _ =>
                      cases hop
                      have tg : a.tmps[76]?.getD undef = .bool false := (Array.getD_eq_getD_getElem?).symm.trans (hF ⟨2, .guard⟩ (by simp) rfl)
                      refine op_g rfl (by simp [Region.wanted, yielded, got tg]) ?_
                      clear tg
                      have t8 : a.tmps[8]?.getD undef = .pointer (some ⟨wr.heap.size, 0, none⟩) := (Array.getD_eq_getD_getElem?).symm.trans ((hM.oth 8 (by intro i hi; show 74 + i ≠ _; omega)).trans rfl)
                      obtain ⟨f0, f1, f2, f3, g0, g1, g2, g3, g4, e0, e1, e2, e3, e4⟩ := KC.out W1 hM.bel
                      have HM := Lib.hid hM
                      clear hM hF
                      go_simp
                      exact did_put _ (by rw [HM.out.sz]; exact (by decide : dst 9 < 93)) (Below.refl _ _) (by exact rfl)
                    | 10, _ =>
                      cases hop
                      have tg : a.tmps[76]?.getD undef = .bool false := (Array.getD_eq_getD_getElem?).symm.trans (hF ⟨2, .guard⟩ (by simp) rfl)
                      refine op_g rfl (by simp [Region.wanted, yielded, got tg]) ?_
                      clear tg
                      have t82 : a.tmps[82]?.getD undef = .agg #[.int .i64 t.sect, .int .i64 t.place, .int .i64 t.kind, .int .i64 t.sym, .int .i64 t.add] := (Array.getD_eq_getD_getElem?).symm.trans (hF ⟨8, .data⟩ (by simp) rfl)
                      have t83 : a.tmps[83]?.getD undef = .agg #[.int .i64 r.sect, .int .i64 r.place, .int .i64 r.kind, .int .i64 r.sym, .int .i64 r.add] := (Array.getD_eq_getD_getElem?).symm.trans (hF ⟨9, .data⟩ (by simp) rfl)
                      have HM := Lib.hid hM
                      clear hM hF
                      go_simp
                      (with_reducible refine (cr _).mono ?_)
                      rintro e W2 ⟨rfl, hb⟩
                      exact did_put _ (by rw [HM.out.sz]; exact (by decide : dst 10 < 93)) hb (by exact rfl)
                    | 11, _ =>
                      cases hop
                      refine op_ rfl rfl ?_
                      have t76 : a.tmps[76]?.getD undef = .bool false := (Array.getD_eq_getD_getElem?).symm.trans (hF ⟨2, .data⟩ (by simp) rfl)
                      have t84 : a.tmps[84]?.getD undef = .bool true := (Array.getD_eq_getD_getElem?).symm.trans (hF ⟨10, .data⟩ (by simp) rfl)
                      have HM := Lib.hid hM
                      clear hM hF
                      go_simp
                      exact did_put _ (by rw [HM.out.sz]; exact (by decide : dst 11 < 93)) (Below.refl _ _) (by exact rfl)
                    | 12, _ =>
                      cases hop
                      refine op_ rfl rfl ?_
                      have t85 : a.tmps[85]?.getD undef = .bool true := (Array.getD_eq_getD_getElem?).symm.trans (hF ⟨11, .data⟩ (by simp) rfl)
                      have HM := Lib.hid hM
                      clear hM hF
                      go_simp
                      exact did_put _ (by rw [HM.out.sz]; exact (by decide : dst 12 < 93)) (Below.refl _ _) (by exact rfl)
                    | 13, _ =>
                      cases hop
                      have tg : a.tmps[86]?.getD undef = .bool true := (Array.getD_eq_getD_getElem?).symm.trans (hF ⟨12, .guard⟩ (by simp) rfl)
                      refine op_g rfl (by simp [Region.wanted, yielded, got tg]) ?_
                      clear tg
                      have t1 : a.tmps[1]?.getD undef = .pointer (some ⟨w.heap.size, 0, none⟩) := (Array.getD_eq_getD_getElem?).symm.trans ((hM.oth 1 (by intro i hi; show 74 + i ≠ _; omega)).trans rfl)
                      obtain ⟨f0, f1, f2, f3, g0, g1, g2, g3, g4, e0, e1, e2, e3, e4⟩ := KC.out W1 hM.bel
                      have HM := Lib.hid hM
                      clear hM hF
                      go_simp
                      exact did_put _ (by rw [HM.out.sz]; exact (by decide : dst 13 < 93)) (Below.refl _ _) (by exact rfl)
                    | 14, _ =>
                      cases hop
                      have tg : a.tmps[86]?.getD undef = .bool true := (Array.getD_eq_getD_getElem?).symm.trans (hF ⟨12, .guard⟩ (by simp) rfl)
                      refine op_g rfl (by simp [Region.wanted, yielded, got tg]) ?_
                      clear tg
                      have t8 : a.tmps[8]?.getD undef = .pointer (some ⟨wr.heap.size, 0, none⟩) := (Array.getD_eq_getD_getElem?).symm.trans ((hM.oth 8 (by intro i hi; show 74 + i ≠ _; omega)).trans rfl)
                      obtain ⟨f0, f1, f2, f3, g0, g1, g2, g3, g4, e0, e1, e2, e3, e4⟩ := KC.out W1 hM.bel
                      have HM := Lib.hid hM
                      clear hM hF
                      go_simp
                      exact did_put _ (by rw [HM.out.sz]; exact (by decide : dst 14 < 93)) (Below.refl _ _) (by exact rfl)
                    | 15, _ =>
                      cases hop
                      have tg : a.tmps[86]?.getD undef = .bool true := (Array.getD_eq_getD_getElem?).symm.trans (hF ⟨12, .guard⟩ (by simp) rfl)
                      refine op_g rfl (by simp [Region.wanted, yielded, got tg]) ?_
                      clear tg
                      have t87 : a.tmps[87]?.getD undef = .agg #[.slice p0 o.ws.length q0, .slice p1 o.ds.length q1, .slice p2 o.ss.length q2, .slice (some ⟨rb, ro, none⟩) o.rs.length q3] := (Array.getD_eq_getD_getElem?).symm.trans (hF ⟨13, .data⟩ (by simp) rfl)
                      have t88 : a.tmps[88]?.getD undef = .agg #[.int .i64 r.sect, .int .i64 r.place, .int .i64 r.kind, .int .i64 r.sym, .int .i64 r.add] := (Array.getD_eq_getD_getElem?).symm.trans (hF ⟨14, .data⟩ (by simp) rfl)
                      have HM := Lib.hid hM
                      have cc := KR.out W1 hM.bel
                      clear hM hF
                      go_simp
                      (with_reducible refine cc.mono ?_)
                      rintro e W2 ⟨rfl, hb⟩
                      exact did_put _ (by rw [HM.out.sz]; exact (by decide : dst 15 < 93)) hb (by exact rfl)
                    | 16, _ =>
                      cases hop
                      refine op_ rfl rfl ?_
                      have t86 : a.tmps[86]?.getD undef = .bool true := (Array.getD_eq_getD_getElem?).symm.trans (hF ⟨12, .data⟩ (by simp) rfl)
                      have t89 : a.tmps[89]?.getD undef = .bool false := (Array.getD_eq_getD_getElem?).symm.trans (hF ⟨15, .data⟩ (by simp) rfl)
                      have HM := Lib.hid hM
                      clear hM hF
                      go_simp
                      exact did_put _ (by rw [HM.out.sz]; exact (by decide : dst 16 < 93)) (Below.refl _ _) (by exact rfl)
                    | 17, _ =>
                      cases hop
                      refine op_ rfl rfl ?_
                      have t90 : a.tmps[90]?.getD undef = .bool false := (Array.getD_eq_getD_getElem?).symm.trans (hF ⟨16, .data⟩ (by simp) rfl)
                      have HM := Lib.hid hM
                      clear hM hF
                      go_simp
                      (with_reducible refine (demand_no _).mono ?_)
                      rintro e W2 ⟨rfl, rfl⟩
                      exact ⟨HM.out.d, (⟨by rw [HC.out]; rfl, HBL.out.trans (((box0 wr _).trans (HM.out.bel.mono (by simp))).mono HBL.out.size)⟩ : CkEnd (chk o) w thrown _)⟩
                    | i + 18, h => exact absurd h (by omega)
                case done =>
                  intro u W1 hbz hF
                  exact (hF 17 (by decide)).elim
            | false =>
              rw [hr] at cr HA
              have hp : relOk o.ws o.ds.length o.ss.length r = relOk o.ws o.ds.length o.ss.length r := rfl
              have HC := Lib.hid (show chk o = false from chk_rel HLT.out (by rw [HA.out]; rfl))
              clear hr
              go_upto_region 14 with (fail)
              have KC := Lib.hid (fun (W' : World) (hb : Below (wr.alloc (.cells #[.int .i64 r.sect, .int .i64 r.place, .int .i64 r.kind, .int .i64 r.sym, .int .i64 r.add] 65)).heap.size (wr.alloc (.cells #[.int .i64 r.sect, .int .i64 r.place, .int .i64 r.kind, .int .i64 r.sym, .int .i64 r.add] 65)) W') =>
                (⟨Lib.cell_of_heap ((hb.block _ (by simp; omega)).trans ((Lib.alloc_old _ _ _ hN).trans HBX.out)) 0, Lib.cell_of_heap ((hb.block _ (by simp; omega)).trans ((Lib.alloc_old _ _ _ hN).trans HBX.out)) 1, Lib.cell_of_heap ((hb.block _ (by simp; omega)).trans ((Lib.alloc_old _ _ _ hN).trans HBX.out)) 2, Lib.cell_of_heap ((hb.block _ (by simp; omega)).trans ((Lib.alloc_old _ _ _ hN).trans HBX.out)) 3,
                 Lib.cell_of_heap ((hb.block _ (by simp)).trans (heap_alloc_new _ _)) 0, Lib.cell_of_heap ((hb.block _ (by simp)).trans (heap_alloc_new _ _)) 1, Lib.cell_of_heap ((hb.block _ (by simp)).trans (heap_alloc_new _ _)) 2, Lib.cell_of_heap ((hb.block _ (by simp)).trans (heap_alloc_new _ _)) 3, Lib.cell_of_heap ((hb.block _ (by simp)).trans (heap_alloc_new _ _)) 4,
                 (hb.cell (p := ⟨rb, ro + j * 5, none⟩) (by simp; omega)).trans ((World.cell?_alloc_lt _ _ _ hrw).trans e0), (hb.cell (p := ⟨rb, ro + j * 5 + 1, none⟩) (by simp; omega)).trans ((World.cell?_alloc_lt _ _ _ hrw).trans e1), (hb.cell (p := ⟨rb, ro + j * 5 + 2, none⟩) (by simp; omega)).trans ((World.cell?_alloc_lt _ _ _ hrw).trans e2), (hb.cell (p := ⟨rb, ro + j * 5 + 3, none⟩) (by simp; omega)).trans ((World.cell?_alloc_lt _ _ _ hrw).trans e3), (hb.cell (p := ⟨rb, ro + j * 5 + 4, none⟩) (by simp; omega)).trans ((World.cell?_alloc_lt _ _ _ hrw).trans e4)⟩ :
                W'.cell? ⟨w.heap.size, 0, none⟩ = some (.slice p0 o.ws.length q0) ∧ W'.cell? ⟨w.heap.size, 1, none⟩ = some (.slice p1 o.ds.length q1) ∧ W'.cell? ⟨w.heap.size, 2, none⟩ = some (.slice p2 o.ss.length q2) ∧ W'.cell? ⟨w.heap.size, 3, none⟩ = some (.slice (some ⟨rb, ro, none⟩) o.rs.length q3) ∧
                W'.cell? ⟨wr.heap.size, 0, none⟩ = some (.int .i64 r.sect) ∧ W'.cell? ⟨wr.heap.size, 1, none⟩ = some (.int .i64 r.place) ∧ W'.cell? ⟨wr.heap.size, 2, none⟩ = some (.int .i64 r.kind) ∧ W'.cell? ⟨wr.heap.size, 3, none⟩ = some (.int .i64 r.sym) ∧ W'.cell? ⟨wr.heap.size, 4, none⟩ = some (.int .i64 r.add) ∧
                W'.cell? ⟨rb, ro + j * 5, none⟩ = some (.int .i64 t.sect) ∧ W'.cell? ⟨rb, ro + j * 5 + 1, none⟩ = some (.int .i64 t.place) ∧ W'.cell? ⟨rb, ro + j * 5 + 2, none⟩ = some (.int .i64 t.kind) ∧ W'.cell? ⟨rb, ro + j * 5 + 3, none⟩ = some (.int .i64 t.sym) ∧ W'.cell? ⟨rb, ro + j * 5 + 4, none⟩ = some (.int .i64 t.add)))
              have KR := Lib.hid (fun (W' : World) (hb : Below (wr.alloc (.cells #[.int .i64 r.sect, .int .i64 r.place, .int .i64 r.kind, .int .i64 r.sym, .int .i64 r.add] 65)).heap.size (wr.alloc (.cells #[.int .i64 r.sect, .int .i64 r.place, .int .i64 r.kind, .int .i64 r.sym, .int .i64 r.add] 65)) W') =>
                relocation_ (n₀ := n₀) (nd := o.ds.length) (ns := o.ss.length) (n3 := o.rs.length) (q1 := q1) (q2 := q2) (q3 := q3) (p1 := p1) (p2 := p2) (p3 := some ⟨rb, ro, none⟩) r W' HW.out.ws (HO.out.below ((HBL.out.trans (((box0 wr _).trans (hb.mono (by simp))).mono HBL.out.size)).mono hn)).ws (Nat.le_trans hn (Nat.le_trans hsz (by have := hb.size; simp only [World.size_alloc] at this; omega))) (by unfold maxLen; omega) (by unfold maxLen; omega))
              clear HR0 hrw s0 s1 s2 s3 s4
              refine facts2_ (n := 18) (dst := dst) (F := Fv (fun i => match i with | 0 => some (some (.int .i64 (k : Int))) | 1 => some (some (.bool false)) | 2 => some (some (.bool false)) | 3 => some (some (.pointer (some ⟨w.heap.size, 3, none⟩))) | 4 => some (some (.slice (some ⟨rb, ro, none⟩) o.rs.length q3)) | 5 => some (some (.int .i64 (k : Int))) | 6 => some (some (.int .i64 (j : Int))) | 7 => some (some (.pointer (some ⟨rb, ro + j * 5, none⟩))) | 8 => some (some (.agg #[.int .i64 t.sect, .int .i64 t.place, .int .i64 t.kind, .int .i64 t.sym, .int .i64 t.add])) | 9 => some (some (.agg #[.int .i64 r.sect, .int .i64 r.place, .int .i64 r.kind, .int .i64 r.sym, .int .i64 r.add])) | 10 => some (some (.bool false)) | 11 => some (some (.bool false)) | 12 => some (some (.bool false)) | 13 => none | 14 => none | 15 => none | 16 => some (some (.bool false)) | 17 => some (none) | _ => none)) (by kernel_rfl) (ahead_of (by kernel_rfl)) rfl dst_inj (fun _ _ _ _ h _ => h) ?step ?done
              case step =>
                intro i op hop a W1 hM hF
                have hi : i < 18 := (Array.getElem?_eq_some_iff.1 hop).1
                match i, hi with
                  | 0, _ =>
                    cases hop
                    refine op_ rfl rfl ?_
                    have t7 : a.tmps[7]?.getD undef = .int .i64 (k : Int) := (Array.getD_eq_getD_getElem?).symm.trans ((hM.oth 7 (by intro i hi; show 74 + i ≠ _; omega)).trans rfl)
                    have HM := Lib.hid hM
                    clear hM hF
                    go_simp
                    exact did_put _ (by rw [HM.out.sz]; exact (by decide : dst 0 < 93)) (Below.refl _ _) (by exact rfl)
                  | 1, _ =>
                    cases hop
                    refine op_ rfl rfl ?_
                    have t74 : a.tmps[74]?.getD undef = .int .i64 (k : Int) := (Array.getD_eq_getD_getElem?).symm.trans (hF ⟨0, .data⟩ (by simp) rfl)
                    have HM := Lib.hid hM
                    clear hM hF
                    go_simp
                    exact did_put _ (by rw [HM.out.sz]; exact (by decide : dst 1 < 93)) (Below.refl _ _) (by exact rfl)
                  | 2, _ =>
                    cases hop
                    refine op_ rfl rfl ?_
                    have t75 : a.tmps[75]?.getD undef = .bool false := (Array.getD_eq_getD_getElem?).symm.trans (hF ⟨1, .data⟩ (by simp) rfl)
                    have HM := Lib.hid hM
                    clear hM hF
                    go_simp
                    exact did_put _ (by rw [HM.out.sz]; exact (by decide : dst 2 < 93)) (Below.refl _ _) (by exact rfl)
                  | 3, _ =>
                    cases hop
                    have tg : a.tmps[76]?.getD undef = .bool false := (Array.getD_eq_getD_getElem?).symm.trans (hF ⟨2, .guard⟩ (by simp) rfl)
                    refine op_g rfl (by simp [Region.wanted, yielded, got tg]) ?_
                    clear tg
                    have t1 : a.tmps[1]?.getD undef = .pointer (some ⟨w.heap.size, 0, none⟩) := (Array.getD_eq_getD_getElem?).symm.trans ((hM.oth 1 (by intro i hi; show 74 + i ≠ _; omega)).trans rfl)
                    have HM := Lib.hid hM
                    clear hM hF
                    go_simp
                    exact did_put _ (by rw [HM.out.sz]; exact (by decide : dst 3 < 93)) (Below.refl _ _) (by exact rfl)
                  | 4, _ =>
                    cases hop
                    have tg : a.tmps[76]?.getD undef = .bool false := (Array.getD_eq_getD_getElem?).symm.trans (hF ⟨2, .guard⟩ (by simp) rfl)
                    refine op_g rfl (by simp [Region.wanted, yielded, got tg]) ?_
                    clear tg
                    have t77 : a.tmps[77]?.getD undef = .pointer (some ⟨w.heap.size, 3, none⟩) := (Array.getD_eq_getD_getElem?).symm.trans (hF ⟨3, .data⟩ (by simp) rfl)
                    obtain ⟨f0, f1, f2, f3, g0, g1, g2, g3, g4, e0, e1, e2, e3, e4⟩ := KC.out W1 hM.bel
                    have HM := Lib.hid hM
                    clear hM hF
                    go_simp
                    exact did_put _ (by rw [HM.out.sz]; exact (by decide : dst 4 < 93)) (Below.refl _ _) (by exact rfl)
                  | 5, _ =>
                    cases hop
                    have tg : a.tmps[76]?.getD undef = .bool false := (Array.getD_eq_getD_getElem?).symm.trans (hF ⟨2, .guard⟩ (by simp) rfl)
                    refine op_g rfl (by simp [Region.wanted, yielded, got tg]) ?_
                    clear tg
                    have t7 : a.tmps[7]?.getD undef = .int .i64 (k : Int) := (Array.getD_eq_getD_getElem?).symm.trans ((hM.oth 7 (by intro i hi; show 74 + i ≠ _; omega)).trans rfl)
                    have HM := Lib.hid hM
                    clear hM hF
                    go_simp
                    exact did_put _ (by rw [HM.out.sz]; exact (by decide : dst 5 < 93)) (Below.refl _ _) (by exact rfl)
                  | 6, _ =>
                    cases hop
                    have tg : a.tmps[76]?.getD undef = .bool false := (Array.getD_eq_getD_getElem?).symm.trans (hF ⟨2, .guard⟩ (by simp) rfl)
                    refine op_g rfl (by simp [Region.wanted, yielded, got tg]) ?_
                    clear tg
                    have t79 : a.tmps[79]?.getD undef = .int .i64 (k : Int) := (Array.getD_eq_getD_getElem?).symm.trans (hF ⟨5, .data⟩ (by simp) rfl)
                    have HM := Lib.hid hM
                    clear hM hF
                    go_simp
                    exact did_put _ (by rw [HM.out.sz]; exact (by decide : dst 6 < 93)) (Below.refl _ _) (by show Value.int IntKind.i64 (IntKind.i64.wrap ((k : Int) - 1)) = .int .i64 (j : Int); rw [HWR.out])
                  | 7, _ =>
                    cases hop
                    have tg : a.tmps[76]?.getD undef = .bool false := (Array.getD_eq_getD_getElem?).symm.trans (hF ⟨2, .guard⟩ (by simp) rfl)
                    refine op_g rfl (by simp [Region.wanted, yielded, got tg]) ?_
                    clear tg
                    have t78 : a.tmps[78]?.getD undef = .slice (some ⟨rb, ro, none⟩) o.rs.length q3 := (Array.getD_eq_getD_getElem?).symm.trans (hF ⟨4, .data⟩ (by simp) rfl)
                    have t80 : a.tmps[80]?.getD undef = .int .i64 (j : Int) := (Array.getD_eq_getD_getElem?).symm.trans (hF ⟨6, .data⟩ (by simp) rfl)
                    have HM := Lib.hid hM
                    clear hM hF
                    go_simp
                    exact did_put _ (by rw [HM.out.sz]; exact (by decide : dst 7 < 93)) (Below.refl _ _) (by exact rfl)
                  | 8, _ =>
                    cases hop
                    have tg : a.tmps[76]?.getD undef = .bool false := (Array.getD_eq_getD_getElem?).symm.trans (hF ⟨2, .guard⟩ (by simp) rfl)
                    refine op_g rfl (by simp [Region.wanted, yielded, got tg]) ?_
                    clear tg
                    have t81 : a.tmps[81]?.getD undef = .pointer (some ⟨rb, ro + j * 5, none⟩) := (Array.getD_eq_getD_getElem?).symm.trans (hF ⟨7, .data⟩ (by simp) rfl)
                    obtain ⟨f0, f1, f2, f3, g0, g1, g2, g3, g4, e0, e1, e2, e3, e4⟩ := KC.out W1 hM.bel
                    have HM := Lib.hid hM
                    clear hM hF
                    go_simp
                    exact did_put _ (by rw [HM.out.sz]; exact (by decide : dst 8 < 93)) (Below.refl _ _) (by exact rfl)
                  | 9, _ =>
                    cases hop
                    have tg : a.tmps[76]?.getD undef = .bool false := (Array.getD_eq_getD_getElem?).symm.trans (hF ⟨2, .guard⟩ (by simp) rfl)
                    refine op_g rfl (by simp [Region.wanted, yielded, got tg]) ?_
                    clear tg
                    have t8 : a.tmps[8]?.getD undef = .pointer (some ⟨wr.heap.size, 0, none⟩) := (Array.getD_eq_getD_getElem?).symm.trans ((hM.oth 8 (by intro i hi; show 74 + i ≠ _; omega)).trans rfl)
                    obtain ⟨f0, f1, f2, f3, g0, g1, g2, g3, g4, e0, e1, e2, e3, e4⟩ := KC.out W1 hM.bel
                    have HM := Lib.hid hM
                    clear hM hF
                    go_simp
                    exact did_put _ (by rw [HM.out.sz]; exact (by decide : dst 9 < 93)) (Below.refl _ _) (by exact rfl)
                  | 10, _ =>
                    cases hop
                    have tg : a.tmps[76]?.getD undef = .bool false := (Array.getD_eq_getD_getElem?).symm.trans (hF ⟨2, .guard⟩ (by simp) rfl)
                    refine op_g rfl (by simp [Region.wanted, yielded, got tg]) ?_
                    clear tg
                    have t82 : a.tmps[82]?.getD undef = .agg #[.int .i64 t.sect, .int .i64 t.place, .int .i64 t.kind, .int .i64 t.sym, .int .i64 t.add] := (Array.getD_eq_getD_getElem?).symm.trans (hF ⟨8, .data⟩ (by simp) rfl)
                    have t83 : a.tmps[83]?.getD undef = .agg #[.int .i64 r.sect, .int .i64 r.place, .int .i64 r.kind, .int .i64 r.sym, .int .i64 r.add] := (Array.getD_eq_getD_getElem?).symm.trans (hF ⟨9, .data⟩ (by simp) rfl)
                    have HM := Lib.hid hM
                    clear hM hF
                    go_simp
                    (with_reducible refine (cr _).mono ?_)
                    rintro e W2 ⟨rfl, hb⟩
                    exact did_put _ (by rw [HM.out.sz]; exact (by decide : dst 10 < 93)) hb (by exact rfl)
                  | 11, _ =>
                    cases hop
                    refine op_ rfl rfl ?_
                    have t76 : a.tmps[76]?.getD undef = .bool false := (Array.getD_eq_getD_getElem?).symm.trans (hF ⟨2, .data⟩ (by simp) rfl)
                    have t84 : a.tmps[84]?.getD undef = .bool false := (Array.getD_eq_getD_getElem?).symm.trans (hF ⟨10, .data⟩ (by simp) rfl)
                    have HM := Lib.hid hM
                    clear hM hF
                    go_simp
                    exact did_put _ (by rw [HM.out.sz]; exact (by decide : dst 11 < 93)) (Below.refl _ _) (by exact rfl)
                  | 12, _ =>
                    cases hop
                    refine op_ rfl rfl ?_
                    have t85 : a.tmps[85]?.getD undef = .bool false := (Array.getD_eq_getD_getElem?).symm.trans (hF ⟨11, .data⟩ (by simp) rfl)
                    have HM := Lib.hid hM
                    clear hM hF
                    go_simp
                    exact did_put _ (by rw [HM.out.sz]; exact (by decide : dst 12 < 93)) (Below.refl _ _) (by exact rfl)
                  | 13, _ =>
                    cases hop
                    have tg : a.tmps[86]?.getD undef = .bool false := (Array.getD_eq_getD_getElem?).symm.trans (hF ⟨12, .guard⟩ (by simp) rfl)
                    refine op_n rfl (by simp [Region.wanted, yielded, got tg]) ?_
                    exact did_put _ (by rw [hM.sz]; exact (by decide : dst 13 < 93)) (Below.refl _ _) trivial
                  | 14, _ =>
                    cases hop
                    have tg : a.tmps[86]?.getD undef = .bool false := (Array.getD_eq_getD_getElem?).symm.trans (hF ⟨12, .guard⟩ (by simp) rfl)
                    refine op_n rfl (by simp [Region.wanted, yielded, got tg]) ?_
                    exact did_put _ (by rw [hM.sz]; exact (by decide : dst 14 < 93)) (Below.refl _ _) trivial
                  | 15, _ =>
                    cases hop
                    have tg : a.tmps[86]?.getD undef = .bool false := (Array.getD_eq_getD_getElem?).symm.trans (hF ⟨12, .guard⟩ (by simp) rfl)
                    refine op_n rfl (by simp [Region.wanted, yielded, got tg]) ?_
                    exact did_put _ (by rw [hM.sz]; exact (by decide : dst 15 < 93)) (Below.refl _ _) trivial
                  | 16, _ =>
                    cases hop
                    refine op_ rfl rfl ?_
                    have t86 : a.tmps[86]?.getD undef = .bool false := (Array.getD_eq_getD_getElem?).symm.trans (hF ⟨12, .data⟩ (by simp) rfl)
                    have HM := Lib.hid hM
                    clear hM hF
                    go_simp
                    exact did_put _ (by rw [HM.out.sz]; exact (by decide : dst 16 < 93)) (Below.refl _ _) (by exact rfl)
                  | 17, _ =>
                    cases hop
                    refine op_ rfl rfl ?_
                    have t90 : a.tmps[90]?.getD undef = .bool false := (Array.getD_eq_getD_getElem?).symm.trans (hF ⟨16, .data⟩ (by simp) rfl)
                    have HM := Lib.hid hM
                    clear hM hF
                    go_simp
                    (with_reducible refine (demand_no _).mono ?_)
                    rintro e W2 ⟨rfl, rfl⟩
                    exact ⟨HM.out.d, (⟨by rw [HC.out]; rfl, HBL.out.trans (((box0 wr _).trans (HM.out.bel.mono (by simp))).mono HBL.out.size)⟩ : CkEnd (chk o) w thrown _)⟩
                  | i + 18, h => exact absurd h (by omega)
              case done =>
                intro u W1 hbz hF
                exact (hF 17 (by decide)).elim
        · obtain rfl : k = o.rs.length := by omega
          have HC := Lib.hid (show chk o = true from chk_yes HL.out HQ.out hq.out)
          have HB9 := Lib.hid hbl
          clear hq hbl hbx
          go_wp2_with fail
          go_end0
          exact ⟨by rw [HC.out]; rfl, HB9.out⟩
end OCh
end Go.Proofs.Ytlmblfkcmhgdaaa
