/-
  Needs: a contract. Condition: the objects lie in memory, and have not too many symbols.
-/
import Derived.Test.YtieehjkmfmkfjaaResL
import Derived.Test.YtieehjkmfmkfjaaResW
import Derived.Test.YtieehjkmfmkfjaaShelf
namespace Go.Proofs.Ytieehjkmfmkfjaa
open Go.RowKit Go.Maps Go.WideMaps Go.Sort
set_option linter.unusedVariables false
set_option linter.unusedSimpArgs false
namespace RsK
open OO OJ RsM RsI RsP RsR RsD RsS RsT RsV RsJ RsN OCk
open OI hiding Mid Did
attribute [local go_sem] Oper.semAt_some
theorem clone_ (s : ByteArray) (w : World) (h : s.size ≤ 281474976710656) : Calls Try.prog 35 #[.string s] w fun e w' => e = .returned (.string s) ∧ Below w.heap.size w w' := by
  have hc := fun w => Try.stringslite_Clone s w h
  go_enter Try.func35, Try.ntmps35
  go_wp2_with (go_at_call 58; (with_reducible refine (hc _).mono ?_); rintro e w1 ⟨rfl, hb1⟩; have HB1 := Lib.hid hb1; clear hb1)
  go_ret
  exact ⟨rfl, HB1.out⟩
set_option maxRecDepth 100000 in
theorem contains_ {w : World} {n₀ : Nat} {v : Value} {objs : List ObjV} (hn : n₀ ≤ w.heap.size) (ho : ObjsAt n₀ w v objs) (hw : ∀ o ∈ objs, o.Wf) (hm : objs.length ≤ maxLen) :
    Calls Try.prog 34 #[v, .func (.func 26) #[] #[]] w fun e w' => e = .returned (.bool (decide (0 ≤ noneFrom objs 0))) ∧ Below w.heap.size w w' := by
  have ci := index_ hn ho hw hm
  obtain ⟨p, c, rfl, -⟩ := ho
  generalize noneFrom objs 0 = ni at *
  go_enter Try.func34, Try.ntmps34
  go_wp2_with (go_at_call 25; (with_reducible refine ci.mono ?_); rintro e w1 ⟨rfl, hb1⟩; have HB1 := Lib.hid hb1; clear hb1)
  go_ret
  exact ⟨rfl, HB1.out⟩
theorem one_new (w : World) (a : Value) (T : TypeId) : ∀ j u, [a][j]? = some u → (w.alloc (.cells #[a] T)).cell? ((⟨w.heap.size, 0, none⟩ : Addr).add j) = some u := by
  intro j u hj
  rw [OO.add_plain, Nat.zero_add, Lib.cell_of_heap (heap_alloc_new w _)]
  simpa using hj
theorem one_one (s : ByteArray) : ∀ u ∈ [Value.string s], u.oneCell' = true := by
  intro u hu
  simp at hu
  subst hu; rfl
set_option maxRecDepth 100000 in
set_option maxHeartbeats 16000000 in
theorem Needs_ {w : World} {n₀ : Nat} {v : Value} {objs : List ObjV} (hn : n₀ ≤ w.heap.size) (ho : ObjsAt n₀ w v objs) (hw : ∀ o ∈ objs, o.Wf) (hm : objs.length ≤ 100000) (hms : ∀ o ∈ objs, o.ss.length ≤ maxLen) (hN : (flat objs).length ≤ 100000) (hS : ∀ o ∈ objs, ∀ s ∈ o.ss, s.name.size ≤ 1000000) :
    Calls Try.prog 19 #[v] w (NRes objs w) := by
  have ci := contains_ hn ho hw (by unfold maxLen; omega)
  obtain ⟨p, c, rfl, hsl⟩ := ho
  have HO := Lib.hid (⟨p, c, rfl, hsl⟩ : ObjsAt n₀ w (.slice p objs.length c) objs)
  have HW := Lib.hid hw
  have HMS := Lib.hid hms
  have HS := Lib.hid hS
  have HM := Lib.hid (show objs.length ≤ maxLen by unfold maxLen; omega)
  clear hsl hw hms hS
  have HNE : Hid (needsL objs = if 0 ≤ noneFrom objs 0 then [] else sorted (missL (flat objs) (flat objs))) := Lib.hid rfl
  refine (callsIn_wide (n := 8)).1 (callsIn_of_wp_marks Try.func19 rfl trivial ?_ rfl)
  simp only [Try.ntmps19, List.size_toArray, List.length_cons, List.length_nil, Nat.reduceAdd, Nat.reduceSub, Array.replicate_succ, Array.replicate_zero, List.push_toArray, List.append_toArray, List.nil_append, List.cons_append]
  refine wpIn_wide.2 ?_
  by_cases hneg : 0 ≤ noneFrom objs 0
  · rw [decide_eq_true hneg] at ci
    have HN2 := Lib.hid hneg
    clear hneg
    go_wp2_with (go_at_call 34; (with_reducible refine ci.mono ?_); rintro e w1 ⟨rfl, hb1⟩; have HB1 := Lib.hid hb1; clear hb1 ci)
    have hne : needsL objs = [] := by rw [HNE.out, if_pos HN2.out]
    refine ⟨.slice none 0 0, by simp [results, Try.results19, go_sem], none, 0, by rw [hne]; rfl, ?_, HB1.out⟩
    rw [hne]
    exact ⟨none, 0, rfl, fun h => absurd h (by simp)⟩
  · rw [decide_eq_false hneg] at ci
    have HN2 := Lib.hid hneg
    clear hneg
    go_upto_region 3 with (go_at_call 34; (with_reducible refine ci.mono ?_); rintro e w1 ⟨rfl, hb1⟩; have HB1 := Lib.hid hb1; clear hb1 ci)
    have hs1 := HB1.out.size
    have cd := def2_ (w := w1) (n₀ := n₀) (by omega) (ObjsAt.same HO.out (Same.of HB1.out hn)) HW.out HM.out HMS.out hN
    go_wp2_with (first
      | (go_at_call 27; (with_reducible refine cd.mono ?_); rintro e w3 ⟨qa, ca, rfl, hmap, -, hb3, hz3⟩; have HMAP := Lib.hid hmap; have HB3 := Lib.hid hb3; clear hmap hb3 cd)
      | (go_at_call 28; (with_reducible refine (symbols_ _ _ _ _).mono ?_); rintro e w7 ⟨rfl, hw7⟩; have HW7 := Lib.hid hw7; clear hw7))
    have h3z := HB3.out.size
    have hs7 : w7.heap.size = w3.heap.size + 3 := by rw [HW7.out]; simp
    have low7 : ∀ k, k < w3.heap.size → w7.heap[k]? = w3.heap[k]? := fun k hk => by
      rw [HW7.out, Lib.alloc_old _ _ _ (by simp only [World.size_alloc]; omega), Lib.alloc_old _ _ _ (by simp only [World.size_alloc]; omega), Lib.alloc_old _ _ _ hk]
    have hbw3 : Below w.heap.size w w3 := HB1.out.trans (HB3.out.mono hs1)
    have hb7 : Below w.heap.size w w7 := by
      rw [HW7.out]
      exact ((hbw3.alloc hbw3.size _).alloc (by simp only [World.size_alloc]; have := hbw3.size; omega) _).alloc (by simp only [World.size_alloc]; have := hbw3.size; omega) _
    have hlay : NLay w w3.heap.size (w1.heap.size + 2) w7.heap.size := ⟨by omega, by omega, by omega⟩
    have xa : w7.heap[w3.heap.size]? = some (.cells #[.map (some (w1.heap.size + 2))] TM (0, 0)) := by
      rw [HW7.out, Lib.alloc_old _ _ _ (by simp only [World.size_alloc]; omega), Lib.alloc_old _ _ _ (by simp only [World.size_alloc]; omega)]
      exact heap_alloc_new w3 _
    have xb : w7.heap[w3.heap.size + 1]? = some (.cells #[.slice none 0 0] TSS (0, 0)) := by
      rw [HW7.out, Lib.alloc_old _ _ _ (by simp only [World.size_alloc]; omega)]
      have := heap_alloc_new (w3.alloc (.cells #[.map (some (w1.heap.size + 2))] TM)) (.cells #[.slice none 0 0] TSS)
      rwa [World.size_alloc] at this
    have xs : w7.heap[w3.heap.size + 2]? = some (.cells #[.slice p objs.length c] 22 (0, 0)) := by
      rw [HW7.out]
      have := heap_alloc_new ((w3.alloc (.cells #[.map (some (w1.heap.size + 2))] TM)).alloc (.cells #[.slice none 0 0] TSS)) (.cells #[.slice p objs.length c] 22)
      simpa [World.size_alloc] using this
    have gr7 : w3.grownBy w7 none := ⟨by rw [HW7.out]; rfl, by rw [HW7.out]; rfl, by rw [HW7.out]; rfl, by omega, fun k hk _ => low7 k hk⟩
    have hni : NI w (flat objs) w3.heap.size (w1.heap.size + 2) w7.heap.size [] w7 := ⟨xa, ⟨_, xb, World.ownsRow_nil _ _ _ _⟩, HMAP.out.kept gr7 (by simp), hb7, Nat.le_refl _⟩
    have hbox : w7.cell? ⟨w3.heap.size + 1 + 1, 0, none⟩ = some (.slice p objs.length c) := Lib.cell_of_heap xs 0
    have hobj : ObjsAt n₀ w7 (.slice p objs.length c) objs := ObjsAt.same HO.out (Same.of hb7 hn)
    have HNI := Lib.hid hni
    have HLAY := Lib.hid hlay
    clear HW7 hbw3 low7 hb7 xa xb xs gr7 hni HMAP HB3 hlay
    refine (wpIn_wide (n := 8)).1 ?_
    refine range2_ (α := Fin (flat objs).length) (w0 := w7) rfl (by omega) (gf := 54) (lb := #[.pointer (some ⟨w3.heap.size + 1 + 1, 0, none⟩)]) rfl trivial (enters_of Try.func54 (by kernel_rfl) rfl)
      (iter_ (8 - 1) (by omega) (w3.heap.size + 1 + 1) n₀ _ objs HM.out HMS.out w7 (by omega) (by omega) hbox hobj) (fun h k => h.trans k) (fun W l o o' hl _ _ _ => Kp.put W l o' (by omega) (by omega)) (Below.refl _ _) (fun _ => rfl)
      (fun pre W => NI w (flat objs) w3.heap.size (w1.heap.size + 2) w7.heap.size (pre.map ent) W) (fun _ _ _ => False) (fun s W W' row h hg hr => NI.own HLAY.out (s.map ent) W W' row h hg hr) (fun _ _ _ _ _ h _ _ => h) HNI.out
      (fun x b c W => Vars w7.heap.size (ent x) b c W) (fun x b c => Vars.own _ _ _) ?ab ?done (fun _ _ _ _ _ _ h _ => h.elim)
    case ab =>
      clear hbox hobj HNI
      apply Exists.intro
      constructor
      · intro l pre x W K hI hK
        gi_wp2
        have kb : Below W.heap.size W ((W.alloc (.cells #[.int .i64 ((ent x).i : Int), .int .i64 ((ent x).k : Int)] TT)).alloc (.cells #[.string (ent x).s.name, .int .i64 (ent x).s.sect, .int .i64 (ent x).s.val, .int .i64 (ent x).s.frame, .bool (ent x).s.glob] 52)) := ((Below.refl _ _).alloc (Nat.le_refl _) _).alloc (by simp) _
        have kf := (((KeepsOthers.alloc W (.cells #[.int .i64 ((ent x).i : Int), .int .i64 ((ent x).k : Int)] TT)).trans (KeepsOthers.alloc _ (.cells #[.string (ent x).s.name, .int .i64 (ent x).s.sect, .int .i64 (ent x).s.val, .int .i64 (ent x).s.frame, .bool (ent x).s.glob] 52))).from w7.heap.size)
        have hz := hI.zz
        have kp : Kp n₀ (w3.heap.size + 1 + 1) W _ := Kp.of kb (by omega) (by omega)
        have ki := NI.below HLAY.out hI kb
        have kv : Vars w7.heap.size (ent x) W.heap.size (W.heap.size + 1) ((W.alloc (.cells #[.int .i64 ((ent x).i : Int), .int .i64 ((ent x).k : Int)] TT)).alloc (.cells #[.string (ent x).s.name, .int .i64 (ent x).s.sect, .int .i64 (ent x).s.val, .int .i64 (ent x).s.frame, .bool (ent x).s.glob] 52)) :=
          ⟨(Lib.alloc_old _ _ _ (by simp)).trans (heap_alloc_new _ _), by have := heap_alloc_new (W.alloc (.cells #[.int .i64 ((ent x).i : Int), .int .i64 ((ent x).k : Int)] TT)) (.cells #[.string (ent x).s.name, .int .i64 (ent x).s.sect, .int .i64 (ent x).s.val, .int .i64 (ent x).s.frame, .bool (ent x).s.glob] 52); rwa [World.size_alloc] at this, hz, by omega⟩
        clear kb hz
        generalize hb : W.heap.size = b at kv ⊢
        generalize hd : b + 1 = d at kv ⊢
        exact hK b d _ kf kp ki kv
      · intro l pre x b d W hI hV hlt
        have hz := hI.zz
        have hbz := hI.bel.size
        have l1 := HLAY.out.m
        have l2 := HLAY.out.a
        have l3 := HLAY.out.z
        have ka : W.cell? ⟨w3.heap.size, 0, none⟩ = some (.map (some (w1.heap.size + 2))) := Lib.cell_of_heap hI.a 0
        have b0 : W.cell? ⟨b, 0, none⟩ = some (.int .i64 ((ent x).i : Int)) := Lib.cell_of_heap hV.v0 0
        have b1 : W.cell? ⟨b, 1, none⟩ = some (.int .i64 ((ent x).k : Int)) := Lib.cell_of_heap hV.v0 1
        have d0 : W.cell? ⟨d, 0, none⟩ = some (.string (ent x).s.name) := Lib.cell_of_heap hV.v1 0
        have d1 : W.cell? ⟨d, 1, none⟩ = some (.int .i64 (ent x).s.sect) := Lib.cell_of_heap hV.v1 1
        have d2 : W.cell? ⟨d, 2, none⟩ = some (.int .i64 (ent x).s.val) := Lib.cell_of_heap hV.v1 2
        have d3 : W.cell? ⟨d, 3, none⟩ = some (.int .i64 (ent x).s.frame) := Lib.cell_of_heap hV.v1 3
        have d4 : W.cell? ⟨d, 4, none⟩ = some (.bool (ent x).s.glob) := Lib.cell_of_heap hV.v1 4
        have bl := lt_heap hV.v0
        have dl := lt_heap hV.v1
        obtain ⟨oo, hoo, hss⟩ := mem_flat (List.getElem_mem x.2)
        have hnm : (ent x).s.name.size ≤ maxLen := ((HW.out oo (List.mem_of_getElem? hoo)).ss _ (List.mem_of_getElem? hss)).name
        have hnm2 : (ent x).s.name.size ≤ 1000000 := HS.out oo (List.mem_of_getElem? hoo) _ (List.mem_of_getElem? hss)
        have KT := target_ (ent x) hI.map hnm
        have KC := fun w => clone_ (ent x).s.name w (by omega)
        have hlen : (missL (flat objs) (pre.map ent)).length ≤ 100000 := Nat.le_trans (missL_le _ _) (by rw [List.length_map]; omega)
        have HI := Lib.hid hI
        have HV := Lib.hid hV
        have HPRE := Lib.hid (show (pre ++ [x]).map ent = pre.map ent ++ [ent x] by simp)
        obtain ⟨r, hr⟩ : ∃ r, r = tgI (flat objs) (ent x) := ⟨_, rfl⟩
        rw [← hr] at KT
        have HBAD := Lib.hid (show RsT.bad (flat objs) (ent x) = !r.2.2 by unfold RsT.bad; rw [← hr])
        obtain ⟨ta, tb, hh⟩ := r
        simp only at KT HBAD
        obtain ⟨av, hag, hrow⟩ := hI.b
        have HAG := Lib.hid hag
        have HROW := Lib.hid hrow
        clear hI hV hoo hss hlt hr hag hrow
        generalize ent x = y at *
        cases hh with
        | true =>
          gi_wp2_with (refine ⟨trivial, ?_⟩; gi_at_call 29; (with_reducible refine (CallsIn.inRound l (callsIn_wide.2 KT)).mono ?_); rintro e W3 ⟨rfl, hb3⟩; have HB3 := Lib.hid hb3; clear hb3)
          have hw9 : Below W.heap.size W (W3.alloc (.cells #[.int .i64 ta, .int .i64 tb] TT)) := HB3.out.alloc HB3.out.size _
          have kf : KeepsFrom w7.heap.size W (W3.alloc (.cells #[.int .i64 ta, .int .i64 tb] TT)) := ⟨hw9.size, fun k o hk ho hc => (hw9.block k (lt_heap ho)).trans ho⟩
          refine ⟨kf, Kp.of hw9 (by omega) (by omega), ?_⟩
          show NI w _ _ _ _ ((pre ++ [x]).map ent) _
          rw [HPRE.out]
          exact ni_skip HLAY.out HI.out HBAD.out hw9
        | false =>
          have hmix : Try.prog.follows Departure.mixedOrders = true := by kernel_rfl
          obtain ⟨i0, hi, hz0, hz1, hz2⟩ := info_parts (show (Try.prog.info? TST).map (fun i => (i.zero, i.size, i.bytes)) = some (some (.string ByteArray.empty), 1, 16) by kernel_rfl)
          gi_wp2_with (refine ⟨trivial, ?_⟩; gi_at_call 29; (with_reducible refine (CallsIn.inRound l (callsIn_wide.2 KT)).mono ?_); rintro e W3 ⟨rfl, hb3⟩; have HB3 := Lib.hid hb3; clear hb3)
          have hw9 : Below W.heap.size W (W3.alloc (.cells #[.int .i64 ta, .int .i64 tb] TT)) := HB3.out.alloc HB3.out.size _
          have hni := NI.below HLAY.out HI.out hw9
          have hag9 := (hw9.block _ (by omega)).trans HAG.out
          have hrow9 := HROW.out.kept (⟨hw9.os, hw9.tape, hw9.output, hw9.size, fun i hi _ => hw9.block i hi⟩ : W.grownBy (W3.alloc (.cells #[.int .i64 ta, .int .i64 tb] TT)) none) (by cases hv : av.ownBlock <;> simp)
          have hd9 := (hw9.block _ dl).trans HV.out.v1
          have hz9 := hw9.size
          have k1 := Lib.cell_of_heap hag9 0
          have k2 := Lib.cell_of_heap hd9 0
          have dl9 := lt_heap hd9
          simp only [List.getElem?_toArray, List.getElem?_cons_zero, List.getElem?_cons_succ] at k1 k2
          have HW9 := Lib.hid hw9
          have HNI9 := Lib.hid hni
          have HAG9 := Lib.hid hag9
          have HROW9 := Lib.hid hrow9
          have HD9 := Lib.hid hd9
          clear hw9 hni hag9 hrow9 hd9 b0 b1 d0 d1 d2 d3 d4 ka
          generalize W3.alloc (.cells #[.int .i64 ta, .int .i64 tb] TT) = W9 at *
          have h7a : w3.heap.size + 3 ≤ w7.heap.size := by omega
          have h7b : w7.heap.size ≤ w3.heap.size + 3 := by omega
          clear hs7
          refine reg7_ (B := w3.heap.size + 1) (base := w7.heap.size) (d := d) (nm := y.s.name) (v := av) (m := (missL (flat objs) (pre.map ent)).length) (xs := (missL (flat objs) (pre.map ent)).map encStr) (by kernel_rfl) (ahead_of (by kernel_rfl)) rfl ?step7 ?done7
          case step7 =>
            intro i op hop L a W1 hs h0 haft hI
            have hi7 : i < 7 := (Array.getElem?_eq_some_iff.1 hop).1
            have h40 : (40 : Nat) = 40 := rfl
            match i, hi7 with
              | 0, _ =>
                cases hop
                refine opIn_ rfl rfl ?_
                have t5 : a.tmps[5]?.getD undef = .pointer (some ⟨w3.heap.size + 1, 0, none⟩) := (Array.getD_eq_getD_getElem?).symm.trans ((hI.oth 5 (by omega)).trans rfl)
                have c5 : W1.cell? ⟨w3.heap.size + 1, 0, none⟩ = some av := Lib.cell_of_heap (((hI.w0 (hI.n5 0 (by omega) h0)).block _ (by show _ < W9.heap.size; omega)).trans HAG9.out) 0
                have HI2 := Lib.hid hI
                clear hI
                go_simp
                exact HI2.out.next hs h40 0 (by omega) h0 _ (Below.refl _ _) ⟨fun _ => rfl, fun h => absurd h (by decide), fun h => absurd h (by decide), fun h => absurd h (by decide), fun h => absurd h (by decide)⟩ ⟨fun h => absurd h (by decide), fun h => absurd h (by decide), fun h => absurd h (by decide)⟩
              | 1, _ =>
                cases hop
                refine opIn_ rfl rfl ?_
                have t7 : a.tmps[7]?.getD undef = .pointer (some ⟨d, 0, none⟩) := (Array.getD_eq_getD_getElem?).symm.trans ((hI.oth 7 (by omega)).trans rfl)
                have HI2 := Lib.hid hI
                clear hI
                go_simp
                exact HI2.out.next hs h40 1 (by omega) h0 _ (Below.refl _ _) ⟨fun h => absurd h (by decide), fun _ => rfl, fun h => absurd h (by decide), fun h => absurd h (by decide), fun h => absurd h (by decide)⟩ ⟨fun h => absurd h (by decide), fun h => absurd h (by decide), fun h => absurd h (by decide)⟩
              | 2, _ =>
                cases hop
                refine opIn_ rfl rfl ?_
                have e1 := haft ⟨1, .data⟩ (by simp) rfl
                have t31 : a.tmps[31]?.getD undef = .pointer (some ⟨d, 0, none⟩) := hI.slot (hI.s1 e1)
                have c5 : W1.cell? ⟨d, 0, none⟩ = some (.string y.s.name) := Lib.cell_of_heap (((hI.w0 (hI.n5 2 (by omega) h0)).block _ (by show _ < W9.heap.size; omega)).trans HD9.out) 0
                have HI2 := Lib.hid hI
                clear hI
                go_simp
                exact HI2.out.next hs h40 2 (by omega) h0 _ (Below.refl _ _) ⟨fun h => absurd h (by decide), fun h => absurd h (by decide), fun _ => rfl, fun h => absurd h (by decide), fun h => absurd h (by decide)⟩ ⟨fun _ => e1, fun h => absurd h (by decide), fun h => absurd h (by decide)⟩
              | 3, _ =>
                cases hop
                refine opIn_ rfl rfl ?_
                have e2 := haft ⟨2, .data⟩ (by simp) rfl
                have t32 : a.tmps[32]?.getD undef = .string y.s.name := hI.slot (hI.s2 e2)
                have HI2 := Lib.hid hI
                clear hI
                go_simp
                refine ⟨trivial, ?_⟩
                (with_reducible refine (CallsIn.inRound l (callsIn_wide.2 (KC _))).mono ?_)
                rintro e W5 ⟨rfl, hb5⟩
                exact HI2.out.next hs h40 3 (by omega) h0 _ hb5 ⟨fun h => absurd h (by decide), fun h => absurd h (by decide), fun h => absurd h (by decide), fun _ => rfl, fun h => absurd h (by decide)⟩ ⟨fun h => absurd h (by decide), fun _ => e2, fun h => absurd h (by decide)⟩
              | 4, _ =>
                cases hop
                refine opIn_ rfl rfl ?_
                have e3 := haft ⟨3, .data⟩ (by simp) rfl
                have t33 : a.tmps[33]?.getD undef = .string y.s.name := hI.slot (hI.s3 e3)
                have HI2 := Lib.hid hI
                clear hI
                go_simp
                exact HI2.out.next hs h40 4 (by omega) h0 _ ((Below.refl _ _).alloc (Nat.le_refl _) _) ⟨fun h => absurd h (by decide), fun h => absurd h (by decide), fun h => absurd h (by decide), fun h => absurd h (by decide), fun _ => ⟨_, rfl, heap_alloc_new _ _⟩⟩ ⟨fun h => absurd h (by decide), fun h => absurd h (by decide), fun _ => e3⟩
              | 5, _ =>
                cases hop
                have e0 := haft ⟨0, .data⟩ (by simp) rfl
                have e4 := haft ⟨4, .data⟩ (by simp) rfl
                obtain ⟨g, s34, hgc⟩ := hI.s4 e4 h0
                have s30 : a.eval (.tmp 30) = av := hI.s0 e0
                have s34' : a.eval (.tmp 34) = .slice (some ⟨g, 0, none⟩) 1 1 := s34
                have hbw := hI.w0 h0
                have hrow1 := HROW9.out.kept (⟨hbw.os, hbw.tape, hbw.output, hbw.size, fun i hi _ => hbw.block i hi⟩ : W9.grownBy W1 none) (by cases hv : av.ownBlock <;> simp)
                have hz1' : W9.heap.size ≤ W1.heap.size := hbw.size
                obtain ⟨v', w', hrun, hown', hgrow', -, hat'⟩ := run_append_own_at (P := Try.prog) W1 w7.heap.size TSS TSS TST i0 (.string ByteArray.empty) 1 16 Try.underlying48 hi hz0 hz1 hz2 rfl (by decide) av _ _ hrow1 ⟨g, 0, none⟩ 1 1 [.string y.s.name] rfl (fun j u hj => by
                  rw [OO.add_plain, Nat.zero_add, Lib.cell_of_heap hgc]
                  simpa using hj) (one_one _) (by unfold maxLen; omega) (by omega) (by omega)
                refine opIn_val (v := v') (w' := w') rfl rfl (by simp [Oper.about, resolve, Target.leads, Sem.run_pure]) (by intro c h; cases h) (by simp [execOp, resolve, invoke, builtin, s30, s34', hrun, Result.andThen]) ?_
                exact hI.next5 hs h40 h0 e0 e4 hown' hgrow'
              | 6, _ =>
                cases hop
                have e5 := haft ⟨5, .data⟩ (by simp) rfl
                obtain ⟨v', w5, wA, hb5, hown, hgr, ht, hw⟩ := hI.w5 e5
                rw [h0] at hw
                simp only [Bool.false_eq_true, if_false] at hw
                subst hw
                obtain ⟨q', m', k', rfl⟩ := row_slice hown
                have t35 : a.tmps[35]?.getD undef = _ := (Array.getD_eq_getD_getElem?).symm.trans ht
                have t5 : a.tmps[5]?.getD undef = .pointer (some ⟨w3.heap.size + 1, 0, none⟩) := (Array.getD_eq_getD_getElem?).symm.trans ((hI.oth 5 (by omega)).trans rfl)
                have hz5 : W9.heap.size ≤ w5.heap.size := hb5.size
                have hagA := (hgr.block (w3.heap.size + 1) (by omega) (fun e => by have := (HROW9.out.lt _ e.symm).1; omega)).trans ((hb5.block _ (by show _ < W9.heap.size; omega)).trans HAG9.out)
                have c7 := Lib.cell_of_heap hagA 0
                have c8 := Lib.frozen_of_heap hagA 0
                simp only [List.getElem?_toArray, List.getElem?_cons_zero] at c7
                have HI2 := Lib.hid (hI.next6 hs h0 e5 ht)
                clear hI hown hgr ht hb5 hagA
                refine opIn_ rfl rfl ?_
                go_simp
                exact HI2.out
              | i + 7, h => exact absurd h (by omega)
          case done7 =>
            intro L a W1 hall hI
            obtain ⟨v', w5, wA, hb5, hown, hgr, -, hw⟩ := hI.w5 (hall 5 (by omega))
            rw [hall 6 (by omega)] at hw
            simp only [if_true] at hw
            have hb5' : Below W9.heap.size W9 w5 := ⟨hb5.os, hb5.tape, hb5.output, hb5.size, hb5.block⟩
            have hz5 := hb5'.size
            have HB5 := Lib.hid hb5'
            have HOWN := Lib.hid hown
            have HGR := Lib.hid hgr
            have HWW := Lib.hid hw
            clear hI hall hb5 hb5' hown hgr hw
            gi_wp2
            have hlo : ∀ k, av.ownBlock = some k → w7.heap.size ≤ k := fun k hk => (HROW9.out.lt k hk).1
            have hw5 : Below W.heap.size W w5 := HW9.out.trans (HB5.out.mono hz9)
            have hww := HWW.out
            subst hww
            have hgz := HGR.out.size
            have go : ∀ k, k < W.heap.size → k ≠ w3.heap.size + 1 → some k ≠ av.ownBlock → (wA.setCell ⟨w3.heap.size + 1, 0, none⟩ v').heap[k]? = W.heap[k]? := fun k hk h1 h2 => (Below.heap_setCell _ _ _ _ (by exact h1)).trans ((HGR.out.block k (by omega) h2).trans (hw5.block k hk))
            refine ⟨⟨by rw [World.size_setCell]; omega, fun k o hk ho hc => ?_⟩, ⟨fun k hk => go k (by omega) (by omega) (fun e => by have := hlo _ e.symm; omega), go _ (by omega) (by omega) (fun e => by have := hlo _ e.symm; omega), by rw [World.size_setCell]; omega⟩, ?_⟩
            · rw [go k (lt_heap ho) (by omega) (fun e => by
                obtain ⟨c, hc', -⟩ := row_block HROW.out k e.symm
                rw [ho] at hc'
                cases hc'
                cases hc)]
              exact ho
            · show NI w _ _ _ _ ((pre ++ [x]).map ent) _
              rw [HPRE.out]
              exact ni_next HLAY.out (NI.below HLAY.out HNI9.out HB5.out) HBAD.out ((HB5.out.block _ (by omega)).trans HAG9.out) (HROW9.out.kept (⟨HB5.out.os, HB5.out.tape, HB5.out.output, HB5.out.size, fun i hi _ => HB5.out.block i hi⟩ : W9.grownBy w5 none) (by cases hv : av.ownBlock <;> simp)) HOWN.out HGR.out
    case done =>
      intro D xs W hD hxs hI hK
      subst hxs
      rw [show (List.finRange (flat objs).length).map ent = flat objs by
        rw [← upto_all, map_upto]; exact List.take_of_length_le (Nat.le_refl _)] at hI
      have hz := hI.zz
      have l1 := HLAY.out.m
      have l2 := HLAY.out.a
      have l3 := HLAY.out.z
      obtain ⟨v, hag, hrow⟩ := hI.b
      obtain ⟨q0, c0, rfl⟩ := own_form hrow
      have hnl := missL_le (flat objs) (flat objs)
      have hne : needsL objs = sorted (missL (flat objs) (flat objs)) := by rw [HNE.out, if_neg (fun h => by have := HN2.out; omega)]
      have HNL := Lib.hid hne
      have HK := Lib.hid hK
      have HBI := Lib.hid hI.bel
      clear hI hK hne HNI hbox hobj
      by_cases h0 : (missL (flat objs) (flat objs)).length = 0
      · have h00 : missL (flat objs) (flat objs) = [] := List.eq_nil_of_length_eq_zero h0
        rw [h00] at hag hrow
        simp only [List.length_nil] at hag hrow
        have k0 : W.cell? ⟨w3.heap.size + 1, 0, none⟩ = some (.slice q0 0 c0) := Lib.cell_of_heap hag 0
        have cS := fun w => Try.slices_Sort_string_none q0 c0 w
        have cC := fun w => Try.slices_Compact_string_empty q0 c0 w
        have H00 := Lib.hid h00
        clear h00 h0 hag hrow
        go_wp2_with (first
          | (go_at_call 36; (with_reducible refine (cS _).mono ?_); rintro e w2 ⟨rfl, hw2⟩; obtain rfl : W = w2 := hw2.symm)
          | (go_at_call 37; (with_reducible refine (cC _).mono ?_); rintro e w4 ⟨rfl, hw4⟩; obtain rfl : W = w4 := hw4.symm))
        refine ⟨by simp, .inl ⟨_, _, rfl, run_takeDeferred HK.out, ?_⟩⟩
        have g4 := grownBy_putObj' W D (.deferred none)
        have hn0 : needsL objs = [] := by rw [HNL.out, H00.out, sorted_nil]
        refine ⟨.slice q0 0 c0, by simp [results, Try.results19, go_sem], q0, c0, by rw [hn0]; rfl, ?_, ?_⟩
        · rw [hn0]
          exact ⟨_, _, rfl, fun h => absurd h (by simp)⟩
        · exact HBI.out.grown g4 HBI.out.size (fun k hk => by cases hk; omega)
      · generalize hks : missL (flat objs) (flat objs) = ks at *
        have HKS := Lib.hid hks
        clear hks
        obtain ⟨g0, cap0, e0, hbg, hgl, hncap, hcm, hlen, hH⟩ := Lib.holds_of_ownsRow hrow (fun e => by simp only [Value.slice.injEq] at e; exact h0 e.2.1)
        simp only [Value.slice.injEq] at e0
        obtain ⟨rfl, -, rfl⟩ := e0
        have k0 : W.cell? ⟨w3.heap.size + 1, 0, none⟩ = some (.slice (some ⟨g0, 0, none⟩) ks.length c0) := Lib.cell_of_heap hag 0
        have cS := Try.slices_Sort_string g0 0 c0 ks W hH hgl (by omega)
        have hl2 : (ks.mergeSort fun x y => decide (x ≤ y)).length = ks.length := List.length_mergeSort ks
        have hcomp : ∀ nn os w2, w2 = grow (putRow encStr (Sort.ahead W nn) g0 0 (ks.mergeSort fun x y => decide (x ≤ y)).toArray) os → Calls Try.prog 37 #[.slice (some ⟨g0, 0, none⟩) ks.length c0] w2 fun e w' => e = .returned (.slice (some ⟨g0, 0, none⟩) (sorted ks).length c0) ∧ ∃ q, w' = putRow encStr (Sort.ahead w2 q) g0 0 (sorted ks ++ List.replicate (ks.length - (sorted ks).length) []).toArray := fun nn os w2 h2 => by
          have := Try.slices_Compact_string g0 0 c0 (ks.mergeSort fun x y => decide (x ≤ y)) w2 (holds_sorted hgl hH h2) (by omega) (by omega)
          rwa [hl2] at this
        have hcell : ∀ nn os w2, w2 = grow (putRow encStr (Sort.ahead W nn) g0 0 (ks.mergeSort fun x y => decide (x ≤ y)).toArray) os → w2.cell? ⟨w3.heap.size + 1, 0, none⟩ = some (.slice (some ⟨g0, 0, none⟩) ks.length c0) := fun nn os w2 h2 => by
          have g2 := grownBy_sorted (w := W) (g := g0) (n := nn) (os := os) (ks.mergeSort fun x y => decide (x ≤ y)).toArray
          rw [← h2] at g2
          exact (cell_same (g2.block _ (by omega) (fun e => by have := Option.some.inj e; omega)) 0).trans k0
        have HC := Lib.hid hcomp
        have HE := Lib.hid hcell
        have HROW := Lib.hid hrow
        clear hcomp hcell hH hag hrow hlen hl2
        go_wp2_with (first
          | (go_at_call 36; (with_reducible refine cS.mono ?_); rintro e w2 ⟨rfl, nn, os, hw2⟩; have y2 := HE.out nn os w2 hw2; have cC := HC.out nn os w2 hw2; have HW2 := Lib.hid hw2; clear hw2)
          | (go_at_call 37; (with_reducible refine cC.mono ?_); rintro e w4 ⟨rfl, q, hw4⟩; have HW4 := Lib.hid hw4; clear hw4))
        obtain ⟨r3, g2, g3⟩ := left_ HROW.out rfl HW2.out HW4.out
        have hDg : some D ≠ some g0 := fun e => by
          cases e
          obtain ⟨c, hc, -⟩ := row_block HROW.out D rfl
          rw [HK.out] at hc
          cases hc
        have hDl := lt_heap HK.out
        have hK4 : w4.heap[D]? = some (.deferred (some [])) := (g3.block D (by have := g2.size; omega) hDg).trans ((g2.block D hDl hDg).trans HK.out)
        refine ⟨by simp, .inl ⟨_, _, rfl, run_takeDeferred hK4, ?_⟩⟩
        have g4 := grownBy_putObj' w4 D (.deferred none)
        have hb4 : Below w.heap.size w w4 := (HBI.out.grown g2 HBI.out.size (fun k hk => by cases hk; omega)).grown g3 (by have := g2.size; have := HBI.out.size; omega) (fun k hk => by cases hk; omega)
        refine ⟨.slice (some ⟨g0, 0, none⟩) (sorted ks).length c0, by simp [results, Try.results19, go_sem], some ⟨g0, 0, none⟩, c0, by rw [HNL.out], ?_, hb4.grown g4 hb4.size (fun k hk => by cases hk; omega)⟩
        rw [HNL.out]
        exact strs_of rfl (row_kept r3 g4 fun r e => by cases e; exact ⟨_, hK4, rfl⟩)
end RsK
end Go.Proofs.Ytieehjkmfmkfjaa
