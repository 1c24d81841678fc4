/-
  Resolve: the walk. Condition: the objects lie in memory, and have not too many symbols.
-/
import Derived.Test.YtlmblfkcmhgdaaaResX
namespace Go.Proofs.Ytlmblfkcmhgdaaa
open Go.RowKit Go.Maps Go.WideMaps
set_option linter.unusedVariables false
set_option linter.unusedSimpArgs false
namespace RsV
open OO OJ RsM RsI RsP RsR RsD RsS RsT RsN OCk
open OI hiding Mid Did
attribute [local go_sem] Oper.semAt_some
theorem frozen_same {w w' : World} {b : Nat} (h : w'.heap[b]? = w.heap[b]?) (o : Nat) : w'.frozen? ⟨b, o, none⟩ = w.frozen? ⟨b, o, none⟩ := by
  unfold World.frozen?
  rw [show w'.heap[(⟨b, o, none⟩ : Addr).block]? = w.heap[(⟨b, o, none⟩ : Addr).block]? from h]
set_option maxRecDepth 100000 in
set_option maxHeartbeats 16000000 in
theorem resolve_lo_ {w : World} {n₀ : Nat} {v : Value} {objs : List ObjV} (hn : n₀ ≤ w.heap.size) (ho : ObjsAt n₀ w v objs) (hw : ∀ o ∈ objs, o.Wf) (hm : objs.length ≤ 100000) (hms : ∀ o ∈ objs, o.ss.length ≤ maxLen) (hN : (flat objs).length ≤ 100000) :
    Calls Try.prog 6 #[v] w (ResLo objs w) := by
  have hmm := @run_makeMap Try.prog
  obtain ⟨p, c, rfl, hsl⟩ := ho
  have HO := Lib.hid (⟨p, c, rfl, hsl⟩ : ObjsAt n₀ w (.slice p objs.length c) objs)
  have HW := Lib.hid hw
  have HMS := Lib.hid hms
  have HM := Lib.hid (show objs.length ≤ maxLen by unfold maxLen; omega)
  clear hsl hw hms
  refine (callsIn_wide (n := 8)).1 (callsIn_of_wp_marks Try.func6 rfl trivial ?_ rfl)
  simp only [Try.ntmps6, List.size_toArray, List.length_cons, List.length_nil, Nat.reduceAdd, Nat.reduceSub, Array.replicate_succ, Array.replicate_zero, List.push_toArray, List.append_toArray, List.nil_append, List.cons_append]
  refine wpIn_wide.2 ?_
  have hb0 : Below w.heap.size w (((w.alloc (.cells #[.slice none 0 0] TR)).alloc (.cells #[.int .i64 0, .int .i64 0] TT)).alloc (.cells #[.int .i64 0] TE)) :=
    (((Below.refl _ _).alloc (Nat.le_refl _) _).alloc (by simp only [World.size_alloc]; omega) _).alloc (by simp only [World.size_alloc]; omega) _
  have ci := index_ (w := ((w.alloc (.cells #[.slice none 0 0] TR)).alloc (.cells #[.int .i64 0, .int .i64 0] TT)).alloc (.cells #[.int .i64 0] TE)) (n₀ := n₀) (by simp only [World.size_alloc]; omega) (ObjsAt.same HO.out (Same.of hb0 hn)) HW.out HM.out
  have x0 : (((w.alloc (.cells #[.slice none 0 0] TR)).alloc (.cells #[.int .i64 0, .int .i64 0] TT)).alloc (.cells #[.int .i64 0] TE)).heap[w.heap.size]? = some (.cells #[.slice none 0 0] TR (0, 0)) := by
    rw [Lib.alloc_old _ _ _ (by simp only [World.size_alloc]; omega), Lib.alloc_old _ _ _ (by simp only [World.size_alloc]; omega)]
    exact heap_alloc_new w _
  have x1 : (((w.alloc (.cells #[.slice none 0 0] TR)).alloc (.cells #[.int .i64 0, .int .i64 0] TT)).alloc (.cells #[.int .i64 0] TE)).heap[w.heap.size + 1]? = some (.cells #[.int .i64 0, .int .i64 0] TT (0, 0)) := by
    rw [Lib.alloc_old _ _ _ (by simp only [World.size_alloc]; omega)]
    have := heap_alloc_new (w.alloc (.cells #[.slice none 0 0] TR)) (.cells #[.int .i64 0, .int .i64 0] TT)
    rwa [World.size_alloc] at this
  have x2 : (((w.alloc (.cells #[.slice none 0 0] TR)).alloc (.cells #[.int .i64 0, .int .i64 0] TT)).alloc (.cells #[.int .i64 0] TE)).heap[w.heap.size + 2]? = some (.cells #[.int .i64 0] TE (0, 0)) := by
    have := heap_alloc_new ((w.alloc (.cells #[.slice none 0 0] TR)).alloc (.cells #[.int .i64 0, .int .i64 0] TT)) (.cells #[.int .i64 0] TE)
    simpa [World.size_alloc] using this
  have hsz : (((w.alloc (.cells #[.slice none 0 0] TR)).alloc (.cells #[.int .i64 0, .int .i64 0] TT)).alloc (.cells #[.int .i64 0] TE)).heap.size = w.heap.size + 3 := by simp
  have HB0 := Lib.hid hb0
  have X0 := Lib.hid x0
  have X1 := Lib.hid x1
  have X2 := Lib.hid x2
  have HZ := Lib.hid hsz
  clear hb0 x0 x1 x2 hsz
  generalize hni : noneFrom objs 0 = ni at *
  have HNI := Lib.hid hni
  clear hni
  by_cases hneg : 0 ≤ ni
  · have hge : decide ((0 : Int) ≤ ni) = true := decide_eq_true hneg
    go_wp2_with (go_at_call 9; (with_reducible refine ci.mono ?_); rintro e w1 ⟨rfl, hb1⟩; have HB1 := Lib.hid hb1; have y0 := (hb1.block _ (by rw [HZ.out]; omega)).trans X0.out; have y1 := (hb1.block _ (by rw [HZ.out]; omega)).trans X1.out; have y2 := (hb1.block _ (by rw [HZ.out]; omega)).trans X2.out; have k0 : w1.cell? ⟨w.heap.size, 0, none⟩ = some (.slice none 0 0) := Lib.cell_of_heap y0 0; have k1 : w1.cell? ⟨w.heap.size + 1, 0, none⟩ = some (.int .i64 0) := Lib.cell_of_heap y1 0; have k2 : w1.cell? ⟨w.heap.size + 1, 1, none⟩ = some (.int .i64 0) := Lib.cell_of_heap y1 1; have k3 : w1.cell? ⟨w.heap.size + 1 + 1, 0, none⟩ = some (.int .i64 0) := Lib.cell_of_heap y2 0; have f0 : w1.frozen? ⟨w.heap.size, 0, none⟩ = false := Lib.frozen_of_heap y0 0; have f1 : w1.frozen? ⟨w.heap.size + 1, 0, none⟩ = false := Lib.frozen_of_heap y1 0; have f2 : w1.frozen? ⟨w.heap.size + 1, 1, none⟩ = false := Lib.frozen_of_heap y1 1; have f3 : w1.frozen? ⟨w.heap.size + 1 + 1, 0, none⟩ = false := Lib.frozen_of_heap y2 0; have Y0 := Lib.hid y0; have Y1 := Lib.hid y1; have Y2 := Lib.hid y2; clear hb1 ci y0 y1 y2)
    have h4 := fin4_ Y0.out Y1.out Y2.out (.slice none 0 0) (.int .i64 ni) (.int .i64 0) (.int .i64 2)
    obtain ⟨q0, q1, q2, q3⟩ := h4.cells
    have H4 := Lib.hid h4
    clear h4
    show bodyPostM Fence.wide 8 Try.prog Try.f6 (ResLo objs w) Exit.ret _ (fin4 w1 w.heap.size (.slice none 0 0) (.int .i64 ni) (.int .i64 0) (.int .i64 2))
    generalize fin4 w1 w.heap.size (.slice none 0 0) (.int .i64 ni) (.int .i64 0) (.int .i64 2) = W4 at *
    refine ⟨.tuple #[.slice none 0 0, .agg #[.int .i64 ni, .int .i64 0], .int .i64 2], by simp [results, Try.results6, go_sem, q0, q1, q2, q3], .slice none 0 0, ni, 0, 2, rfl, ?_, ?_, tgts_lo_none _ _⟩
    · unfold Out
      rw [HNI.out, if_pos hneg]
      exact ⟨rfl, rfl, rfl, rfl⟩
    · exact H4.out.below (HB0.out.trans (HB1.out.mono (by rw [HZ.out]; omega))) (by have := HB1.out.size; rw [HZ.out] at this; omega)
  · go_upto_region 4 with (go_at_call 9; (with_reducible refine ci.mono ?_); rintro e w1 ⟨rfl, hb1⟩; have HB1 := Lib.hid hb1; clear hb1 ci)
    have hs1 := HB1.out.size
    rw [HZ.out] at hs1
    have hbw1 : Below w.heap.size w w1 := HB0.out.trans (HB1.out.mono (by rw [HZ.out]; omega))
    have cd := def2_ (w := w1) (n₀ := n₀) (by omega) (ObjsAt.same HO.out (Same.of hbw1 hn)) HW.out HM.out HMS.out hN
    have Y0 := Lib.hid ((HB1.out.block _ (by rw [HZ.out]; omega)).trans X0.out)
    have Y1 := Lib.hid ((HB1.out.block _ (by rw [HZ.out]; omega)).trans X1.out)
    have Y2 := Lib.hid ((HB1.out.block _ (by rw [HZ.out]; omega)).trans X2.out)
    have HBW1 := Lib.hid hbw1
    clear hbw1 HB1 HB0 X0 X1 X2 HZ
    cases hag : againL (flat objs) with
    | cons x l =>
      have HAG := Lib.hid hag
      rw [hag] at cd
      clear hag
      simp only [List.length_cons] at cd
      go_upto_region 6 with (go_at_call 11; (with_reducible refine cd.mono ?_); rintro e w3 ⟨qa, ca, rfl, -, hrow, hb3, hz3⟩; have HROW := Lib.hid hrow; have HB3 := Lib.hid hb3; clear hrow hb3 cd)
      obtain ⟨g, rfl, hg1, hg2, hg3, hg4⟩ : ∃ g, qa = some ⟨g, 0, none⟩ ∧ w1.heap.size + 4 ≤ g ∧ g < w3.heap.size ∧ w3.cell? ⟨g, 0, none⟩ = some (.int .i64 (x.i : Int)) ∧ w3.cell? ⟨g, 1, none⟩ = some (.int .i64 (x.k : Int)) := by
        rcases HROW.out.2 with ⟨h, _⟩ | ⟨g, cap, cur, h, hb, hg, _⟩
        · simp at h
        · simp only [Value.slice.injEq] at h
          obtain ⟨rfl, -, rfl⟩ := h
          have c0 := HROW.out.cells (g := g) rfl 0 (.int .i64 (x.i : Int)) rfl
          have c1 := HROW.out.cells (g := g) rfl 1 (.int .i64 (x.k : Int)) rfl
          rw [OO.add_plain, Nat.zero_add] at c0 c1
          exact ⟨g, rfl, hb, lt_heap hg, c0, c1⟩
      have z0 := (Lib.alloc_old w3 (.cells #[.map (some (w1.heap.size + 2))] TM) _ (by omega)).trans ((HB3.out.block _ (by omega)).trans Y0.out)
      have z1 := (Lib.alloc_old w3 (.cells #[.map (some (w1.heap.size + 2))] TM) _ (by omega)).trans ((HB3.out.block _ (by omega)).trans Y1.out)
      have z2 := (Lib.alloc_old w3 (.cells #[.map (some (w1.heap.size + 2))] TM) _ (by omega)).trans ((HB3.out.block _ (by omega)).trans Y2.out)
      have e0 := (World.cell?_alloc_lt w3 (.cells #[.map (some (w1.heap.size + 2))] TM) (⟨g, 0, none⟩ : Addr) hg2).trans hg3
      have e1 := (World.cell?_alloc_lt w3 (.cells #[.map (some (w1.heap.size + 2))] TM) (⟨g, 1, none⟩ : Addr) hg2).trans hg4
      have hbw : Below w.heap.size w (w3.alloc (.cells #[.map (some (w1.heap.size + 2))] TM)) := (HBW1.out.trans (HB3.out.mono (by omega))).alloc (by have := HB3.out.size; omega) _
      have hsw : w.heap.size ≤ (w3.alloc (.cells #[.map (some (w1.heap.size + 2))] TM)).heap.size := hbw.size
      have HBW := Lib.hid hbw
      have Z0 := Lib.hid z0
      have Z1 := Lib.hid z1
      have Z2 := Lib.hid z2
      have mixed : Try.prog.follows Departure.mixedOrders = true := by kernel_rfl
      have k0 := Lib.cell_of_heap z0 0
      have k1 := Lib.cell_of_heap z1 0
      have k2 := Lib.cell_of_heap z1 1
      have k3 := Lib.cell_of_heap z2 0
      have f0 := Lib.frozen_of_heap z0 0
      have f1 := Lib.frozen_of_heap z1 0
      have f2 := Lib.frozen_of_heap z1 1
      have f3 := Lib.frozen_of_heap z2 0
      simp only [List.getElem?_toArray, List.getElem?_cons_zero, List.getElem?_cons_succ] at k0 k1 k2 k3
      have n1 : ¬ w.heap.size + 1 = g := by omega
      clear z0 z1 z2 hg3 hg4 hbw
      generalize w3.alloc (.cells #[.map (some (w1.heap.size + 2))] TM) = w4 at *
      go_region
      go_wp2_with fail
      have h4 := (fin4_ Z0.out Z1.out Z2.out (.slice none 0 0) (.int .i64 (x.i : Int)) (.int .i64 (x.k : Int)) (.int .i64 4)).drew
      obtain ⟨q0, q1, q2, q3⟩ := h4.cells
      have H4 := Lib.hid h4
      clear h4
      show bodyPostM Fence.wide 8 Try.prog Try.f6 (ResLo objs w) Exit.ret _ (fin4 w4 w.heap.size (.slice none 0 0) (.int .i64 (x.i : Int)) (.int .i64 (x.k : Int)) (.int .i64 4)).drew
      generalize (fin4 w4 w.heap.size (.slice none 0 0) (.int .i64 (x.i : Int)) (.int .i64 (x.k : Int)) (.int .i64 4)).drew = W4 at *
      refine ⟨.tuple #[.slice none 0 0, .agg #[.int .i64 (x.i : Int), .int .i64 (x.k : Int)], .int .i64 4], by simp [results, Try.results6, go_sem, q0, q1, q2, q3], .slice none 0 0, x.i, x.k, 4, rfl, ?_, ?_, tgts_lo_none _ _⟩
      · unfold Out
        rw [HNI.out, if_neg (by omega), HAG.out]
        exact ⟨rfl, rfl, rfl, rfl⟩
      · exact H4.out.below HBW.out hsw
    | nil =>
      have HAG := Lib.hid hag
      rw [hag] at cd
      clear hag
      simp only [List.length_nil] at cd
      obtain ⟨i0, hi, hz0, hz1, hz2⟩ := info_parts infoR
      go_wp2_with (first
        | (go_at_call 11; (with_reducible refine cd.mono ?_); rintro e w3 ⟨qa, ca, rfl, hmap, -, hb3, hz3⟩; have HMAP := Lib.hid hmap; have HB3 := Lib.hid hb3; clear hmap hb3 cd)
        | (at_make; refine wpList_make_full _ rfl _ _ TR rfl (w3.heap.size + 1) TS i0 (.slice none 0 0) 1 Try.underlying35 hi hz0 hz1 .i64 .i64 (objs.length : Int) (objs.length : Int) objs.length rfl rfl rfl rfl (by rw [hz2]; omega) (by unfold maxLen; omega) (by simp) ?_; intro w5 hout hg5; have HOUT := Lib.hid hout; have HG5 := Lib.hid hg5; clear hout hg5)
        | (go_at_call 12; (with_reducible refine (symbols_ _ _ _ _).mono ?_); rintro e w7 ⟨rfl, hw7⟩; have HW7 := Lib.hid hw7; clear hw7))
      have h3z := HB3.out.size
      have h5z := HG5.out.size
      simp only [World.size_alloc] at h5z
      have hO5 : w3.heap.size + 1 < w5.heap.size := by
        have := (HOUT.out.lt _ rfl).2
        simpa only [World.size_alloc] using this
      have hbw3 : Below w.heap.size w w3 := HBW1.out.trans (HB3.out.mono (by omega))
      have hb5 : Below w.heap.size w w5 := (hbw3.alloc hbw3.size _).grown HG5.out (by simp only [World.size_alloc]; omega) (fun k hk => by cases hk)
      have hs7 : w7.heap.size = w5.heap.size + 2 := by rw [HW7.out]; simp
      have low7 : ∀ k, k < w5.heap.size → w7.heap[k]? = w5.heap[k]? := fun k hk => by
        rw [HW7.out, Lib.alloc_old _ _ _ (by simp only [World.size_alloc]; omega), Lib.alloc_old _ _ _ hk]
      have low5 : ∀ k, k < w3.heap.size → w5.heap[k]? = w3.heap[k]? := fun k hk => (HG5.out.block k (by simp only [World.size_alloc]; omega) (by simp)).trans (Lib.alloc_old _ _ _ hk)
      have hb7 : Below w.heap.size w w7 := by
        rw [HW7.out]
        exact (hb5.alloc hb5.size _).alloc (by simp only [World.size_alloc]; have := hb5.size; omega) _
      have hlay : Lay w w3.heap.size (w1.heap.size + 2) w5.heap.size w7.heap.size := ⟨by omega, by omega, by omega, by omega⟩
      have xa : w7.heap[w3.heap.size]? = some (.cells #[.map (some (w1.heap.size + 2))] TM (0, 0)) :=
        (low7 _ (by omega)).trans ((HG5.out.block _ (by simp only [World.size_alloc]; omega) (by simp)).trans (heap_alloc_new w3 _))
      have xb : w7.heap[w5.heap.size]? = some (.cells #[.slice (some ⟨w3.heap.size + 1, 0, none⟩) objs.length objs.length] TR (0, 0)) := by
        rw [HW7.out, Lib.alloc_old _ _ _ (by simp only [World.size_alloc]; omega)]
        exact heap_alloc_new w5 _
      have xs : w7.heap[w5.heap.size + 1]? = some (.cells #[.slice p objs.length c] 22 (0, 0)) := by
        rw [HW7.out]
        have := heap_alloc_new (w5.alloc (.cells #[.slice (some ⟨w3.heap.size + 1, 0, none⟩) objs.length objs.length] TR)) (.cells #[.slice p objs.length c] 22)
        rwa [World.size_alloc] at this
      have gr7 : w3.grownBy w7 none := ⟨by rw [HW7.out]; exact HG5.out.os, by rw [HW7.out]; exact HG5.out.tape, by rw [HW7.out]; exact HG5.out.output, by omega, fun k hk _ => (low7 k (by omega)).trans (low5 k hk)⟩
      have g57 : w5.grownBy w7 none := ⟨by rw [HW7.out]; rfl, by rw [HW7.out]; rfl, by rw [HW7.out]; rfl, by omega, fun k hk _ => low7 k hk⟩
      have xm := HMAP.out.kept gr7 (by simp)
      have hout := HOUT.out
      simp only [World.size_alloc] at hout
      have xo := hout.kept g57 (.inr (by simp [Value.ownBlock]))
      have hvs : (madeCells (Value.slice none 0 0).cells (objs.length * 1)).toList = List.replicate objs.length (.slice none 0 0) := made_nil _
      rw [hvs] at xo
      have hri : RI w (flat objs) w3.heap.size (w1.heap.size + 2) w5.heap.size w7.heap.size objs.length [] w7 := by
        refine ⟨(low7 _ (by omega)).trans ((low5 _ (by omega)).trans ((HB3.out.block _ (by omega)).trans Y0.out)), (low7 _ (by omega)).trans ((low5 _ (by omega)).trans ((HB3.out.block _ (by omega)).trans Y1.out)), (low7 _ (by omega)).trans ((low5 _ (by omega)).trans ((HB3.out.block _ (by omega)).trans Y2.out)), xa, xb, xm, ⟨_, by simp, xo, fun i v hv => ?_, fun i j u v hij hu hv => ?_⟩, fun x hx => by simp at hx, hb7, Nat.le_refl _⟩
        · obtain ⟨-, rfl⟩ := rep_get hv
          exact World.ownsRow_nil _ _ _ _
        · obtain ⟨-, rfl⟩ := rep_get hu
          exact .inl rfl
      have hbox : w7.cell? ⟨w5.heap.size + 1, 0, none⟩ = some (.slice p objs.length c) := Lib.cell_of_heap xs 0
      have hobj : ObjsAt n₀ w7 (.slice p objs.length c) objs := ObjsAt.same HO.out (Same.of hb7 hn)
      have HRI := Lib.hid hri
      have HLAY := Lib.hid hlay
      clear HW7 hbw3 hb5 low7 low5 hb7 xa xb xs gr7 g57 xm hout xo hvs hri HOUT HG5 HMAP HB3 Y0 Y1 Y2 HBW1 hlay
      refine (wpIn_wide (n := 8)).1 ?_
      refine range2_ (α := Fin (flat objs).length) (w0 := w7) rfl (by omega) (gf := 15) (lb := #[.pointer (some ⟨w5.heap.size + 1, 0, none⟩)]) rfl trivial (enters_of Try.func15 (by kernel_rfl) rfl)
        (iter_ (8 - 1) (by omega) (w5.heap.size + 1) n₀ _ objs HM.out HMS.out w7 (by omega) (by omega) hbox hobj) (fun h k => h.trans k) (fun W l o o' hl _ _ _ => Kp.put W l o' (by omega) (by omega)) (Below.refl _ _) (fun _ => rfl)
        (fun pre W => RI w (flat objs) w3.heap.size (w1.heap.size + 2) w5.heap.size w7.heap.size objs.length (pre.map ent) W) (IX w objs) (fun s W W' row h hg hr => RI.own HLAY.out (s.map ent) W W' row h hg hr) (fun c => IX.own (by omega) c) HRI.out
        (fun x b c W => BX w3.heap.size w7.heap.size (ent x) b c W) (fun x b c => BX.own (by omega) (by omega) _ _ _) ?ab ?done ?stop
      case ab =>
        clear hbox hobj HRI
        apply Exists.intro
        constructor
        · intro l pre x W K hI hK
          gi_wp2
          have kb : Below W.heap.size W ((W.alloc (.cells #[.int .i64 ((ent x).i : Int), .int .i64 ((ent x).k : Int)] TT)).alloc (.cells #[.string (ent x).s.name, .int .i64 (ent x).s.sect, .int .i64 (ent x).s.val, .int .i64 (ent x).s.frame, .bool (ent x).s.glob] 34)) := ((Below.refl _ _).alloc (Nat.le_refl _) _).alloc (by simp) _
          have kf := (((KeepsOthers.alloc W (.cells #[.int .i64 ((ent x).i : Int), .int .i64 ((ent x).k : Int)] TT)).trans (KeepsOthers.alloc _ (.cells #[.string (ent x).s.name, .int .i64 (ent x).s.sect, .int .i64 (ent x).s.val, .int .i64 (ent x).s.frame, .bool (ent x).s.glob] 34))).from w7.heap.size)
          have hz := hI.zz
          have kp : Kp n₀ (w5.heap.size + 1) W _ := Kp.of kb (by omega) (by omega)
          have ki := RI.below HLAY.out hI kb
          have kv : BX w3.heap.size w7.heap.size (ent x) W.heap.size (W.heap.size + 1) ((W.alloc (.cells #[.int .i64 ((ent x).i : Int), .int .i64 ((ent x).k : Int)] TT)).alloc (.cells #[.string (ent x).s.name, .int .i64 (ent x).s.sect, .int .i64 (ent x).s.val, .int .i64 (ent x).s.frame, .bool (ent x).s.glob] 34)) :=
            ⟨⟨(Lib.alloc_old _ _ _ (by simp)).trans (heap_alloc_new _ _), by have := heap_alloc_new (W.alloc (.cells #[.int .i64 ((ent x).i : Int), .int .i64 ((ent x).k : Int)] TT)) (.cells #[.string (ent x).s.name, .int .i64 (ent x).s.sect, .int .i64 (ent x).s.val, .int .i64 (ent x).s.frame, .bool (ent x).s.glob] 34); rwa [World.size_alloc] at this, hz, by omega⟩,
             low_rows hI.rows (by omega) kb, by omega⟩
          clear kb hz
          generalize hb : W.heap.size = b at kv ⊢
          generalize hd : b + 1 = d at kv ⊢
          exact hK b d _ kf kp ki kv
        · intro l pre x b d W hI hV hlt
          have hz := hI.zz
          have hbz := hI.bel.size
          have l1 := HLAY.out.m
          have l2 := HLAY.out.a
          have l3 := HLAY.out.b
          have l4 := HLAY.out.z
          have ka : W.cell? ⟨w3.heap.size, 0, none⟩ = some (.map (some (w1.heap.size + 2))) := Lib.cell_of_heap hI.a 0
          have b0 : W.cell? ⟨b, 0, none⟩ = some (.int .i64 ((ent x).i : Int)) := Lib.cell_of_heap hV.v.v0 0
          have b1 : W.cell? ⟨b, 1, none⟩ = some (.int .i64 ((ent x).k : Int)) := Lib.cell_of_heap hV.v.v0 1
          have d0 : W.cell? ⟨d, 0, none⟩ = some (.string (ent x).s.name) := Lib.cell_of_heap hV.v.v1 0
          have d1 : W.cell? ⟨d, 1, none⟩ = some (.int .i64 (ent x).s.sect) := Lib.cell_of_heap hV.v.v1 1
          have d2 : W.cell? ⟨d, 2, none⟩ = some (.int .i64 (ent x).s.val) := Lib.cell_of_heap hV.v.v1 2
          have d3 : W.cell? ⟨d, 3, none⟩ = some (.int .i64 (ent x).s.frame) := Lib.cell_of_heap hV.v.v1 3
          have d4 : W.cell? ⟨d, 4, none⟩ = some (.bool (ent x).s.glob) := Lib.cell_of_heap hV.v.v1 4
          have bl := lt_heap hV.v.v0
          have dl := lt_heap hV.v.v1
          obtain ⟨oo, hoo, hss⟩ := mem_flat (List.getElem_mem x.2)
          have hnm : (ent x).s.name.size ≤ maxLen := ((HW.out oo (List.mem_of_getElem? hoo)).ss _ (List.mem_of_getElem? hss)).name
          have hxi : (ent x).i < objs.length := (List.getElem?_eq_some_iff.1 hoo).1
          have KT := target_ (ent x) hI.map hnm
          have HI := Lib.hid hI
          have HV := Lib.hid hV
          have HPRE := Lib.hid (show (pre ++ [x]).map ent = pre.map ent ++ [ent x] by simp)
          have HLEN := Lib.hid hlt
          obtain ⟨r, hr⟩ : ∃ r, r = tgI (flat objs) (ent x) := ⟨_, rfl⟩
          rw [← hr] at KT
          have HBAD := Lib.hid (show RsT.bad (flat objs) (ent x) = !r.2.2 by unfold RsT.bad; rw [← hr])
          have HTGS := Lib.hid (show tgs (flat objs) (ent x) = (r.1, r.2.1) by unfold tgs; rw [← hr])
          obtain ⟨ta, tb, hh⟩ := r
          simp only at KT HBAD HTGS
          clear hI hV hoo hss hlt hr
          have HY : Hid (ent x = ent x) := Lib.hid rfl
          generalize hy : ent x = y at *
          have HYX := Lib.hid hy
          clear hy HY
          cases hh with
          | false =>
            gi_wp2_with (refine ⟨trivial, ?_⟩; gi_at_call 13; (with_reducible refine (CallsIn.inRound l (callsIn_wide.2 KT)).mono ?_); rintro e W3 ⟨rfl, hb3⟩; have HB3 := Lib.hid hb3; have m0 := (hb3.block b bl).trans HV.out.v.v0; have e0 : W3.cell? ⟨b, 0, none⟩ = some (.int .i64 (y.i : Int)) := Lib.cell_of_heap m0 0; have e1 : W3.cell? ⟨b, 1, none⟩ = some (.int .i64 (y.k : Int)) := Lib.cell_of_heap m0 1; have bl3 := lt_heap m0; clear hb3 m0)
            have hw9 : Below W.heap.size W (W3.alloc (.cells #[.int .i64 ta, .int .i64 tb] TT)) := HB3.out.alloc HB3.out.size _
            have z0 := (hw9.block _ (by omega)).trans HI.out.c0
            have z1 := (hw9.block _ (by omega)).trans HI.out.c1
            have z2 := (hw9.block _ (by omega)).trans HI.out.c2
            have g0 := (World.cell?_alloc_lt W3 (.cells #[.int .i64 ta, .int .i64 tb] TT) (⟨b, 0, none⟩ : Addr) bl3).trans e0
            have g1 := (World.cell?_alloc_lt W3 (.cells #[.int .i64 ta, .int .i64 tb] TT) (⟨b, 1, none⟩ : Addr) bl3).trans e1
            have Z0 := Lib.hid z0
            have Z1 := Lib.hid z1
            have Z2 := Lib.hid z2
            have HW9 := Lib.hid hw9
            have mixed : Try.prog.follows Departure.mixedOrders = true := by kernel_rfl
            have k0 := Lib.cell_of_heap z0 0
            have k1 := Lib.cell_of_heap z1 0
            have k2 := Lib.cell_of_heap z1 1
            have k3 := Lib.cell_of_heap z2 0
            have f0 := Lib.frozen_of_heap z0 0
            have f1 := Lib.frozen_of_heap z1 0
            have f2 := Lib.frozen_of_heap z1 1
            have f3 := Lib.frozen_of_heap z2 0
            simp only [List.getElem?_toArray, List.getElem?_cons_zero, List.getElem?_cons_succ] at k0 k1 k2 k3
            have n1 : ¬ w.heap.size + 1 = b := by have := HV.out.v.lb; omega
            have n2 : ¬ w.heap.size = b := by have := HV.out.v.lb; omega
            have n3 : ¬ w.heap.size + 2 = b := by have := HV.out.v.lb; omega
            clear z0 z1 z2 hw9 e0 e1
            generalize W3.alloc (.cells #[.int .i64 ta, .int .i64 tb] TT) = W9 at *
            gi_region_with_o (fail)
            all_goals gi_wp2
            all_goals
              have h4 := (fin4_ Z0.out Z1.out Z2.out (.slice none 0 0) (.int .i64 (y.i : Int)) (.int .i64 (y.k : Int)) (.int .i64 3)).drew
              have hsz9 := HW9.out.size
              refine (show KeepsFrom w7.heap.size W (fin4 W9 w.heap.size (.slice none 0 0) (.int .i64 (y.i : Int)) (.int .i64 (y.k : Int)) (.int .i64 3)).drew ∧ IX w objs .ret (pre ++ [x]) (fin4 W9 w.heap.size (.slice none 0 0) (.int .i64 (y.i : Int)) (.int .i64 (y.k : Int)) (.int .i64 3)).drew from ⟨⟨by rw [h4.sz]; exact hsz9, fun k o hk ho hc => ?_⟩, rfl, pre, x, rfl, HI.out.ok, ?_, h4.h0, ?_, h4.h2, h4.below (HI.out.bel.trans (HW9.out.mono hbz)) (by omega)⟩)
              · exact (h4.oth k (by omega) (by omega) (by omega)).trans ((HW9.out.block k (lt_heap ho)).trans ho)
              · rw [HYX.out, HBAD.out]; rfl
              · rw [HYX.out]; exact h4.h1
          | true =>
            gi_wp2_with (refine ⟨trivial, ?_⟩; gi_at_call 13; (with_reducible refine (CallsIn.inRound l (callsIn_wide.2 KT)).mono ?_); rintro e W3 ⟨rfl, hb3⟩; have HB3 := Lib.hid hb3; have m0 := (hb3.block b bl).trans HV.out.v.v0; have e0 : W3.cell? ⟨b, 0, none⟩ = some (.int .i64 (y.i : Int)) := Lib.cell_of_heap m0 0; have e1 : W3.cell? ⟨b, 1, none⟩ = some (.int .i64 (y.k : Int)) := Lib.cell_of_heap m0 1; have bl3 := lt_heap m0; clear hb3 m0)
            have hw9 : Below W.heap.size W (W3.alloc (.cells #[.int .i64 ta, .int .i64 tb] TT)) := HB3.out.alloc HB3.out.size _
            have hri := RI.below HLAY.out HI.out hw9
            obtain ⟨vs, hv⟩ := hri.rows
            have hvl : y.i < vs.length := by rw [hv.len]; exact hxi
            have hvi := List.getElem?_eq_getElem hvl
            have hrow := hv.row _ _ hvi
            obtain ⟨qv, mv, kv, hqv⟩ := row_slice hrow
            have hcv : (W3.alloc (.cells #[.int .i64 ta, .int .i64 tb] TT)).cell? ⟨w3.heap.size + 1, y.i, none⟩ = some (.slice qv mv kv) := by
              rw [hv.out.cellAt y.i (by omega), hvi, hqv]
            have hfv : (W3.alloc (.cells #[.int .i64 ta, .int .i64 tb] TT)).frozen? ⟨w3.heap.size + 1, y.i, none⟩ = false := hv.out.frozenAt y.i
            have hOz : w3.heap.size + 1 < W.heap.size := by omega
            have hlowv : ∀ k, (Value.slice qv mv kv).ownBlock = some k → w7.heap.size ≤ k ∧ k < b := fun k hk => by
              refine ⟨(hrow.lt k (by rw [hqv]; exact hk)).1, ?_⟩
              cases qv with
              | none => cases hk
              | some q =>
                have hk : q.block = k := Option.some.inj hk
                subst hk
                exact HV.out.low y.i q mv kv ((hw9.cell (p := ⟨w3.heap.size + 1, y.i, none⟩) hOz).symm.trans hcv)
            rw [hqv] at hrow hvi
            have hbb := HV.out.v.lb
            have h9 := (hw9.block _ bl).trans HV.out.v.v0
            have h11 := heap_alloc_new W3 (.cells #[.int .i64 ta, .int .i64 tb] TT)
            have hs3 := HB3.out.size
            have hz3 := hw9.size
            have hlen2 : (RsT.rowAt (flat objs) (pre.map ent) y.i).length ≤ 100000 := Nat.le_trans (rowAt_le _ _ _) (by rw [List.length_map]; have := HLEN.out; omega)
            have hsz9 : (W3.alloc (.cells #[.int .i64 ta, .int .i64 tb] TT)).heap.size = W3.heap.size + 1 := World.size_alloc _ _
            have HROW := Lib.hid hrow
            have HV9 := Lib.hid hv
            have HVI := Lib.hid hvi
            have HB := Lib.hid (show (W3.alloc (.cells #[.int .i64 ta, .int .i64 tb] TT)).drew.heap[w5.heap.size]? = _ from hri.b)
            have HB9 := Lib.hid (show (W3.alloc (.cells #[.int .i64 ta, .int .i64 tb] TT)).drew.heap[b]? = _ from h9)
            have HC := Lib.hid (show (W3.alloc (.cells #[.int .i64 ta, .int .i64 tb] TT)).drew.heap[W3.heap.size]? = _ from h11)
            have HCV := Lib.hid (show (W3.alloc (.cells #[.int .i64 ta, .int .i64 tb] TT)).drew.cell? ⟨w3.heap.size + 1, y.i, none⟩ = _ from hcv)
            have HFV := Lib.hid (show (W3.alloc (.cells #[.int .i64 ta, .int .i64 tb] TT)).drew.frozen? ⟨w3.heap.size + 1, y.i, none⟩ = _ from hfv)
            have HRI9 := Lib.hid hri
            have HW9 := Lib.hid hw9
            have hb3' : b < W3.heap.size := bl3
            clear hrow hv hvi h9 h11 hcv hfv hri hw9 e0 e1 hqv
            generalize W3.alloc (.cells #[.int .i64 ta, .int .i64 tb] TT) = W9 at *
            have hz9 : w7.heap.size ≤ W9.drew.heap.size := by show _ ≤ W9.heap.size; omega
            have hB1 : w5.heap.size < W9.drew.heap.size := by show _ < W9.heap.size; omega
            have hb1 : b < W9.drew.heap.size := by show _ < W9.heap.size; omega
            have hc1 : W3.heap.size < W9.drew.heap.size := by show _ < W9.heap.size; omega
            have hO1 : w3.heap.size + 1 < W9.drew.heap.size := by show _ < W9.heap.size; omega
            have hB2 : (Value.slice qv mv kv).ownBlock ≠ some w5.heap.size := fun e => by have := hlowv _ e; omega
            have hb2 : (Value.slice qv mv kv).ownBlock ≠ some b := fun e => by have := hlowv _ e; omega
            have hc2 : (Value.slice qv mv kv).ownBlock ≠ some W3.heap.size := fun e => by have := hlowv _ e; omega
            have hO2 : (Value.slice qv mv kv).ownBlock ≠ some (w3.heap.size + 1) := fun e => by have := hlowv _ e; omega
            have hx0 : (0 : Int) ≤ (y.i : Int) := by omega
            have HS7 := Lib.hid hs7
            have HSZ9 := Lib.hid hsz9
            clear hs7 hsz9
            refine reg14_ (O := w3.heap.size + 1) (base := w7.heap.size) (n := objs.length) (b := b) (xi := y.i) (ta := ta) (tb := tb) (v := .slice qv mv kv) (m := (RsT.rowAt (flat objs) (pre.map ent) y.i).length) (xs := pairCells (RsT.rowAt (flat objs) (pre.map ent) y.i)) (by kernel_rfl) (ahead_of (by kernel_rfl)) rfl ?step14 ?done14
            case step14 =>
              intro i op hop L a W1 hs h0 haft hI
              have hi : i < 13 := (Array.getElem?_eq_some_iff.1 hop).1
              have h61 : (61 : Nat) = 61 := rfl
              match i, hi with
                | 0, _ =>
                  cases hop
                  refine opIn_ rfl rfl ?_
                  have t8 : a.tmps[8]?.getD undef = .pointer (some ⟨w5.heap.size, 0, none⟩) := (Array.getD_eq_getD_getElem?).symm.trans ((hI.oth 8 (by omega)).trans rfl)
                  have c8 : W1.cell? ⟨w5.heap.size, 0, none⟩ = some (.slice (some ⟨w3.heap.size + 1, 0, none⟩) objs.length objs.length) := Lib.cell_of_heap ((hI.same _ hB1 (by omega) hB2).trans HB.out) 0
                  have HI2 := Lib.hid hI
                  clear hI
                  go_simp
                  exact HI2.out.next hs h61 0 (by omega) (by omega) (by omega) _ rfl
                | 1, _ =>
                  cases hop
                  refine opIn_ rfl rfl ?_
                  have t9 : a.tmps[9]?.getD undef = .pointer (some ⟨b, 0, none⟩) := (Array.getD_eq_getD_getElem?).symm.trans ((hI.oth 9 (by omega)).trans rfl)
                  have HI2 := Lib.hid hI
                  clear hI
                  go_simp
                  exact HI2.out.next hs h61 1 (by omega) (by omega) (by omega) _ rfl
                | 2, _ =>
                  cases hop
                  refine opIn_ rfl rfl ?_
                  have t48 : a.tmps[48]?.getD undef = _ := hI.slot 1 (by omega) (by omega) (haft ⟨1, .data⟩ (by simp) rfl)
                  simp only [val14] at t48
                  have c9 : W1.cell? ⟨b, 0, none⟩ = some (.int .i64 (y.i : Int)) := Lib.cell_of_heap ((hI.same _ hb1 (by omega) hb2).trans HB9.out) 0
                  have HI2 := Lib.hid hI
                  clear hI
                  go_simp
                  exact HI2.out.next hs h61 2 (by omega) (by omega) (by omega) _ rfl
                | 3, _ =>
                  cases hop
                  refine opIn_ rfl rfl ?_
                  have t8 : a.tmps[8]?.getD undef = .pointer (some ⟨w5.heap.size, 0, none⟩) := (Array.getD_eq_getD_getElem?).symm.trans ((hI.oth 8 (by omega)).trans rfl)
                  have c8 : W1.cell? ⟨w5.heap.size, 0, none⟩ = some (.slice (some ⟨w3.heap.size + 1, 0, none⟩) objs.length objs.length) := Lib.cell_of_heap ((hI.same _ hB1 (by omega) hB2).trans HB.out) 0
                  have HI2 := Lib.hid hI
                  clear hI
                  go_simp
                  exact HI2.out.next hs h61 3 (by omega) (by omega) (by omega) _ rfl
                | 4, _ =>
                  cases hop
                  refine opIn_ rfl rfl ?_
                  have t9 : a.tmps[9]?.getD undef = .pointer (some ⟨b, 0, none⟩) := (Array.getD_eq_getD_getElem?).symm.trans ((hI.oth 9 (by omega)).trans rfl)
                  have HI2 := Lib.hid hI
                  clear hI
                  go_simp
                  exact HI2.out.next hs h61 4 (by omega) (by omega) (by omega) _ rfl
                | 5, _ =>
                  cases hop
                  refine opIn_ rfl rfl ?_
                  have t51 : a.tmps[51]?.getD undef = _ := hI.slot 4 (by omega) (by omega) (haft ⟨4, .data⟩ (by simp) rfl)
                  simp only [val14] at t51
                  have c9 : W1.cell? ⟨b, 0, none⟩ = some (.int .i64 (y.i : Int)) := Lib.cell_of_heap ((hI.same _ hb1 (by omega) hb2).trans HB9.out) 0
                  have HI2 := Lib.hid hI
                  clear hI
                  go_simp
                  exact HI2.out.next hs h61 5 (by omega) (by omega) (by omega) _ rfl
                | 6, _ =>
                  cases hop
                  refine opIn_ rfl rfl ?_
                  have t50 : a.tmps[50]?.getD undef = _ := hI.slot 3 (by omega) (by omega) (haft ⟨3, .data⟩ (by simp) rfl)
                  simp only [val14] at t50
                  have t52 : a.tmps[52]?.getD undef = _ := hI.slot 5 (by omega) (by omega) (haft ⟨5, .data⟩ (by simp) rfl)
                  simp only [val14] at t52
                  have HI2 := Lib.hid hI
                  clear hI
                  go_simp
                  exact HI2.out.next hs h61 6 (by omega) (by omega) (by omega) _ rfl
                | 7, _ =>
                  cases hop
                  refine opIn_ rfl rfl ?_
                  have t53 : a.tmps[53]?.getD undef = _ := hI.slot 6 (by omega) (by omega) (haft ⟨6, .data⟩ (by simp) rfl)
                  simp only [val14] at t53
                  have c7 : W1.cell? ⟨w3.heap.size + 1, y.i, none⟩ = some (.slice qv mv kv) := by
                    have h12 : L.getD 12 false = false := by
                      cases e : L.getD 12 false with
                      | false => rfl
                      | true => have := (hI.o1 (hI.o2 e)).2; rw [h0] at this; cases this
                    exact (cell_same (hI.outer h12 hO1 hO2) _).trans HCV.out
                  have HI2 := Lib.hid hI
                  clear hI
                  go_simp
                  exact HI2.out.next hs h61 7 (by omega) (by omega) (by omega) _ rfl
                | 8, _ =>
                  cases hop
                  refine opIn_ rfl rfl ?_
                  have t11 : a.tmps[11]?.getD undef = .pointer (some ⟨W3.heap.size, 0, none⟩) := (Array.getD_eq_getD_getElem?).symm.trans ((hI.oth 11 (by omega)).trans rfl)
                  have c11 : W1.cell? ⟨W3.heap.size, 0, none⟩ = some (.int .i64 ta) := Lib.cell_of_heap ((hI.same _ hc1 (by omega) hc2).trans HC.out) 0
                  have c12 : W1.cell? ⟨W3.heap.size, 1, none⟩ = some (.int .i64 tb) := Lib.cell_of_heap ((hI.same _ hc1 (by omega) hc2).trans HC.out) 1
                  have HI2 := Lib.hid hI
                  clear hI
                  go_simp
                  exact HI2.out.next hs h61 8 (by omega) (by omega) (by omega) _ rfl
                | 9, _ =>
                  cases hop
                  obtain ⟨hw, hN⟩ := hI.next9 hs h61 h0
                  subst hw
                  refine opIn_ rfl rfl ?_
                  have t55 : a.tmps[55]?.getD undef = _ := hI.slot 8 (by omega) (by omega) (haft ⟨8, .data⟩ (by simp) rfl)
                  simp only [val14] at t55
                  have HI2 := Lib.hid hN
                  clear hI hN
                  go_simp
                  exact HI2.out
                | 10, _ =>
                  cases hop
                  have e9 := haft ⟨9, .data⟩ (by simp) rfl
                  have e7 := haft ⟨7, .data⟩ (by simp) rfl
                  have hw := hI.w1 e9 h0
                  have s7 : a.eval (.tmp 54) = .slice qv mv kv := hI.f 7 (by omega) (by omega) e7
                  have s9 : a.eval (.tmp 56) = .slice (some ⟨W9.heap.size, 0, none⟩) 1 1 := hI.f 9 (by omega) (by omega) e9
                  obtain ⟨i0, hi, hz0, hz1, hz2⟩ := info_parts infoT
                  obtain ⟨v', w', hrun, hown', hgrow', -, hat'⟩ := run_append_own_at (P := Try.prog) (W9.drew.alloc (.cells #[.int .i64 ta, .int .i64 tb] TT)) w7.heap.size TS TS TT i0 (tgtV 0 0) 2 16 Try.underlying41 hi hz0 hz1 hz2 rfl (by decide) (.slice qv mv kv) _ _ (HROW.out.drew.alloc _) ⟨W9.heap.size, 0, none⟩ 1 1 [.int .i64 ta, .int .i64 tb] rfl (two_new W9.drew _ _ _) (two_one _ _) (by unfold maxLen; omega) (by omega) (by simp only [World.size_alloc]; exact Nat.le_succ_of_le hz9)
                  rw [← hw] at hrun hgrow'
                  refine opIn_val (v := v') (w' := w') rfl rfl (by simp [Oper.about, resolve, Target.leads, Sem.run_pure]) (by intro c h; cases h) (by simp [execOp, resolve, invoke, builtin, s7, s9, hrun, Result.andThen]) ?_
                  rw [hw] at hgrow'
                  exact hI.next10 hs h61 e9 e7 h0 ⟨hown', hgrow', hat'⟩
                | 11, _ =>
                  cases hop
                  refine opIn_ rfl rfl ?_
                  have t47 : a.tmps[47]?.getD undef = _ := hI.slot 0 (by omega) (by omega) (haft ⟨0, .data⟩ (by simp) rfl)
                  simp only [val14] at t47
                  have t49 : a.tmps[49]?.getD undef = _ := hI.slot 2 (by omega) (by omega) (haft ⟨2, .data⟩ (by simp) rfl)
                  simp only [val14] at t49
                  have HI2 := Lib.hid hI
                  clear hI
                  go_simp
                  exact HI2.out.next hs h61 11 (by omega) (by omega) (by omega) _ rfl
                | 12, _ =>
                  cases hop
                  have e10 := haft ⟨10, .data⟩ (by simp) rfl
                  obtain ⟨v', w', hA, ht, hw⟩ := hI.w2 e10
                  rw [h0] at hw
                  simp only [Bool.false_eq_true, if_false] at hw
                  obtain ⟨q', m', k', rfl⟩ := row_slice hA.own
                  have t57 : a.tmps[57]?.getD undef = _ := (Array.getD_eq_getD_getElem?).symm.trans ht
                  have t58 : a.tmps[58]?.getD undef = _ := hI.slot 11 (by omega) (by omega) (haft ⟨11, .data⟩ (by simp) rfl)
                  simp only [val14] at t58
                  have ho := hI.outer h0 hO1 hO2
                  have c7 : W1.cell? ⟨w3.heap.size + 1, y.i, none⟩ = some (.slice qv mv kv) := (cell_same ho _).trans HCV.out
                  have c8 : W1.frozen? ⟨w3.heap.size + 1, y.i, none⟩ = false := (frozen_same ho _).trans HFV.out
                  have HI2 := Lib.hid (hI.next12 hs e10 h0 ht)
                  clear hI hA ho hw
                  refine opIn_ rfl rfl ?_
                  go_simp
                  exact HI2.out
                | i + 13, h => exact absurd h (by omega)
            case done14 =>
              intro L a W1 hall hI
              obtain ⟨v', w', hA, -, hw⟩ := hI.w2 (hall 10 (by omega))
              rw [hall 12 (by omega)] at hw
              simp only [if_true] at hw
              have HA := Lib.hid hA
              have HWW := Lib.hid hw
              clear hI hall hA hw
              gi_wp2
              have hs7 := HS7.out
              have hz9' : w7.heap.size ≤ W9.heap.size := hz9
              have hkf := next_keeps (A := w3.heap.size) HROW.out hz9' (by omega) HA.out y.i
              have hlw := fun k hk hne => next_low (A := w3.heap.size) (i := y.i) HROW.out hz9' HA.out k hk hne
              have hbad : RsT.bad (flat objs) y = false := by rw [HBAD.out]; rfl
              have hri := ri_next HLAY.out HRI9.out HV9.out HVI.out HA.out HTGS.out hbad
              have hww := HWW.out
              rw [← hww] at hkf hlw hri
              have hkz := hkf.size
              have hz1 := HW9.out.size
              refine ⟨⟨by omega, fun k o hk ho hc => hkf.same k o hk ((HW9.out.block k (lt_heap ho)).trans ho) hc⟩, ⟨fun k hk => (hlw k (by omega) (by omega)).trans (HW9.out.block k (by omega)), (hlw _ (by omega) (by omega)).trans (HW9.out.block _ (by omega)), by omega⟩, ?_⟩
              show RI w (flat objs) w3.heap.size (w1.heap.size + 2) w5.heap.size w7.heap.size objs.length ((pre ++ [x]).map ent) W1
              rw [HPRE.out]
              exact hri
      case done =>
        intro D xs W hD hxs hI hK
        subst hxs
        have hz := hI.zz
        rw [show (List.finRange (flat objs).length).map ent = flat objs by
          rw [← upto_all, map_upto]; exact List.take_of_length_le (Nat.le_refl _)] at hI
        have hl := HLAY.out
        have l1 := hl.m
        have l2 := hl.a
        have l3 := hl.b
        have l4 := hl.z
        have kb : W.cell? ⟨w5.heap.size, 0, none⟩ = some (.slice (some ⟨w3.heap.size + 1, 0, none⟩) objs.length objs.length) := Lib.cell_of_heap hI.b 0
        have k0 : W.cell? ⟨w.heap.size, 0, none⟩ = some (.slice none 0 0) := Lib.cell_of_heap hI.c0 0
        have k1 : W.cell? ⟨w.heap.size + 1, 0, none⟩ = some (.int .i64 0) := Lib.cell_of_heap hI.c1 0
        have k2 : W.cell? ⟨w.heap.size + 1, 1, none⟩ = some (.int .i64 0) := Lib.cell_of_heap hI.c1 1
        have k3 : W.cell? ⟨w.heap.size + 1 + 1, 0, none⟩ = some (.int .i64 0) := Lib.cell_of_heap hI.c2 0
        have f0 : W.frozen? ⟨w.heap.size, 0, none⟩ = false := Lib.frozen_of_heap hI.c0 0
        have f1 : W.frozen? ⟨w.heap.size + 1, 0, none⟩ = false := Lib.frozen_of_heap hI.c1 0
        have f2 : W.frozen? ⟨w.heap.size + 1, 1, none⟩ = false := Lib.frozen_of_heap hI.c1 1
        have f3 : W.frozen? ⟨w.heap.size + 1 + 1, 0, none⟩ = false := Lib.frozen_of_heap hI.c2 0
        have n1 : ¬ w.heap.size + 1 = w5.heap.size := by omega
        have n2 : ¬ w.heap.size = w5.heap.size := by omega
        have n3 : ¬ w.heap.size + 2 = w5.heap.size := by omega
        have HI := Lib.hid hI
        have HK := Lib.hid hK
        have mixed : Try.prog.follows Departure.mixedOrders = true := by kernel_rfl
        clear hI hK
        go_wp2_with fail
        have h4 := fin4_ HI.out.c0 HI.out.c1 HI.out.c2 (.slice (some ⟨w3.heap.size + 1, 0, none⟩) objs.length objs.length) (.int .i64 0) (.int .i64 0) (.int .i64 0)
        show bodyPostM Fence.wide 8 Try.prog Try.f6 (ResLo objs w) Exit.ret _ (fin4 W w.heap.size (.slice (some ⟨w3.heap.size + 1, 0, none⟩) objs.length objs.length) (.int .i64 0) (.int .i64 0) (.int .i64 0))
        have HK2 := (h4.oth D (by omega) (by omega) (by omega)).trans HK.out
        obtain ⟨vs, hv⟩ := HI.out.rows
        have hv2 := trows_fin hv (by omega) (by omega) HK2
        have hfind := find_all HI.out.ok
        have hbel := h4.below HI.out.bel HI.out.bel.size
        refine ⟨by simp, .inl ⟨_, _, rfl, run_takeDeferred HK2, ?_⟩⟩
        clear kb k0 k1 k2 k3 f0 f1 f2 f3
        generalize fin4 W w.heap.size (.slice (some ⟨w3.heap.size + 1, 0, none⟩) objs.length objs.length) (.int .i64 0) (.int .i64 0) (.int .i64 0) = W4 at *
        have g4 := grownBy_putObj' W4 D (.deferred none)
        have hne : ∀ k, k < w7.heap.size → some k ≠ some D := fun k hk e => by cases e; omega
        have o0 : (W4.putObj D (.deferred none)).cell? ⟨w.heap.size, 0, none⟩ = some (.slice (some ⟨w3.heap.size + 1, 0, none⟩) objs.length objs.length) := by
          rw [Lib.cell_of_heap ((g4.block _ (lt_heap h4.h0) (hne _ (by omega))).trans h4.h0)]; rfl
        have o1 : (W4.putObj D (.deferred none)).cell? ⟨w.heap.size + 1, 0, none⟩ = some (.int .i64 0) := by
          rw [Lib.cell_of_heap ((g4.block _ (lt_heap h4.h1) (hne _ (by omega))).trans h4.h1)]; rfl
        have o2 : (W4.putObj D (.deferred none)).cell? ⟨w.heap.size + 1, 1, none⟩ = some (.int .i64 0) := by
          rw [Lib.cell_of_heap ((g4.block _ (lt_heap h4.h1) (hne _ (by omega))).trans h4.h1)]; rfl
        have o3 : (W4.putObj D (.deferred none)).cell? ⟨w.heap.size + 1 + 1, 0, none⟩ = some (.int .i64 0) := by
          rw [Lib.cell_of_heap ((g4.block _ (lt_heap h4.h2) (hne _ (by omega))).trans h4.h2)]; rfl
        refine ⟨.tuple #[.slice (some ⟨w3.heap.size + 1, 0, none⟩) objs.length objs.length, .agg #[.int .i64 0, .int .i64 0], .int .i64 0], by simp [results, Try.results6, go_sem, o0, o1, o2, o3], .slice (some ⟨w3.heap.size + 1, 0, none⟩) objs.length objs.length, 0, 0, 0, rfl, ?_, ?_, ?_⟩
        · unfold Out
          rw [HNI.out, if_neg (by omega), HAG.out]
          simp only
          rw [hfind]
          refine ⟨?_, ?_, ?_, tgts_at hv2⟩ <;> first | rfl | trivial
        · exact hbel.grown g4 hbel.size (fun k hk => by cases hk; omega)
        · exact tgts_lo hv2 (by omega) (by omega)
      case stop =>
        intro D cc pre W hD hpre hI hK
        obtain ⟨rfl, pre0, x, rfl, hok, hbad, h0, h1, h2, hbel⟩ := hI
        obtain ⟨kk, hkk, hup⟩ := hpre
        have hfind := find_stop hup hok hbad
        have l1 := HLAY.out.m
        have l2 := HLAY.out.a
        have l3 := HLAY.out.b
        have l4 := HLAY.out.z
        refine wpIn_ret ?_
        show bodyPostM Fence.wide 8 Try.prog Try.f6 (ResLo objs w) Exit.ret _ W
        refine ⟨by simp, .inl ⟨_, _, rfl, run_takeDeferred hK, ?_⟩⟩
        have g4 := grownBy_putObj' W D (.deferred none)
        have hne : ∀ k, k < w7.heap.size → some k ≠ some D := fun k hk e => by cases e; omega
        have o0 : (W.putObj D (.deferred none)).cell? ⟨w.heap.size, 0, none⟩ = some (.slice none 0 0) := by
          rw [Lib.cell_of_heap ((g4.block _ (lt_heap h0) (hne _ (by omega))).trans h0)]; rfl
        have o1 : (W.putObj D (.deferred none)).cell? ⟨w.heap.size + 1, 0, none⟩ = some (.int .i64 ((ent x).i : Int)) := by
          rw [Lib.cell_of_heap ((g4.block _ (lt_heap h1) (hne _ (by omega))).trans h1)]; rfl
        have o2 : (W.putObj D (.deferred none)).cell? ⟨w.heap.size + 1, 1, none⟩ = some (.int .i64 ((ent x).k : Int)) := by
          rw [Lib.cell_of_heap ((g4.block _ (lt_heap h1) (hne _ (by omega))).trans h1)]; rfl
        have o3 : (W.putObj D (.deferred none)).cell? ⟨w.heap.size + 1 + 1, 0, none⟩ = some (.int .i64 3) := by
          rw [Lib.cell_of_heap ((g4.block _ (lt_heap h2) (hne _ (by omega))).trans h2)]; rfl
        refine ⟨.tuple #[.slice none 0 0, .agg #[.int .i64 ((ent x).i : Int), .int .i64 ((ent x).k : Int)], .int .i64 3], by simp [results, Try.results6, go_sem, o0, o1, o2, o3], .slice none 0 0, (ent x).i, (ent x).k, 3, rfl, ?_, ?_, tgts_lo_none _ _⟩
        · unfold Out
          rw [HNI.out, if_neg (by omega), HAG.out]
          simp only
          rw [hfind]
          refine ⟨?_, ?_, ?_, ?_⟩ <;> first | rfl | trivial
        · exact hbel.grown g4 hbel.size (fun k hk => by cases hk; omega)
theorem resolve_ {w : World} {n₀ : Nat} {v : Value} {objs : List ObjV} (hn : n₀ ≤ w.heap.size) (ho : ObjsAt n₀ w v objs) (hw : ∀ o ∈ objs, o.Wf) (hm : objs.length ≤ 100000) (hms : ∀ o ∈ objs, o.ss.length ≤ maxLen) (hN : (flat objs).length ≤ 100000) :
    Calls Try.prog 6 #[v] w (Res objs w) :=
  (resolve_lo_ hn ho hw hm hms hN).mono fun _ _ h => h.res
end RsV
end Go.Proofs.Ytlmblfkcmhgdaaa
