/-
  ParB ParGu ParIf ParEl, joined.
  Conditions: those that are written at each.
-/
import Derived.Test.YtnlbhnmiekanfaaGreatDoorPxF
import Derived.Test.YtnlbhnmiekanfaaGreatDoorPxC
/-
  The parser's blocks. Condition: what the parser holds lies in memory.
-/
namespace Go.Proofs.YtnlbhnmiekanfaaGreatDoor
open Go.RowKit Go.Deep
set_option linter.unusedVariables false
set_option linter.unusedSimpArgs false
namespace PaC
open Pa Lx
attribute [local go_sem] fld0 fld1 fld2
variable {N : Nat} {Rl : Bs → Prop} {rb : Bs → Nat}
theorem fin_block {Q : Ending → World → Prop} (k t l p : Int) (nm : ByteArray) (ev kv : Value) {tmps : Array Value} {B : Nat} {w : World} (old : Array Value)
    (hp : tmps.getD 2 undef = .pointer (some ⟨B, 0, none⟩)) (hg : w.heap[B]? = some (.cells old TSt (0, 0))) (hQ : Q (.returned (.agg (st7 k ev kv nm t l p))) (w.setRow B (st7 k ev kv nm t l p))) :
    bodyPost Tryz.prog Tryz.f146 Q .ret { tmps := tmps, defers := [] } (w.setRow B (st7 k ev kv nm t l p)) :=
  bodyPost_ret (v := .agg (st7 k ev kv nm t l p)) (results_cell_row Tryz.results146 tmps _ B TSt (st7 k ev kv nm t l p) (0, 0) _ hp (setRow_heap _ _ _ _ _ _ hg) Tryz.underlying35 rfl (size7 k ev kv nm t l p)) rfl hQ
set_option maxRecDepth 100000 in
set_option maxHeartbeats 8000000 in
theorem block_open {w : World} {G d : Nat} {ts : List Tok} {p er : Nat} (h : PAt N w G ts d) (hg : Good Rl ts) (hw : Pa.want ts [[123]] = .bad p er) :
    Calls Tryz.prog 146 #[ptr G] w (BadPost G (p : Int) (er : Int) w) := by
  have hlt := h.base
  have HP0 := Lib.hid (h.below ((Below.refl _ _).alloc (Nat.le_refl _) (.cells z7 TSt)))
  have HK0 := Lib.hid (Keep.refl G (w.alloc (.cells z7 TSt)))
  have c0 : ∀ W, PAt N W G (ts) d → Calls Tryz.prog 64 #[ptr G] W (OkPost N G d (tokV (Pa.hd (ts))) (ts) W) := fun W hW => nextL hg hW
  have c1 : ∀ W, PAt N W G (ts) d → Calls Tryz.prog 95 #[ptr G, sl1 W] (one W #[123]) (BadPost G (p : Int) (er : Int) W) := fun W hW => by have := wantL [[123]] 1 rfl (by decide) (by decide) hg hW; rw [hw] at this; exact this
  clear h
  go_enter Tryz.func146, Tryz.ntmps146
  go_wp2_with (first
    | ((with_reducible refine (c0 _ HP0.out).mono ?_); rintro e w1 ⟨rfl, hp, hk⟩; have HI1 := Lib.hid (OwnI.first (T := TSt) (z := z7) (c := (st7 1 (.slice none 0 0) (.slice none 0 0) ⟨#[]⟩ 0 0 (Pa.hd ts).place)) hlt hg hp (HK0.out.trans hk)); clear hp hk; clear c0)
    | (have c1' := c1 _ HI1.out.p; (try simp only [sl1, one, slN, World.size_alloc, World.size_setCell, setRow_size] at c1'); (with_reducible refine c1'.mono ?_); rintro e w2 ⟨rfl, hp, hk⟩; have HW := Lib.hid hp; have HK := Lib.hid (HI1.out.keep.trans hk); clear hp hk; clear c1 c1'))
  exact ⟨rfl, rfl, HW.out, HK.out⟩
set_option maxRecDepth 100000 in
set_option maxHeartbeats 16000000 in
theorem block_loop {w : World} {G d f : Nat} {ts r : List Tok} {s : Bs} {X : R (List St)} (hf : f ≤ 1000000) (h : PAt N w G ts d) (hg : Good Rl ts) (hgr : Good Rl r) (hw : Pa.want ts [[123]] = .ok s r)
    (he : ∀ f', f' ≤ f → ∀ ts, Good Rl ts → ConW (StOk N G d) N G Rl 173 #[ptr G] d ts (pStmt rb f' d ts))
    (hX : X ≠ .out) (hx : X = pStmts rb f d [] r) : Calls Tryz.prog 146 #[ptr G] w (RPost (StOk N G d) G (X.bind fun ks r2 => .ok (.mk 1 [] ks [] 0 0 (Pa.hd ts).place) r2) w) := by
  have hlt := h.base
  have HP0 := Lib.hid (h.below ((Below.refl _ _).alloc (Nat.le_refl _) (.cells z7 TSt)))
  have HK0 := Lib.hid (Keep.refl G (w.alloc (.cells z7 TSt)))
  have c0 : ∀ W, PAt N W G (ts) d → Calls Tryz.prog 64 #[ptr G] W (OkPost N G d (tokV (Pa.hd (ts))) (ts) W) := fun W hW => nextL hg hW
  have c1 : ∀ W, PAt N W G (ts) d → Calls Tryz.prog 95 #[ptr G, sl1 W] (one W #[123]) (OkPost N G d (.string ⟨s.toArray⟩) (r) W) := fun W hW => by have := wantL [[123]] 1 rfl (by decide) (by decide) hg hW; rw [hw] at this; exact this
  have HX := Lib.hid hx
  have HNX := Lib.hid hX
  have HG := Lib.hid hgr
  have HE := Lib.hid he
  obtain ⟨i0, hi, hz0, hz1, hz2⟩ := info_parts infoS7
  obtain ⟨pl, hpl⟩ : ∃ z : Nat, z = (Pa.hd ts).place := ⟨_, rfl⟩
  clear h hx hX hgr he hw
  go_enter Tryz.func146, Tryz.ntmps146
  go_wp2_with (first
    | ((with_reducible refine (c0 _ HP0.out).mono ?_); rintro e w1 ⟨rfl, hp, hk⟩; have HI1 := Lib.hid (OwnI.first (T := TSt) (z := z7) (c := (st7 1 (.slice none 0 0) (.slice none 0 0) ⟨#[]⟩ 0 0 (Pa.hd ts).place)) hlt hg hp (HK0.out.trans hk)); clear hp hk; clear c0)
    | (have c1' := c1 _ HI1.out.p; (try simp only [sl1, one, slN, World.size_alloc, World.size_setCell, setRow_size] at c1'); (with_reducible refine c1'.mono ?_); rintro e w2 ⟨rfl, hp, hk⟩; have HI2 := Lib.hid (HI1.out.next hlt hp hk HG.out); have HKs2 := Lib.hid hk; clear hp hk; clear c1 c1'))
  rw [← hpl] at HI2 ⊢
  obtain ⟨B, hB⟩ : ∃ B, B = w1.heap.size := ⟨_, rfl⟩
  rw [← hB] at HI2 ⊢
  have HPL := Lib.hid hpl
  clear hB hpl HP0 HK0 HI1 HKs2 HG
  go_loopg [14] f (fun gg u14 wr => ∃ (acc : List St) (v : Value) (rows : List (List Value)) (ts : List Tok), gg + acc.length ≤ f ∧ Aside (BlkI 7 StAt TSt N G d Rl TSt z7 w wr B (fun v => st7 1 (.slice none 0 0) v ⟨#[]⟩ 0 0 pl) acc v rows ts) ∧ Aside (X = pStmts rb gg d acc ts))
  case atStart => exact ⟨[], _, [], r, Nat.le_refl _, ⟨HI2.out, .nil _ _ _ _ _⟩, HX.out⟩
  case round =>
    obtain ⟨acc, v, rows, us, hgf, A1, A2⟩ := hrel
    obtain ⟨q, cp, rfl⟩ := row_shape A1.out.grow.own rfl
    cases gk with
    | zero => exact absurd (A2.out.trans (by rw [pStmts])) HNX.out
    | succ g =>
    cases hs : Pa.sees us [[125]] with
    | true =>
      obtain ⟨t, u, v, rfl, hg2⟩ := good_sees A1.out.own.good (by decide) hs
      have A3 : Aside (X = .ok acc (u :: v)) := by show _ = _; rw [A2.out, pStmts, if_pos hs]; rfl
      have HG2 := Lib.hid hg2
      have ct : Calls Tryz.prog 92 #[ptr G, sl1 wr] (one wr #[125]) (OkPost N G d (.bool true) (u :: v) wr) := takesL [[125]] 1 rfl (by decide) (by decide) A1.out.own.good hs A1.out.own.p
      clear hs hg2
      go_wp2_with (first
        | ((with_reducible refine ct.mono ?_); rintro e w2 ⟨rfl, hp, hk⟩; have HI2 := Lib.hid (A1.out.next stays_st hlt hp hk HG2.out); have hl2 := HI2.out.own.left; have hz2 := HI2.out.own.res; clear hp hk ct)
        | ((with_reducible refine load7 rfl (.tmp 3) rfl B 1 0 0 pl ⟨#[]⟩ (.slice none 0 0) (.slice q acc.length cp) ?xc hl2 ?_); (case xc => simp [go_sem]))
        | ((with_reducible refine store7 rfl (.tmp 2) (.tmp 22) rfl w.heap.size 1 0 0 pl ⟨#[]⟩ none q 0 0 acc.length cp ?xa ?xb z7 rfl hz2 ?_); (case xa => simp [go_sem]); (case xb => simp [go_sem])))
      refine fin_block _ _ _ _ _ _ _ _ (by simp) hz2 ?_
      rw [A3.out]
      have hwB := HI2.out.own.lt
      refine ⟨_, rfl, ?_, HI2.out.own.p.row (by omega) _, HI2.out.own.keep.row (Nat.le_refl _) _⟩
      rw [← HPL.out]
      exact .mk 1 [] acc [] 0 0 pl _ _ .nil (SlAt.ss ((HI2.out.grow.done stays_st).mono ⟨by simp, fun b hb hl => setRow_other _ _ _ _ (by have : B + 1 ≤ b := hb; omega)⟩ (fun b hb => by have : B + 1 ≤ b := hb; show w.heap.size ≤ b; omega) fun k r hk => hk.mono ⟨by simp, fun b hb hl => setRow_other _ _ _ _ (by have : B + 1 ≤ b := hb; omega)⟩ fun b hb => by have : B + 1 ≤ b := hb; show w.heap.size ≤ b; omega))
    | false =>
      have ct : Calls Tryz.prog 92 #[ptr G, sl1 wr] (one wr #[125]) (OkPost N G d (.bool false) us wr) := takesL [[125]] 1 rfl (by decide) (by decide) A1.out.own.good hs A1.out.own.p
      have A3 : X = (pStmt rb g d us).bind fun s r => pStmts rb g d (acc ++ [s]) r := by rw [A2.out, pStmts, if_neg (by rw [hs]; decide)]
      obtain ⟨c1, c2⟩ := HE.out g (by omega) _ A1.out.own.good
      cases hq : pStmt rb g d us with
      | out => exact absurd (A3.trans (by rw [hq]; rfl)) HNX.out
      | bad p er =>
        have cx : ∀ W, PAt N W G us d → Calls Tryz.prog 173 #[ptr G] W (BadPost G (p : Int) (er : Int) W) := fun W hW => by have := c2 (by rw [hq]; exact fun h => by cases h) W hW; rw [hq] at this; exact this
        have A4 : X = .bad p er := A3.trans (by rw [hq]; rfl)
        clear c1 c2 hq A3 A2 HX HNX HE hs
        subst A4
        go_upto_region 4 with ((with_reducible refine ct.mono ?_); rintro e w6 ⟨rfl, hp, hk⟩; have HI6 := Lib.hid (A1.out.next stays_st hlt hp hk A1.out.own.good); clear hp hk ct)
        refine wp_region_any (by kernel_rfl) ?_
        change wpAny _ _ _ _ _ _ _ (World.drew _)
        refine wpAny_take (i := 0) (v := .pointer (some ⟨B, 2, none⟩)) rfl (by kernel_rfl) (by kernel_rfl) (by kernel_rfl) (fun _ _ _ h => h) (Or.inl ⟨by rfl, by intro w; go_simp⟩) ?_
        refine wpAny_take (i := 2) (v := ptr G) rfl (by kernel_rfl) (by kernel_rfl) (by kernel_rfl) (fun _ _ _ h => h) (Or.inl ⟨by rfl, by intro w; go_simp⟩) ?_
        have HId := Lib.hid (HI6.out.drew stays_st)
        have y0 := HId.out.own.cell (i := 2) (v := (.slice q acc.length cp)) rfl
        refine wpAny_ready (rs := [1, 3]) (by kernel_rfl) (by simp) ?_
        refine AllReady.cons rfl (fun K hK => ?_) (AllReady.cons rfl (fun K hK => ?_) AllReady.nil)
        · go_simp
          refine hK _ _ ?_
          clear hK K y0
          refine wpAny_ready (rs := [3]) (by kernel_rfl) (by simp) ?_
          refine AllReady.cons rfl (fun K hK => ?_) AllReady.nil
          go_simp
          clear hK
          refine (cx _ HId.out.own.p).mono ?_
          rintro e w7 ⟨rfl, hp, hk⟩
          exact ⟨rfl, rfl, hp, HI6.out.own.keep.trans ⟨hk.os, hk.tape, hk.output, hk.size, hk.block⟩⟩
        · clear y0
          go_simp
          clear hK
          refine (cx _ HId.out.own.p).mono ?_
          rintro e w7 ⟨rfl, hp, hk⟩
          exact ⟨rfl, rfl, hp, HI6.out.own.keep.trans ⟨hk.os, hk.tape, hk.output, hk.size, hk.block⟩⟩
      | ok y r3 =>
        have hgr := c1 y r3 hq
        have cx : ∀ W, PAt N W G us d → Calls Tryz.prog 173 #[ptr G] W (StOk N G d y r3 W) := fun W hW => by have := c2 (by rw [hq]; exact fun h => by cases h) W hW; rw [hq] at this; exact this
        have HGR := Lib.hid hgr
        have A4 : Aside (X = pStmts rb g d (acc ++ [y]) r3) := A3.trans (by rw [hq]; rfl)
        clear c1 c2 hq A3 A2 HX HNX HE hgr hs
        go_upto_region 4 with ((with_reducible refine ct.mono ?_); rintro e w6 ⟨rfl, hp, hk⟩; have HI6 := Lib.hid (A1.out.next stays_st hlt hp hk A1.out.own.good); clear hp hk ct)
        refine wp_region_noPanic ?_
        refine wp_region_any (by kernel_rfl) ?_
        change wpAny _ _ _ _ _ _ _ (World.drew _)
        refine wpAny_take (i := 0) (v := .pointer (some ⟨B, 2, none⟩)) rfl (by kernel_rfl) (by kernel_rfl) (by kernel_rfl) (fun _ _ _ h => h) (Or.inl ⟨by rfl, by intro w; go_simp⟩) ?_
        refine wpAny_take (i := 2) (v := ptr G) rfl (by kernel_rfl) (by kernel_rfl) (by kernel_rfl) (fun _ _ _ h => h) (Or.inl ⟨by rfl, by intro w; go_simp⟩) ?_
        have HId := Lib.hid (HI6.out.drew stays_st)
        refine wpAny_ready (rs := [1, 3]) (by kernel_rfl) (by simp) ?_
        refine AllReady.cons rfl (fun K hK => ?_) (AllReady.cons rfl (fun K hK => ?_) AllReady.nil)
        · have y0 := HId.out.own.cell (i := 2) (v := (.slice q acc.length cp)) rfl
          go_simp
          refine hK _ _ ?_
          clear hK K y0
          refine wpAny_ready (rs := [3]) (by kernel_rfl) (by simp) ?_
          refine AllReady.cons rfl (fun K hK => ?_) AllReady.nil
          go_simp
          refine (cx _ HId.out.own.p).mono ?_
          rintro e w7 ⟨c2, rfl, hst, hp, hk⟩
          obtain ⟨k3, nm3, t3, l3, p3, a1, l1, c1, a2, l2, q2, e3, z3⟩ := hst.seven
          rw [e3]
          have HIc := Lib.hid (HId.out.next stays_st hlt hp hk HGR.out)
          have HY := Lib.hid hst
          have HZ3 := Lib.hid (And.intro e3 z3)
          have hBm : B < w6.drew.heap.size := (Array.getElem?_eq_some_iff.1 HId.out.own.left).1
          have HVB := Lib.hid HId.out.block
          clear hp hk hst e3 z3
          refine hK _ _ ?_
          clear hK K
          refine wpAny_ready (rs := [4]) (by kernel_rfl) (by simp) ?_
          refine AllReady.cons rfl (fun K hK => ?_) AllReady.nil
          go_simp
          refine hK _ _ ?_
          clear hK K
          have HIb := Lib.hid (HIc.out.below (w2 := (w7.alloc (.cells (st7 k3 (.slice a1 l1 c1) (.slice a2 l2 q2) ⟨nm3.toArray⟩ t3 l3 p3) TSt))) stays_st ((Below.refl _ _).alloc (Nat.le_refl _) _))
          have HNW := Lib.hid (World.news_of_block (heap_alloc_new w7 (.cells (st7 k3 (.slice a1 l1 c1) (.slice a2 l2 q2) ⟨nm3.toArray⟩ t3 l3 p3) TSt)))
          have hBn : B < w7.heap.size := (Array.getElem?_eq_some_iff.1 HIc.out.own.left).1
          refine wpAny_ready (rs := [5]) (by kernel_rfl) (by simp) ?_
          refine AllReady.cons rfl (fun K hK => ?_) AllReady.nil
          rw [if_pos (by kernel_rfl)]
          refine wp_append_at (.tmp 16) (.tmp 19) 33 rfl (B + 1) TSt i0 (.agg z7) 7 96 Tryz.underlying33 hi hz0 hz1 hz2 rfl (by decide) (.slice q acc.length cp) acc.length _ (by rfl) HIb.out.grow.own ⟨w7.heap.size, 0, none⟩ (st7 k3 (.slice a1 l1 c1) (.slice a2 l2 q2) ⟨nm3.toArray⟩ t3 l3 p3).toList (by rfl) rfl HNW.out (st_one _ _ _ _ _ _ _ _ _ _ _) (by omega) (by decide) (by simp only [World.size_alloc]; omega) ?_
          intro q6 cp6 w9 hown9 hgrow9 hat9
          obtain ⟨e3, z3⟩ := HZ3.out
          have hpush := HIb.out.push (i := 2) stays_st hlt HVB.out hBm (HY.out.mono (w' := (w7.alloc (.cells (st7 k3 (.slice a1 l1 c1) (.slice a2 l2 q2) ⟨nm3.toArray⟩ t3 l3 p3) TSt))) ⟨by simp, fun b _ hl => Lib.alloc_old _ _ _ hl⟩ fun b hb => hb) z3 (by have e4 := congrArg Array.toList e3; have e5 : c2 = (st7 k3 (.slice a1 l1 c1) (.slice a2 l2 q2) ⟨nm3.toArray⟩ t3 l3 p3).toList := e4; rw [e5]; exact hown9) hgrow9 hat9 (fun _ _ => rfl)
          have hf9 : w9.frozen? ⟨B, 2, none⟩ = false := Lib.frozen_of_heap hpush.1 _
          have hc9 : w9.cell? ⟨B, 2, none⟩ = some (.slice q acc.length cp) := Lib.cell_of_heap hpush.1 2
          have HI9 := Lib.hid hpush.2
          clear hpush hown9 hgrow9 hat9 e3 z3
          refine hK _ _ ?_
          clear hK K
          refine wpAny_ready (rs := [6]) (by kernel_rfl) (by simp) ?_
          refine AllReady.cons rfl (fun K hK => ?_) AllReady.nil
          go_simp
          refine hK _ _ ?_
          clear hK K
          refine wpAny_ready (rs := [7]) (by kernel_rfl) (by simp) ?_
          refine AllReady.cons rfl (fun K hK => ?_) AllReady.nil
          go_simp
          refine hK _ _ ?_
          clear hK K hf9 hc9
          refine wpAny_done (by kernel_rfl) ?_ _
          refine NoPanic.normal ?_
          go_wp2
          go_roundg g
          case measure => omega
          case rel => exact ⟨acc ++ [y], _, _, r3, by rw [List.length_append]; simp only [List.length_cons, List.length_nil]; omega, HI9.out, A4.out⟩
        · go_simp
          refine (cx _ HId.out.own.p).mono ?_
          rintro e w7 ⟨c2, rfl, hst, hp, hk⟩
          obtain ⟨k3, nm3, t3, l3, p3, a1, l1, c1, a2, l2, q2, e3, z3⟩ := hst.seven
          rw [e3]
          have HIc := Lib.hid (HId.out.next stays_st hlt hp hk HGR.out)
          have HY := Lib.hid hst
          have HZ3 := Lib.hid (And.intro e3 z3)
          have hBm : B < w6.drew.heap.size := (Array.getElem?_eq_some_iff.1 HId.out.own.left).1
          have HVB := Lib.hid HId.out.block
          clear hp hk hst e3 z3
          refine hK _ _ ?_
          clear hK K
          refine wpAny_ready (rs := [1, 4]) (by kernel_rfl) (by simp) ?_
          refine AllReady.cons rfl (fun K hK => ?_) (AllReady.cons rfl (fun K hK => ?_) AllReady.nil)
          · have y0 := HIc.out.own.cell (i := 2) (v := (.slice q acc.length cp)) rfl
            go_simp
            refine hK _ _ ?_
            clear hK K y0
            refine wpAny_ready (rs := [4]) (by kernel_rfl) (by simp) ?_
            refine AllReady.cons rfl (fun K hK => ?_) AllReady.nil
            go_simp
            refine hK _ _ ?_
            clear hK K
            have HIb := Lib.hid (HIc.out.below (w2 := (w7.alloc (.cells (st7 k3 (.slice a1 l1 c1) (.slice a2 l2 q2) ⟨nm3.toArray⟩ t3 l3 p3) TSt))) stays_st ((Below.refl _ _).alloc (Nat.le_refl _) _))
            have HNW := Lib.hid (World.news_of_block (heap_alloc_new w7 (.cells (st7 k3 (.slice a1 l1 c1) (.slice a2 l2 q2) ⟨nm3.toArray⟩ t3 l3 p3) TSt)))
            have hBn : B < w7.heap.size := (Array.getElem?_eq_some_iff.1 HIc.out.own.left).1
            refine wpAny_ready (rs := [5]) (by kernel_rfl) (by simp) ?_
            refine AllReady.cons rfl (fun K hK => ?_) AllReady.nil
            rw [if_pos (by kernel_rfl)]
            refine wp_append_at (.tmp 16) (.tmp 19) 33 rfl (B + 1) TSt i0 (.agg z7) 7 96 Tryz.underlying33 hi hz0 hz1 hz2 rfl (by decide) (.slice q acc.length cp) acc.length _ (by rfl) HIb.out.grow.own ⟨w7.heap.size, 0, none⟩ (st7 k3 (.slice a1 l1 c1) (.slice a2 l2 q2) ⟨nm3.toArray⟩ t3 l3 p3).toList (by rfl) rfl HNW.out (st_one _ _ _ _ _ _ _ _ _ _ _) (by omega) (by decide) (by simp only [World.size_alloc]; omega) ?_
            intro q6 cp6 w9 hown9 hgrow9 hat9
            obtain ⟨e3, z3⟩ := HZ3.out
            have hpush := HIb.out.push (i := 2) stays_st hlt HVB.out hBm (HY.out.mono (w' := (w7.alloc (.cells (st7 k3 (.slice a1 l1 c1) (.slice a2 l2 q2) ⟨nm3.toArray⟩ t3 l3 p3) TSt))) ⟨by simp, fun b _ hl => Lib.alloc_old _ _ _ hl⟩ fun b hb => hb) z3 (by have e4 := congrArg Array.toList e3; have e5 : c2 = (st7 k3 (.slice a1 l1 c1) (.slice a2 l2 q2) ⟨nm3.toArray⟩ t3 l3 p3).toList := e4; rw [e5]; exact hown9) hgrow9 hat9 (fun _ _ => rfl)
            have hf9 : w9.frozen? ⟨B, 2, none⟩ = false := Lib.frozen_of_heap hpush.1 _
            have hc9 : w9.cell? ⟨B, 2, none⟩ = some (.slice q acc.length cp) := Lib.cell_of_heap hpush.1 2
            have HI9 := Lib.hid hpush.2
            clear hpush hown9 hgrow9 hat9 e3 z3
            refine hK _ _ ?_
            clear hK K
            refine wpAny_ready (rs := [6]) (by kernel_rfl) (by simp) ?_
            refine AllReady.cons rfl (fun K hK => ?_) AllReady.nil
            go_simp
            refine hK _ _ ?_
            clear hK K
            refine wpAny_ready (rs := [7]) (by kernel_rfl) (by simp) ?_
            refine AllReady.cons rfl (fun K hK => ?_) AllReady.nil
            go_simp
            refine hK _ _ ?_
            clear hK K hf9 hc9
            refine wpAny_done (by kernel_rfl) ?_ _
            refine NoPanic.normal ?_
            go_wp2
            go_roundg g
            case measure => omega
            case rel => exact ⟨acc ++ [y], _, _, r3, by rw [List.length_append]; simp only [List.length_cons, List.length_nil]; omega, HI9.out, A4.out⟩
          · go_simp
            refine hK _ _ ?_
            clear hK K
            have HIb := Lib.hid (HIc.out.below (w2 := (w7.alloc (.cells (st7 k3 (.slice a1 l1 c1) (.slice a2 l2 q2) ⟨nm3.toArray⟩ t3 l3 p3) TSt))) stays_st ((Below.refl _ _).alloc (Nat.le_refl _) _))
            have HNW := Lib.hid (World.news_of_block (heap_alloc_new w7 (.cells (st7 k3 (.slice a1 l1 c1) (.slice a2 l2 q2) ⟨nm3.toArray⟩ t3 l3 p3) TSt)))
            have hBn : B < w7.heap.size := (Array.getElem?_eq_some_iff.1 HIc.out.own.left).1
            have y0 := HIb.out.own.cell (i := 2) (v := (.slice q acc.length cp)) rfl
            refine wpAny_ready (rs := [1]) (by kernel_rfl) (by simp) ?_
            refine AllReady.cons rfl (fun K hK => ?_) AllReady.nil
            go_simp
            refine hK _ _ ?_
            clear hK K y0
            refine wpAny_ready (rs := [5]) (by kernel_rfl) (by simp) ?_
            refine AllReady.cons rfl (fun K hK => ?_) AllReady.nil
            rw [if_pos (by kernel_rfl)]
            refine wp_append_at (.tmp 16) (.tmp 19) 33 rfl (B + 1) TSt i0 (.agg z7) 7 96 Tryz.underlying33 hi hz0 hz1 hz2 rfl (by decide) (.slice q acc.length cp) acc.length _ (by rfl) HIb.out.grow.own ⟨w7.heap.size, 0, none⟩ (st7 k3 (.slice a1 l1 c1) (.slice a2 l2 q2) ⟨nm3.toArray⟩ t3 l3 p3).toList (by rfl) rfl HNW.out (st_one _ _ _ _ _ _ _ _ _ _ _) (by omega) (by decide) (by simp only [World.size_alloc]; omega) ?_
            intro q6 cp6 w9 hown9 hgrow9 hat9
            obtain ⟨e3, z3⟩ := HZ3.out
            have hpush := HIb.out.push (i := 2) stays_st hlt HVB.out hBm (HY.out.mono (w' := (w7.alloc (.cells (st7 k3 (.slice a1 l1 c1) (.slice a2 l2 q2) ⟨nm3.toArray⟩ t3 l3 p3) TSt))) ⟨by simp, fun b _ hl => Lib.alloc_old _ _ _ hl⟩ fun b hb => hb) z3 (by have e4 := congrArg Array.toList e3; have e5 : c2 = (st7 k3 (.slice a1 l1 c1) (.slice a2 l2 q2) ⟨nm3.toArray⟩ t3 l3 p3).toList := e4; rw [e5]; exact hown9) hgrow9 hat9 (fun _ _ => rfl)
            have hf9 : w9.frozen? ⟨B, 2, none⟩ = false := Lib.frozen_of_heap hpush.1 _
            have hc9 : w9.cell? ⟨B, 2, none⟩ = some (.slice q acc.length cp) := Lib.cell_of_heap hpush.1 2
            have HI9 := Lib.hid hpush.2
            clear hpush hown9 hgrow9 hat9 e3 z3
            refine hK _ _ ?_
            clear hK K
            refine wpAny_ready (rs := [6]) (by kernel_rfl) (by simp) ?_
            refine AllReady.cons rfl (fun K hK => ?_) AllReady.nil
            go_simp
            refine hK _ _ ?_
            clear hK K
            refine wpAny_ready (rs := [7]) (by kernel_rfl) (by simp) ?_
            refine AllReady.cons rfl (fun K hK => ?_) AllReady.nil
            go_simp
            refine hK _ _ ?_
            clear hK K hf9 hc9
            refine wpAny_done (by kernel_rfl) ?_ _
            refine NoPanic.normal ?_
            go_wp2
            go_roundg g
            case measure => omega
            case rel => exact ⟨acc ++ [y], _, _, r3, by rw [List.length_append]; simp only [List.length_cons, List.length_nil]; omega, HI9.out, A4.out⟩
end PaC
end Go.Proofs.YtnlbhnmiekanfaaGreatDoor
/-
  The parser's conditions and the statements behind them. Condition: what the parser holds lies in memory.
-/
namespace Go.Proofs.YtnlbhnmiekanfaaGreatDoor
open Go.RowKit Go.Deep
set_option linter.unusedVariables false
set_option linter.unusedSimpArgs false
namespace PaC
open Pa Lx
attribute [local go_sem] fld0 fld1 fld2
variable {N : Nat} {Rl : Bs → Prop} {rb : Bs → Nat}
/-- a condition and a statement in memory: the statement's slice is one's own -/
def GuOk (N G d kind place : Nat) (x : Ex × St) (r : List Tok) (w : World) (e : Ending) (w' : World) : Prop := ∃ ev q rows, e = .returned (.agg (st7 kind ev (.slice q 1 1) ⟨#[]⟩ 0 0 place)) ∧ KsAt (New w.heap.size) w' [x.1] ev ∧ Grow 7 StAt TSt w.heap.size w' [x.2] (.slice q 1 1) rows ∧ PAt N w' G r d ∧ Keep G w w'
theorem fin_guarded {Q : Ending → World → Prop} (k t l p : Int) (nm : ByteArray) (ev kv : Value) {tmps : Array Value} {B : Nat} {w : World} (old : Array Value)
    (hp : tmps.getD 6 undef = .pointer (some ⟨B, 0, none⟩)) (hg : w.heap[B]? = some (.cells old TSt (0, 0))) (hQ : Q (.returned (.agg (st7 k ev kv nm t l p))) (w.setRow B (st7 k ev kv nm t l p))) :
    bodyPost Tryz.prog Tryz.f196 Q .ret { tmps := tmps, defers := [] } (w.setRow B (st7 k ev kv nm t l p)) :=
  bodyPost_ret (v := .agg (st7 k ev kv nm t l p)) (results_cell_row Tryz.results196 tmps _ B TSt (st7 k ev kv nm t l p) (0, 0) _ hp (setRow_heap _ _ _ _ _ _ hg) Tryz.underlying35 rfl (size7 k ev kv nm t l p)) rfl hQ
/-- the condition in block B, the result's own cells empty -/
structure GuI (N G d : Nat) (Rl : Bs → Prop) (w wr : World) (B : Nat) (x : Ex) (ts : List Tok) (c : List Value) : Prop where
  p : PAt N wr G ts d
  good : Good Rl ts
  keep : Keep G w wr
  res : wr.heap[w.heap.size]? = some (.cells z7 TSt (0, 0))
  left : wr.heap[B]? = some (.cells c.toArray TE (0, 0))
  ex : ExAt (New (w.heap.size + 1)) wr x c
  lt : w.heap.size < B
section
variable {G d B : Nat} {w wr w2 w1 : World} {x : Ex} {ts ts2 : List Tok} {c : List Value}
theorem GuI.first (hlt : N ≤ w.heap.size ∧ G < N) (hg : Good Rl ts) (hp : PAt N w1 G ts d) (hk : Keep G (w.alloc (.cells z7 TSt)) w1) (hx : ExAt (New (w.heap.size + 1)) w1 x c) : GuI N G d Rl w (w1.alloc (.cells c.toArray TE)) w1.heap.size x ts c := by
  have hs := hk.size
  rw [World.size_alloc] at hs
  have hb : Below w1.heap.size w1 (w1.alloc (.cells c.toArray TE)) := (Below.refl _ _).alloc (Nat.le_refl _) _
  refine ⟨hp.below hb, hg, (hk.first).trans (Keep.of hb), ?_, heap_alloc_new _ _, hx.mono ⟨hb.size, fun b _ hlt => hb.block b hlt⟩ fun b hb => hb, by omega⟩
  rw [Lib.alloc_old _ _ _ (by omega)]
  exact rowK (heap_alloc_new w _) hlt hk
theorem GuI.next (hlt : N ≤ w.heap.size ∧ G < N) (h : GuI N G d Rl w wr B x ts c) (hp : PAt N w2 G ts2 d) (hk : Keep G wr w2) (hg : Good Rl ts2) : GuI N G d Rl w w2 B x ts2 c := by
  have hB := h.lt
  exact ⟨hp, hg, h.keep.trans hk, hk.at (by omega) h.res, hk.at (by omega) h.left, h.ex.mono ⟨hk.size, fun b hb hl => hk.block b hl (by have : w.heap.size + 1 ≤ b := hb; omega)⟩ fun b hb => hb, hB⟩
theorem GuI.below (h : GuI N G d Rl w wr B x ts c) (hb : Below wr.heap.size wr w2) : GuI N G d Rl w w2 B x ts c := by
  have h1 := (Array.getElem?_eq_some_iff.1 h.res).1
  have h2 := (Array.getElem?_eq_some_iff.1 h.left).1
  exact ⟨h.p.below hb, h.good, h.keep.trans (Keep.of hb), (hb.block _ h1).trans h.res, (hb.block _ h2).trans h.left, h.ex.mono ⟨hb.size, fun b _ hl => hb.block b hl⟩ fun b hb => hb, h.lt⟩
theorem GuI.drew (h : GuI N G d Rl w wr B x ts c) : GuI N G d Rl w wr.drew B x ts c := h.below ⟨rfl, rfl, rfl, Nat.le_refl _, fun _ _ => rfl⟩
/-- what is answered -/
theorem GuI.done {kind place g1 g2 : Nat} {s : St} {c2 : List Value} (hlt : N ≤ w.heap.size ∧ G < N) (h : GuI N G d Rl w wr B x ts c) (h1 : Grow 8 ExAt TE (w.heap.size + 1) wr [x] (.slice (some ⟨g1, 0, none⟩) 1 1) [c]) (h2 : Grow 7 StAt TSt (w.heap.size + 1) wr [s] (.slice (some ⟨g2, 0, none⟩) 1 1) [c2]) (cs : Array Value) :
    KsAt (New w.heap.size) (wr.setRow w.heap.size cs) [x] (.slice (some ⟨g1, 0, none⟩) 1 1) ∧ Grow 7 StAt TSt w.heap.size (wr.setRow w.heap.size cs) [s] (.slice (some ⟨g2, 0, none⟩) 1 1) [c2] ∧ PAt N (wr.setRow w.heap.size cs) G ts d ∧ Keep G w (wr.setRow w.heap.size cs) := by
  have hg : wr.grownBy (wr.setRow w.heap.size cs) (some w.heap.size) := ⟨rfl, rfl, rfl, by simp, fun b hb hne => setRow_other _ _ _ _ fun e2 => hne (by rw [e2])⟩
  have k1 := h1.grown stays_ex hg fun k hk => by cases hk; omega
  have k2 := h2.grown stays_st hg fun k hk => by cases hk; omega
  refine ⟨(k1.done stays_ex).ks.mono ⟨Nat.le_refl _, fun _ _ _ => rfl⟩ (fun b hb => Nat.le_trans (Nat.le_succ _) hb), ?_, h.p.row (by omega) _, h.keep.row (Nat.le_refl _) _⟩
  refine ⟨?_, k2.len, k2.wide, k2.none_, fun i r k hi hk => stays_st.on _ _ _ _ _ _ ⟨Nat.le_refl _, fun _ _ _ => rfl⟩ (fun b hb => ⟨by have := hb.1; omega, hb.2⟩) (k2.at_ i r k hi hk)⟩
  refine ⟨k2.own.1, ?_⟩
  rcases k2.own.2 with h3 | ⟨g, cap, cur, h3, h4, h5⟩
  · exact .inl h3
  · exact .inr ⟨g, cap, cur, h3, by omega, h5⟩
end
set_option maxRecDepth 100000 in
set_option maxHeartbeats 8000000 in
theorem guarded_open {w : World} {G d : Nat} {kind place : Nat} {ts : List Tok} {p er : Nat} (h : PAt N w G ts d) (hg : Good Rl ts) (h1 : Pa.want ts [[40]] = .bad p er) :
    Calls Tryz.prog 196 #[ptr G, .int .i64 (kind : Int), .int .i64 (place : Int)] w (BadPost G (p : Int) (er : Int) w) := by
  have hlt := h.base
  have HP0 := Lib.hid (h.below ((Below.refl _ _).alloc (Nat.le_refl _) (.cells z7 TSt)))
  have HK0 := Lib.hid (Keep.refl G (w.alloc (.cells z7 TSt)))
  have c1 : ∀ W, PAt N W G ts d → Calls Tryz.prog 95 #[ptr G, sl1 W] (one W #[40]) (BadPost G (p : Int) (er : Int) W) := fun W hW => by have := wantL [[40]] 1 rfl (by decide) (by decide) hg hW; rw [h1] at this; exact this
  clear h h1
  go_enter Tryz.func196, Tryz.ntmps196
  go_wp2_with (have c1' := c1 _ HP0.out; simp only [sl1, one, World.size_alloc, setRow_size] at c1'; (with_reducible refine c1'.mono ?_); rintro e w1 ⟨rfl, hp, hk⟩; have HW := Lib.hid hp; have HK1 := Lib.hid (HK0.out.trans hk); clear hp hk c1 c1')
  exact ⟨rfl, rfl, HW.out, HK1.out.first⟩
set_option maxRecDepth 100000 in
set_option maxHeartbeats 8000000 in
theorem guarded_bad {w : World} {G d : Nat} {kind place : Nat} {ts r1 : List Tok} {s1 : Bs} {p er : Nat} (h : PAt N w G ts d) (hg : Good Rl ts) (h1 : Pa.want ts [[40]] = .ok s1 r1) (g1 : Good Rl r1) (cx : ∀ W, PAt N W G r1 d → Calls Tryz.prog 96 #[ptr G] W (BadPost G (p : Int) (er : Int) W)) :
    Calls Tryz.prog 196 #[ptr G, .int .i64 (kind : Int), .int .i64 (place : Int)] w (BadPost G (p : Int) (er : Int) w) := by
  have hlt := h.base
  have HP0 := Lib.hid (h.below ((Below.refl _ _).alloc (Nat.le_refl _) (.cells z7 TSt)))
  have HK0 := Lib.hid (Keep.refl G (w.alloc (.cells z7 TSt)))
  have c1 : ∀ W, PAt N W G ts d → Calls Tryz.prog 95 #[ptr G, sl1 W] (one W #[40]) (OkPost N G d (.string ⟨s1.toArray⟩) r1 W) := fun W hW => by have := wantL [[40]] 1 rfl (by decide) (by decide) hg hW; rw [h1] at this; exact this
  clear h h1
  go_enter Tryz.func196, Tryz.ntmps196
  go_wp2_with (first
    | (have c1' := c1 _ HP0.out; simp only [sl1, one, World.size_alloc, setRow_size] at c1'; (with_reducible refine c1'.mono ?_); rintro e w1 ⟨rfl, hp, hk⟩; have HP1 := Lib.hid hp; have HK1 := Lib.hid (HK0.out.trans hk); clear hp hk c1 c1')
    | ((with_reducible refine (cx _ HP1.out).mono ?_); rintro e w2 ⟨rfl, hp, hk⟩; have HW := Lib.hid hp; have HK2 := Lib.hid (HK1.out.trans hk); clear hp hk cx))
  exact ⟨rfl, rfl, HW.out, HK2.out.first⟩
set_option maxRecDepth 100000 in
set_option maxHeartbeats 8000000 in
theorem guarded_shut {w : World} {G d : Nat} {kind place : Nat} {ts r1 r2 : List Tok} {s1 : Bs} {x : Ex} {p er : Nat} (h : PAt N w G ts d) (hg : Good Rl ts) (h1 : Pa.want ts [[40]] = .ok s1 r1) (g1 : Good Rl r1) (cx : ∀ W, PAt N W G r1 d → Calls Tryz.prog 96 #[ptr G] W (ExOk N G d x r2 W)) (g2 : Good Rl r2) (h3 : Pa.want r2 [[41]] = .bad p er) :
    Calls Tryz.prog 196 #[ptr G, .int .i64 (kind : Int), .int .i64 (place : Int)] w (BadPost G (p : Int) (er : Int) w) := by
  have hlt := h.base
  have HP0 := Lib.hid (h.below ((Below.refl _ _).alloc (Nat.le_refl _) (.cells z7 TSt)))
  have HK0 := Lib.hid (Keep.refl G (w.alloc (.cells z7 TSt)))
  have c1 : ∀ W, PAt N W G ts d → Calls Tryz.prog 95 #[ptr G, sl1 W] (one W #[40]) (OkPost N G d (.string ⟨s1.toArray⟩) r1 W) := fun W hW => by have := wantL [[40]] 1 rfl (by decide) (by decide) hg hW; rw [h1] at this; exact this
  have c2 : ∀ W, PAt N W G r2 d → Calls Tryz.prog 95 #[ptr G, sl1 W] (one W #[41]) (BadPost G (p : Int) (er : Int) W) := fun W hW => by have := wantL [[41]] 1 rfl (by decide) (by decide) g2 hW; rw [h3] at this; exact this
  have HG2 := Lib.hid g2
  clear h h1 h3 g2
  go_enter Tryz.func196, Tryz.ntmps196
  go_wp2_with (first
    | (have c1' := c1 _ HP0.out; simp only [sl1, one, World.size_alloc, setRow_size] at c1'; (with_reducible refine c1'.mono ?_); rintro e w1 ⟨rfl, hp, hk⟩; have HP1 := Lib.hid hp; have HK1 := Lib.hid (HK0.out.trans hk); clear hp hk c1 c1')
    | ((with_reducible refine (cx _ HP1.out).mono ?_); rintro e w2 ⟨c, rfl, hex, hp, hk⟩; obtain ⟨k1, op1, nm1, n1, b1, t1, p1, a1, l1, q1, e1, z1, -⟩ := hex.eight; rw [e1]; have HI2 := Lib.hid (GuI.first hlt HG2.out hp (HK1.out.trans hk) (hex.mono ⟨Nat.le_refl _, fun _ _ _ => rfl⟩ fun b hb => by have hs1 := HK1.out.size; rw [World.size_alloc] at hs1; exact Nat.le_trans hs1 hb)); rw [e1] at HI2; have HE1 := Lib.hid e1; have HZ1 := Lib.hid z1; clear hp hk hex cx e1 z1)
    | (have c2' := c2 _ HI2.out.p; simp only [sl1, one, World.size_alloc, setRow_size] at c2'; (with_reducible refine c2'.mono ?_); rintro e w3 ⟨rfl, hp, hk⟩; have HW := Lib.hid hp; have HK3 := Lib.hid (HI2.out.keep.trans hk); clear hp hk c2 c2'))
  exact ⟨rfl, rfl, HW.out, HK3.out⟩
set_option maxRecDepth 100000 in
set_option maxHeartbeats 8000000 in
theorem guarded_stmt {w : World} {G d : Nat} {kind place : Nat} {ts r1 r2 r3 : List Tok} {s1 s3 : Bs} {x : Ex} {p er : Nat} (h : PAt N w G ts d) (hg : Good Rl ts) (h1 : Pa.want ts [[40]] = .ok s1 r1) (g1 : Good Rl r1) (cx : ∀ W, PAt N W G r1 d → Calls Tryz.prog 96 #[ptr G] W (ExOk N G d x r2 W)) (g2 : Good Rl r2) (h3 : Pa.want r2 [[41]] = .ok s3 r3) (g3 : Good Rl r3) (cs : ∀ W, PAt N W G r3 d → Calls Tryz.prog 173 #[ptr G] W (BadPost G (p : Int) (er : Int) W)) :
    Calls Tryz.prog 196 #[ptr G, .int .i64 (kind : Int), .int .i64 (place : Int)] w (BadPost G (p : Int) (er : Int) w) := by
  have hlt := h.base
  have HP0 := Lib.hid (h.below ((Below.refl _ _).alloc (Nat.le_refl _) (.cells z7 TSt)))
  have HK0 := Lib.hid (Keep.refl G (w.alloc (.cells z7 TSt)))
  have c1 : ∀ W, PAt N W G ts d → Calls Tryz.prog 95 #[ptr G, sl1 W] (one W #[40]) (OkPost N G d (.string ⟨s1.toArray⟩) r1 W) := fun W hW => by have := wantL [[40]] 1 rfl (by decide) (by decide) hg hW; rw [h1] at this; exact this
  have c2 : ∀ W, PAt N W G r2 d → Calls Tryz.prog 95 #[ptr G, sl1 W] (one W #[41]) (OkPost N G d (.string ⟨s3.toArray⟩) r3 W) := fun W hW => by have := wantL [[41]] 1 rfl (by decide) (by decide) g2 hW; rw [h3] at this; exact this
  have HG2 := Lib.hid g2
  have HG3 := Lib.hid g3
  clear h h1 h3 g2 g3
  go_enter Tryz.func196, Tryz.ntmps196
  go_upto_region 4 with (first
    | (have c1' := c1 _ HP0.out; simp only [sl1, one, World.size_alloc, setRow_size] at c1'; (with_reducible refine c1'.mono ?_); rintro e w1 ⟨rfl, hp, hk⟩; have HP1 := Lib.hid hp; have HK1 := Lib.hid (HK0.out.trans hk); clear hp hk c1 c1')
    | ((with_reducible refine (cx _ HP1.out).mono ?_); rintro e w2 ⟨c, rfl, hex, hp, hk⟩; obtain ⟨k1, op1, nm1, n1, b1, t1, p1, a1, l1, q1, e1, z1, -⟩ := hex.eight; rw [e1]; have HI2 := Lib.hid (GuI.first hlt HG2.out hp (HK1.out.trans hk) (hex.mono ⟨Nat.le_refl _, fun _ _ _ => rfl⟩ fun b hb => by have hs1 := HK1.out.size; rw [World.size_alloc] at hs1; exact Nat.le_trans hs1 hb)); rw [e1] at HI2; have HE1 := Lib.hid e1; have HZ1 := Lib.hid z1; clear hp hk hex cx e1 z1)
    | (have c2' := c2 _ HI2.out.p; simp only [sl1, one, World.size_alloc, setRow_size] at c2'; (with_reducible refine c2'.mono ?_); rintro e w3 ⟨rfl, hp, hk⟩; have HI3 := Lib.hid (HI2.out.next hlt hp hk HG3.out); clear hp hk c2 c2'))
  obtain ⟨B, hB⟩ : ∃ B, B = w2.heap.size := ⟨_, rfl⟩
  rw [← hB] at HI3 ⊢
  clear hB HI2 HP0 HP1 HK0 HK1
  have HId := Lib.hid HI3.out.drew
  refine wp_region_any (by kernel_rfl) ?_
  change wpAny _ _ _ _ _ _ _ (World.drew _)
  refine wpAny_take (i := 0) (v := .int .i64 (kind : Int)) rfl (by kernel_rfl) (by kernel_rfl) (by kernel_rfl) (fun _ _ _ h => h) (Or.inl ⟨by rfl, by intro w; go_simp⟩) ?_
  refine wpAny_take (i := 3) (v := ptr G) rfl (by kernel_rfl) (by kernel_rfl) (by kernel_rfl) (fun _ _ _ h => h) (Or.inl ⟨by rfl, by intro w; go_simp⟩) ?_
  refine wpAny_take (i := 6) (v := .int .i64 (place : Int)) rfl (by kernel_rfl) (by kernel_rfl) (by kernel_rfl) (fun _ _ _ h => h) (Or.inl ⟨by rfl, by intro w; go_simp⟩) ?_
  refine wpAny_ready (rs := [1, 4]) (by kernel_rfl) (by simp) ?_
  refine AllReady.cons rfl (fun K hK => ?_) (AllReady.cons rfl (fun K hK => ?_) AllReady.nil)
  · have hl4 := HId.out.left
    rw [HE1.out] at hl4
    obtain ⟨y0, y1, y2, y3, y4, y5, y6, y7⟩ := cells8 hl4
    go_simp
    refine hK _ _ ?_
    clear hK K y0 y1 y2 y3 y4 y5 y6 y7 hl4
    refine wpAny_ready (rs := [2, 4]) (by kernel_rfl) (by simp) ?_
    refine AllReady.cons rfl (fun K hK => ?_) (AllReady.cons rfl (fun K hK => ?_) AllReady.nil)
    · go_simp
      refine hK _ _ ?_
      clear hK K
      have HB5 := Lib.hid (show Below w3.drew.heap.size w3.drew (w3.drew.alloc (.cells (ex8 k1 ⟨op1.toArray⟩ ⟨nm1.toArray⟩ n1 b1 (.slice a1 l1 q1) t1 p1) TE)) from (Below.refl _ _).alloc (Nat.le_refl _) _)
      have HI5 := Lib.hid (HId.out.below HB5.out)
      have HA5 := Grow.one (e := TE) (M := w.heap.size + 1) (n := 8) stays_ex (by have h1 := HId.out.lt; have h2 := (Array.getElem?_eq_some_iff.1 HId.out.left).1; omega) HId.out.ex HZ1.out
      rw [HE1.out] at HA5
      have HA5 := Lib.hid HA5
      refine wpAny_ready (rs := [4]) (by kernel_rfl) (by simp) ?_
      refine AllReady.cons rfl (fun K hK => ?_) AllReady.nil
      go_simp
      clear hK
      refine (cs _ HI5.out.p).mono ?_
      rintro e v6 ⟨rfl, hp, hk⟩
      exact ⟨rfl, rfl, hp, HI5.out.keep.trans hk⟩
    · go_simp
      clear hK
      refine (cs _ HId.out.p).mono ?_
      rintro e v5 ⟨rfl, hp, hk⟩
      exact ⟨rfl, rfl, hp, HId.out.keep.trans hk⟩
  · go_simp
    clear hK
    refine (cs _ HId.out.p).mono ?_
    rintro e v4 ⟨rfl, hp, hk⟩
    exact ⟨rfl, rfl, hp, HId.out.keep.trans hk⟩
set_option maxRecDepth 100000 in
set_option maxHeartbeats 8000000 in
theorem guarded_ok {w : World} {G d : Nat} {kind place : Nat} {ts r1 r2 r3 : List Tok} {s1 s3 : Bs} {x : Ex} {r4 : List Tok} {s : St} (h : PAt N w G ts d) (hg : Good Rl ts) (h1 : Pa.want ts [[40]] = .ok s1 r1) (g1 : Good Rl r1) (cx : ∀ W, PAt N W G r1 d → Calls Tryz.prog 96 #[ptr G] W (ExOk N G d x r2 W)) (g2 : Good Rl r2) (h3 : Pa.want r2 [[41]] = .ok s3 r3) (g3 : Good Rl r3) (cs : ∀ W, PAt N W G r3 d → Calls Tryz.prog 173 #[ptr G] W (StOk N G d s r4 W)) (g4 : Good Rl r4) :
    Calls Tryz.prog 196 #[ptr G, .int .i64 (kind : Int), .int .i64 (place : Int)] w (GuOk N G d kind place (x, s) r4 w) := by
  have hlt := h.base
  have HP0 := Lib.hid (h.below ((Below.refl _ _).alloc (Nat.le_refl _) (.cells z7 TSt)))
  have HK0 := Lib.hid (Keep.refl G (w.alloc (.cells z7 TSt)))
  have c1 : ∀ W, PAt N W G ts d → Calls Tryz.prog 95 #[ptr G, sl1 W] (one W #[40]) (OkPost N G d (.string ⟨s1.toArray⟩) r1 W) := fun W hW => by have := wantL [[40]] 1 rfl (by decide) (by decide) hg hW; rw [h1] at this; exact this
  have c2 : ∀ W, PAt N W G r2 d → Calls Tryz.prog 95 #[ptr G, sl1 W] (one W #[41]) (OkPost N G d (.string ⟨s3.toArray⟩) r3 W) := fun W hW => by have := wantL [[41]] 1 rfl (by decide) (by decide) g2 hW; rw [h3] at this; exact this
  have HG2 := Lib.hid g2
  have HG3 := Lib.hid g3
  have HG4 := Lib.hid g4
  clear h h1 h3 g2 g3 g4
  go_enter Tryz.func196, Tryz.ntmps196
  go_upto_region 4 with (first
    | (have c1' := c1 _ HP0.out; simp only [sl1, one, World.size_alloc, setRow_size] at c1'; (with_reducible refine c1'.mono ?_); rintro e w1 ⟨rfl, hp, hk⟩; have HP1 := Lib.hid hp; have HK1 := Lib.hid (HK0.out.trans hk); clear hp hk c1 c1')
    | ((with_reducible refine (cx _ HP1.out).mono ?_); rintro e w2 ⟨c, rfl, hex, hp, hk⟩; obtain ⟨k1, op1, nm1, n1, b1, t1, p1, a1, l1, q1, e1, z1, -⟩ := hex.eight; rw [e1]; have HI2 := Lib.hid (GuI.first hlt HG2.out hp (HK1.out.trans hk) (hex.mono ⟨Nat.le_refl _, fun _ _ _ => rfl⟩ fun b hb => by have hs1 := HK1.out.size; rw [World.size_alloc] at hs1; exact Nat.le_trans hs1 hb)); rw [e1] at HI2; have HE1 := Lib.hid e1; have HZ1 := Lib.hid z1; clear hp hk hex cx e1 z1)
    | (have c2' := c2 _ HI2.out.p; simp only [sl1, one, World.size_alloc, setRow_size] at c2'; (with_reducible refine c2'.mono ?_); rintro e w3 ⟨rfl, hp, hk⟩; have HI3 := Lib.hid (HI2.out.next hlt hp hk HG3.out); clear hp hk c2 c2'))
  obtain ⟨B, hB⟩ : ∃ B, B = w2.heap.size := ⟨_, rfl⟩
  rw [← hB] at HI3 ⊢
  clear hB HI2 HP0 HP1 HK0 HK1
  have HId := Lib.hid HI3.out.drew
  refine wp_region_noPanic ?_
  refine wp_region_any (by kernel_rfl) ?_
  change wpAny _ _ _ _ _ _ _ (World.drew _)
  refine wpAny_take (i := 0) (v := .int .i64 (kind : Int)) rfl (by kernel_rfl) (by kernel_rfl) (by kernel_rfl) (fun _ _ _ h => h) (Or.inl ⟨by rfl, by intro w; go_simp⟩) ?_
  refine wpAny_take (i := 3) (v := ptr G) rfl (by kernel_rfl) (by kernel_rfl) (by kernel_rfl) (fun _ _ _ h => h) (Or.inl ⟨by rfl, by intro w; go_simp⟩) ?_
  refine wpAny_take (i := 6) (v := .int .i64 (place : Int)) rfl (by kernel_rfl) (by kernel_rfl) (by kernel_rfl) (fun _ _ _ h => h) (Or.inl ⟨by rfl, by intro w; go_simp⟩) ?_
  refine wpAny_ready (rs := [1, 4]) (by kernel_rfl) (by simp) ?_
  refine AllReady.cons rfl (fun K hK => ?_) (AllReady.cons rfl (fun K hK => ?_) AllReady.nil)
  · have hl4 := HId.out.left
    rw [HE1.out] at hl4
    obtain ⟨y0, y1, y2, y3, y4, y5, y6, y7⟩ := cells8 hl4
    go_simp
    refine hK _ _ ?_
    clear hK K y0 y1 y2 y3 y4 y5 y6 y7 hl4
    refine wpAny_ready (rs := [2, 4]) (by kernel_rfl) (by simp) ?_
    refine AllReady.cons rfl (fun K hK => ?_) (AllReady.cons rfl (fun K hK => ?_) AllReady.nil)
    · go_simp
      refine hK _ _ ?_
      clear hK K
      have HB5 := Lib.hid (show Below w3.drew.heap.size w3.drew (w3.drew.alloc (.cells (ex8 k1 ⟨op1.toArray⟩ ⟨nm1.toArray⟩ n1 b1 (.slice a1 l1 q1) t1 p1) TE)) from (Below.refl _ _).alloc (Nat.le_refl _) _)
      have HI5 := Lib.hid (HId.out.below HB5.out)
      have HA5 := Grow.one (e := TE) (M := w.heap.size + 1) (n := 8) stays_ex (by have h1 := HId.out.lt; have h2 := (Array.getElem?_eq_some_iff.1 HId.out.left).1; omega) HId.out.ex HZ1.out
      rw [HE1.out] at HA5
      have HA5 := Lib.hid HA5
      refine wpAny_ready (rs := [4]) (by kernel_rfl) (by simp) ?_
      refine AllReady.cons rfl (fun K hK => ?_) AllReady.nil
      go_simp
      refine (cs _ HI5.out.p).mono ?_
      rintro e v6 ⟨c2, rfl, hst, hp, hk⟩
      obtain ⟨k3, nm3, t3, p3, p4, a3, l3, c3, a4, l4, q4, e3, z3⟩ := hst.seven
      rw [e3]
      have HI6 := Lib.hid (HI5.out.next hlt hp hk HG4.out)
      have hBm := (Array.getElem?_eq_some_iff.1 HI5.out.left).1
      have HST6 := Lib.hid (show StAt (New (w.heap.size + 1)) v6 s c2 from hst.mono ⟨Nat.le_refl _, fun _ _ _ => rfl⟩ fun b hb => Nat.le_trans (by have := HI5.out.lt; omega) hb)
      have HZ3 := Lib.hid (And.intro e3 z3)
      have HA56 := Lib.hid (HA5.out.keep stays_ex hk (by omega))
      clear hp hk hst e3 z3 hBm
      refine hK _ _ ?_
      clear hK K
      refine wpAny_ready (rs := [5]) (by kernel_rfl) (by simp) ?_
      refine AllReady.cons rfl (fun K hK => ?_) AllReady.nil
      go_simp
      refine hK _ _ ?_
      clear hK K
      have HB7 := Lib.hid (show Below v6.heap.size v6 (v6.alloc (.cells (st7 k3 (.slice a3 l3 c3) (.slice a4 l4 q4) ⟨nm3.toArray⟩ t3 p3 p4) TSt)) from (Below.refl _ _).alloc (Nat.le_refl _) _)
      have HI7 := Lib.hid (HI6.out.below HB7.out)
      have HA567 := Lib.hid (HA56.out.below stays_ex HB7.out)
      have HA7 := Grow.one (e := TSt) (M := w.heap.size + 1) (n := 7) stays_st (by have h1 := HI6.out.lt; have h2 := (Array.getElem?_eq_some_iff.1 HI6.out.left).1; omega) HST6.out HZ3.out.2
      rw [HZ3.out.1] at HA7
      have HA7 := Lib.hid HA7
      have HST7 := Lib.hid (HST6.out.mono (w' := (v6.alloc (.cells (st7 k3 (.slice a3 l3 c3) (.slice a4 l4 q4) ⟨nm3.toArray⟩ t3 p3 p4) TSt))) ⟨HB7.out.size, fun b _ hl => HB7.out.block b hl⟩ fun b hb => hb)
      refine wpAny_ready (rs := [7]) (by kernel_rfl) (by simp) ?_
      refine AllReady.cons rfl (fun K hK => ?_) AllReady.nil
      go_simp
      refine hK _ _ ?_
      clear hK K
      refine wpAny_ready (rs := [8]) (by kernel_rfl) (by simp) ?_
      refine AllReady.cons rfl (fun K hK => ?_) AllReady.nil
      rw [if_pos (by kernel_rfl)]
      refine wp_store_row TSt (.tmp 6) (.tmp 23) rfl w.heap.size (st7 kind (.slice (some ⟨w3.heap.size, 0, none⟩) 1 1) (.slice (some ⟨v6.heap.size, 0, none⟩) 1 1) ⟨#[]⟩ 0 0 place) (by rfl) (by rfl) TSt z7 HI7.out.res (size7 _ _ _ _ _ _ _) rfl (one7 _ _ _ _ _ _ _ _ _ _ _) ?_
      refine hK _ _ ?_
      clear hK K
      refine wpAny_done (by kernel_rfl) ?_ _
      refine NoPanic.normal ?_
      have hd := HI7.out.done (kind := kind) (place := place) hlt HA567.out HA7.out (st7 kind (.slice (some ⟨w3.heap.size, 0, none⟩) 1 1) (.slice (some ⟨v6.heap.size, 0, none⟩) 1 1) ⟨#[]⟩ 0 0 place)
      have HD := Lib.hid hd
      have hz := HI7.out.res
      clear hd
      go_wp2
      refine fin_guarded _ _ _ _ _ _ _ _ (by simp) hz ⟨_, _, _, rfl, HD.out.1, HD.out.2.1, HD.out.2.2⟩
    · go_simp
      refine (cs _ HId.out.p).mono ?_
      rintro e v5 ⟨c2, rfl, hst, hp, hk⟩
      obtain ⟨k3, nm3, t3, p3, p4, a3, l3, c3, a4, l4, q4, e3, z3⟩ := hst.seven
      rw [e3]
      have HI5 := Lib.hid (HId.out.next hlt hp hk HG4.out)
      have hBm := (Array.getElem?_eq_some_iff.1 HId.out.left).1
      have HST5 := Lib.hid (show StAt (New (w.heap.size + 1)) v5 s c2 from hst.mono ⟨Nat.le_refl _, fun _ _ _ => rfl⟩ fun b hb => Nat.le_trans (by have := HId.out.lt; omega) hb)
      have HZ3 := Lib.hid (And.intro e3 z3)
      clear hp hk hst e3 z3 hBm
      refine hK _ _ ?_
      clear hK K
      refine wpAny_ready (rs := [2, 5]) (by kernel_rfl) (by simp) ?_
      refine AllReady.cons rfl (fun K hK => ?_) (AllReady.cons rfl (fun K hK => ?_) AllReady.nil)
      · go_simp
        refine hK _ _ ?_
        clear hK K
        have HB6 := Lib.hid (show Below v5.heap.size v5 (v5.alloc (.cells (ex8 k1 ⟨op1.toArray⟩ ⟨nm1.toArray⟩ n1 b1 (.slice a1 l1 q1) t1 p1) TE)) from (Below.refl _ _).alloc (Nat.le_refl _) _)
        have HI6 := Lib.hid (HI5.out.below HB6.out)
        have HA6 := Grow.one (e := TE) (M := w.heap.size + 1) (n := 8) stays_ex (by have h1 := HI5.out.lt; have h2 := (Array.getElem?_eq_some_iff.1 HI5.out.left).1; omega) HI5.out.ex HZ1.out
        rw [HE1.out] at HA6
        have HA6 := Lib.hid HA6
        have HST6 := Lib.hid (HST5.out.mono (w' := (v5.alloc (.cells (ex8 k1 ⟨op1.toArray⟩ ⟨nm1.toArray⟩ n1 b1 (.slice a1 l1 q1) t1 p1) TE))) ⟨HB6.out.size, fun b _ hl => HB6.out.block b hl⟩ fun b hb => hb)
        refine wpAny_ready (rs := [5]) (by kernel_rfl) (by simp) ?_
        refine AllReady.cons rfl (fun K hK => ?_) AllReady.nil
        go_simp
        refine hK _ _ ?_
        clear hK K
        have HB7 := Lib.hid (show Below (v5.alloc (.cells (ex8 k1 ⟨op1.toArray⟩ ⟨nm1.toArray⟩ n1 b1 (.slice a1 l1 q1) t1 p1) TE)).heap.size (v5.alloc (.cells (ex8 k1 ⟨op1.toArray⟩ ⟨nm1.toArray⟩ n1 b1 (.slice a1 l1 q1) t1 p1) TE)) ((v5.alloc (.cells (ex8 k1 ⟨op1.toArray⟩ ⟨nm1.toArray⟩ n1 b1 (.slice a1 l1 q1) t1 p1) TE)).alloc (.cells (st7 k3 (.slice a3 l3 c3) (.slice a4 l4 q4) ⟨nm3.toArray⟩ t3 p3 p4) TSt)) from (Below.refl _ _).alloc (Nat.le_refl _) _)
        have HI7 := Lib.hid (HI6.out.below HB7.out)
        have HA67 := Lib.hid (HA6.out.below stays_ex HB7.out)
        have HA7 := Grow.one (e := TSt) (M := w.heap.size + 1) (n := 7) stays_st (by have h1 := HI6.out.lt; have h2 := (Array.getElem?_eq_some_iff.1 HI6.out.left).1; omega) HST6.out HZ3.out.2
        rw [HZ3.out.1] at HA7
        simp only [World.size_alloc] at HA7
        have HA7 := Lib.hid HA7
        have HST7 := Lib.hid (HST6.out.mono (w' := ((v5.alloc (.cells (ex8 k1 ⟨op1.toArray⟩ ⟨nm1.toArray⟩ n1 b1 (.slice a1 l1 q1) t1 p1) TE)).alloc (.cells (st7 k3 (.slice a3 l3 c3) (.slice a4 l4 q4) ⟨nm3.toArray⟩ t3 p3 p4) TSt))) ⟨HB7.out.size, fun b _ hl => HB7.out.block b hl⟩ fun b hb => hb)
        refine wpAny_ready (rs := [7]) (by kernel_rfl) (by simp) ?_
        refine AllReady.cons rfl (fun K hK => ?_) AllReady.nil
        go_simp
        refine hK _ _ ?_
        clear hK K
        refine wpAny_ready (rs := [8]) (by kernel_rfl) (by simp) ?_
        refine AllReady.cons rfl (fun K hK => ?_) AllReady.nil
        rw [if_pos (by kernel_rfl)]
        refine wp_store_row TSt (.tmp 6) (.tmp 23) rfl w.heap.size (st7 kind (.slice (some ⟨v5.heap.size, 0, none⟩) 1 1) (.slice (some ⟨v5.heap.size + 1, 0, none⟩) 1 1) ⟨#[]⟩ 0 0 place) (by rfl) (by rfl) TSt z7 HI7.out.res (size7 _ _ _ _ _ _ _) rfl (one7 _ _ _ _ _ _ _ _ _ _ _) ?_
        refine hK _ _ ?_
        clear hK K
        refine wpAny_done (by kernel_rfl) ?_ _
        refine NoPanic.normal ?_
        have hd := HI7.out.done (kind := kind) (place := place) hlt HA67.out HA7.out (st7 kind (.slice (some ⟨v5.heap.size, 0, none⟩) 1 1) (.slice (some ⟨v5.heap.size + 1, 0, none⟩) 1 1) ⟨#[]⟩ 0 0 place)
        have HD := Lib.hid hd
        have hz := HI7.out.res
        clear hd
        go_wp2
        refine fin_guarded _ _ _ _ _ _ _ _ (by simp) hz ⟨_, _, _, rfl, HD.out.1, HD.out.2.1, HD.out.2.2⟩
      · go_simp
        refine hK _ _ ?_
        clear hK K
        have HB6 := Lib.hid (show Below v5.heap.size v5 (v5.alloc (.cells (st7 k3 (.slice a3 l3 c3) (.slice a4 l4 q4) ⟨nm3.toArray⟩ t3 p3 p4) TSt)) from (Below.refl _ _).alloc (Nat.le_refl _) _)
        have HI6 := Lib.hid (HI5.out.below HB6.out)
        have HA6 := Grow.one (e := TSt) (M := w.heap.size + 1) (n := 7) stays_st (by have h1 := HI5.out.lt; have h2 := (Array.getElem?_eq_some_iff.1 HI5.out.left).1; omega) HST5.out HZ3.out.2
        rw [HZ3.out.1] at HA6
        have HA6 := Lib.hid HA6
        have HST6 := Lib.hid (HST5.out.mono (w' := (v5.alloc (.cells (st7 k3 (.slice a3 l3 c3) (.slice a4 l4 q4) ⟨nm3.toArray⟩ t3 p3 p4) TSt))) ⟨HB6.out.size, fun b _ hl => HB6.out.block b hl⟩ fun b hb => hb)
        refine wpAny_ready (rs := [2]) (by kernel_rfl) (by simp) ?_
        refine AllReady.cons rfl (fun K hK => ?_) AllReady.nil
        go_simp
        refine hK _ _ ?_
        clear hK K
        have HB7 := Lib.hid (show Below (v5.alloc (.cells (st7 k3 (.slice a3 l3 c3) (.slice a4 l4 q4) ⟨nm3.toArray⟩ t3 p3 p4) TSt)).heap.size (v5.alloc (.cells (st7 k3 (.slice a3 l3 c3) (.slice a4 l4 q4) ⟨nm3.toArray⟩ t3 p3 p4) TSt)) ((v5.alloc (.cells (st7 k3 (.slice a3 l3 c3) (.slice a4 l4 q4) ⟨nm3.toArray⟩ t3 p3 p4) TSt)).alloc (.cells (ex8 k1 ⟨op1.toArray⟩ ⟨nm1.toArray⟩ n1 b1 (.slice a1 l1 q1) t1 p1) TE)) from (Below.refl _ _).alloc (Nat.le_refl _) _)
        have HI7 := Lib.hid (HI6.out.below HB7.out)
        have HA67 := Lib.hid (HA6.out.below stays_st HB7.out)
        have HA7 := Grow.one (e := TE) (M := w.heap.size + 1) (n := 8) stays_ex (by have h1 := HI6.out.lt; have h2 := (Array.getElem?_eq_some_iff.1 HI6.out.left).1; omega) HI6.out.ex HZ1.out
        rw [HE1.out] at HA7
        simp only [World.size_alloc] at HA7
        have HA7 := Lib.hid HA7
        have HST7 := Lib.hid (HST6.out.mono (w' := ((v5.alloc (.cells (st7 k3 (.slice a3 l3 c3) (.slice a4 l4 q4) ⟨nm3.toArray⟩ t3 p3 p4) TSt)).alloc (.cells (ex8 k1 ⟨op1.toArray⟩ ⟨nm1.toArray⟩ n1 b1 (.slice a1 l1 q1) t1 p1) TE))) ⟨HB7.out.size, fun b _ hl => HB7.out.block b hl⟩ fun b hb => hb)
        refine wpAny_ready (rs := [7]) (by kernel_rfl) (by simp) ?_
        refine AllReady.cons rfl (fun K hK => ?_) AllReady.nil
        go_simp
        refine hK _ _ ?_
        clear hK K
        refine wpAny_ready (rs := [8]) (by kernel_rfl) (by simp) ?_
        refine AllReady.cons rfl (fun K hK => ?_) AllReady.nil
        rw [if_pos (by kernel_rfl)]
        refine wp_store_row TSt (.tmp 6) (.tmp 23) rfl w.heap.size (st7 kind (.slice (some ⟨v5.heap.size + 1, 0, none⟩) 1 1) (.slice (some ⟨v5.heap.size, 0, none⟩) 1 1) ⟨#[]⟩ 0 0 place) (by rfl) (by rfl) TSt z7 HI7.out.res (size7 _ _ _ _ _ _ _) rfl (one7 _ _ _ _ _ _ _ _ _ _ _) ?_
        refine hK _ _ ?_
        clear hK K
        refine wpAny_done (by kernel_rfl) ?_ _
        refine NoPanic.normal ?_
        have hd := HI7.out.done (kind := kind) (place := place) hlt HA7.out HA67.out (st7 kind (.slice (some ⟨v5.heap.size + 1, 0, none⟩) 1 1) (.slice (some ⟨v5.heap.size, 0, none⟩) 1 1) ⟨#[]⟩ 0 0 place)
        have HD := Lib.hid hd
        have hz := HI7.out.res
        clear hd
        go_wp2
        refine fin_guarded _ _ _ _ _ _ _ _ (by simp) hz ⟨_, _, _, rfl, HD.out.1, HD.out.2.1, HD.out.2.2⟩
  · go_simp
    refine (cs _ HId.out.p).mono ?_
    rintro e v4 ⟨c2, rfl, hst, hp, hk⟩
    obtain ⟨k3, nm3, t3, p3, p4, a3, l3, c3, a4, l4, q4, e3, z3⟩ := hst.seven
    rw [e3]
    have HI4 := Lib.hid (HId.out.next hlt hp hk HG4.out)
    have hBm := (Array.getElem?_eq_some_iff.1 HId.out.left).1
    have HST4 := Lib.hid (show StAt (New (w.heap.size + 1)) v4 s c2 from hst.mono ⟨Nat.le_refl _, fun _ _ _ => rfl⟩ fun b hb => Nat.le_trans (by have := HId.out.lt; omega) hb)
    have HZ3 := Lib.hid (And.intro e3 z3)
    clear hp hk hst e3 z3 hBm
    refine hK _ _ ?_
    clear hK K
    refine wpAny_ready (rs := [1, 5]) (by kernel_rfl) (by simp) ?_
    refine AllReady.cons rfl (fun K hK => ?_) (AllReady.cons rfl (fun K hK => ?_) AllReady.nil)
    · have hl5 := HI4.out.left
      rw [HE1.out] at hl5
      obtain ⟨y0, y1, y2, y3, y4, y5, y6, y7⟩ := cells8 hl5
      go_simp
      refine hK _ _ ?_
      clear hK K y0 y1 y2 y3 y4 y5 y6 y7 hl5
      refine wpAny_ready (rs := [2, 5]) (by kernel_rfl) (by simp) ?_
      refine AllReady.cons rfl (fun K hK => ?_) (AllReady.cons rfl (fun K hK => ?_) AllReady.nil)
      · go_simp
        refine hK _ _ ?_
        clear hK K
        have HB6 := Lib.hid (show Below v4.heap.size v4 (v4.alloc (.cells (ex8 k1 ⟨op1.toArray⟩ ⟨nm1.toArray⟩ n1 b1 (.slice a1 l1 q1) t1 p1) TE)) from (Below.refl _ _).alloc (Nat.le_refl _) _)
        have HI6 := Lib.hid (HI4.out.below HB6.out)
        have HA6 := Grow.one (e := TE) (M := w.heap.size + 1) (n := 8) stays_ex (by have h1 := HI4.out.lt; have h2 := (Array.getElem?_eq_some_iff.1 HI4.out.left).1; omega) HI4.out.ex HZ1.out
        rw [HE1.out] at HA6
        have HA6 := Lib.hid HA6
        have HST6 := Lib.hid (HST4.out.mono (w' := (v4.alloc (.cells (ex8 k1 ⟨op1.toArray⟩ ⟨nm1.toArray⟩ n1 b1 (.slice a1 l1 q1) t1 p1) TE))) ⟨HB6.out.size, fun b _ hl => HB6.out.block b hl⟩ fun b hb => hb)
        refine wpAny_ready (rs := [5]) (by kernel_rfl) (by simp) ?_
        refine AllReady.cons rfl (fun K hK => ?_) AllReady.nil
        go_simp
        refine hK _ _ ?_
        clear hK K
        have HB7 := Lib.hid (show Below (v4.alloc (.cells (ex8 k1 ⟨op1.toArray⟩ ⟨nm1.toArray⟩ n1 b1 (.slice a1 l1 q1) t1 p1) TE)).heap.size (v4.alloc (.cells (ex8 k1 ⟨op1.toArray⟩ ⟨nm1.toArray⟩ n1 b1 (.slice a1 l1 q1) t1 p1) TE)) ((v4.alloc (.cells (ex8 k1 ⟨op1.toArray⟩ ⟨nm1.toArray⟩ n1 b1 (.slice a1 l1 q1) t1 p1) TE)).alloc (.cells (st7 k3 (.slice a3 l3 c3) (.slice a4 l4 q4) ⟨nm3.toArray⟩ t3 p3 p4) TSt)) from (Below.refl _ _).alloc (Nat.le_refl _) _)
        have HI7 := Lib.hid (HI6.out.below HB7.out)
        have HA67 := Lib.hid (HA6.out.below stays_ex HB7.out)
        have HA7 := Grow.one (e := TSt) (M := w.heap.size + 1) (n := 7) stays_st (by have h1 := HI6.out.lt; have h2 := (Array.getElem?_eq_some_iff.1 HI6.out.left).1; omega) HST6.out HZ3.out.2
        rw [HZ3.out.1] at HA7
        simp only [World.size_alloc] at HA7
        have HA7 := Lib.hid HA7
        have HST7 := Lib.hid (HST6.out.mono (w' := ((v4.alloc (.cells (ex8 k1 ⟨op1.toArray⟩ ⟨nm1.toArray⟩ n1 b1 (.slice a1 l1 q1) t1 p1) TE)).alloc (.cells (st7 k3 (.slice a3 l3 c3) (.slice a4 l4 q4) ⟨nm3.toArray⟩ t3 p3 p4) TSt))) ⟨HB7.out.size, fun b _ hl => HB7.out.block b hl⟩ fun b hb => hb)
        refine wpAny_ready (rs := [7]) (by kernel_rfl) (by simp) ?_
        refine AllReady.cons rfl (fun K hK => ?_) AllReady.nil
        go_simp
        refine hK _ _ ?_
        clear hK K
        refine wpAny_ready (rs := [8]) (by kernel_rfl) (by simp) ?_
        refine AllReady.cons rfl (fun K hK => ?_) AllReady.nil
        rw [if_pos (by kernel_rfl)]
        refine wp_store_row TSt (.tmp 6) (.tmp 23) rfl w.heap.size (st7 kind (.slice (some ⟨v4.heap.size, 0, none⟩) 1 1) (.slice (some ⟨v4.heap.size + 1, 0, none⟩) 1 1) ⟨#[]⟩ 0 0 place) (by rfl) (by rfl) TSt z7 HI7.out.res (size7 _ _ _ _ _ _ _) rfl (one7 _ _ _ _ _ _ _ _ _ _ _) ?_
        refine hK _ _ ?_
        clear hK K
        refine wpAny_done (by kernel_rfl) ?_ _
        refine NoPanic.normal ?_
        have hd := HI7.out.done (kind := kind) (place := place) hlt HA67.out HA7.out (st7 kind (.slice (some ⟨v4.heap.size, 0, none⟩) 1 1) (.slice (some ⟨v4.heap.size + 1, 0, none⟩) 1 1) ⟨#[]⟩ 0 0 place)
        have HD := Lib.hid hd
        have hz := HI7.out.res
        clear hd
        go_wp2
        refine fin_guarded _ _ _ _ _ _ _ _ (by simp) hz ⟨_, _, _, rfl, HD.out.1, HD.out.2.1, HD.out.2.2⟩
      · go_simp
        refine hK _ _ ?_
        clear hK K
        have HB6 := Lib.hid (show Below v4.heap.size v4 (v4.alloc (.cells (st7 k3 (.slice a3 l3 c3) (.slice a4 l4 q4) ⟨nm3.toArray⟩ t3 p3 p4) TSt)) from (Below.refl _ _).alloc (Nat.le_refl _) _)
        have HI6 := Lib.hid (HI4.out.below HB6.out)
        have HA6 := Grow.one (e := TSt) (M := w.heap.size + 1) (n := 7) stays_st (by have h1 := HI4.out.lt; have h2 := (Array.getElem?_eq_some_iff.1 HI4.out.left).1; omega) HST4.out HZ3.out.2
        rw [HZ3.out.1] at HA6
        have HA6 := Lib.hid HA6
        have HST6 := Lib.hid (HST4.out.mono (w' := (v4.alloc (.cells (st7 k3 (.slice a3 l3 c3) (.slice a4 l4 q4) ⟨nm3.toArray⟩ t3 p3 p4) TSt))) ⟨HB6.out.size, fun b _ hl => HB6.out.block b hl⟩ fun b hb => hb)
        refine wpAny_ready (rs := [2]) (by kernel_rfl) (by simp) ?_
        refine AllReady.cons rfl (fun K hK => ?_) AllReady.nil
        go_simp
        refine hK _ _ ?_
        clear hK K
        have HB7 := Lib.hid (show Below (v4.alloc (.cells (st7 k3 (.slice a3 l3 c3) (.slice a4 l4 q4) ⟨nm3.toArray⟩ t3 p3 p4) TSt)).heap.size (v4.alloc (.cells (st7 k3 (.slice a3 l3 c3) (.slice a4 l4 q4) ⟨nm3.toArray⟩ t3 p3 p4) TSt)) ((v4.alloc (.cells (st7 k3 (.slice a3 l3 c3) (.slice a4 l4 q4) ⟨nm3.toArray⟩ t3 p3 p4) TSt)).alloc (.cells (ex8 k1 ⟨op1.toArray⟩ ⟨nm1.toArray⟩ n1 b1 (.slice a1 l1 q1) t1 p1) TE)) from (Below.refl _ _).alloc (Nat.le_refl _) _)
        have HI7 := Lib.hid (HI6.out.below HB7.out)
        have HA67 := Lib.hid (HA6.out.below stays_st HB7.out)
        have HA7 := Grow.one (e := TE) (M := w.heap.size + 1) (n := 8) stays_ex (by have h1 := HI6.out.lt; have h2 := (Array.getElem?_eq_some_iff.1 HI6.out.left).1; omega) HI6.out.ex HZ1.out
        rw [HE1.out] at HA7
        simp only [World.size_alloc] at HA7
        have HA7 := Lib.hid HA7
        have HST7 := Lib.hid (HST6.out.mono (w' := ((v4.alloc (.cells (st7 k3 (.slice a3 l3 c3) (.slice a4 l4 q4) ⟨nm3.toArray⟩ t3 p3 p4) TSt)).alloc (.cells (ex8 k1 ⟨op1.toArray⟩ ⟨nm1.toArray⟩ n1 b1 (.slice a1 l1 q1) t1 p1) TE))) ⟨HB7.out.size, fun b _ hl => HB7.out.block b hl⟩ fun b hb => hb)
        refine wpAny_ready (rs := [7]) (by kernel_rfl) (by simp) ?_
        refine AllReady.cons rfl (fun K hK => ?_) AllReady.nil
        go_simp
        refine hK _ _ ?_
        clear hK K
        refine wpAny_ready (rs := [8]) (by kernel_rfl) (by simp) ?_
        refine AllReady.cons rfl (fun K hK => ?_) AllReady.nil
        rw [if_pos (by kernel_rfl)]
        refine wp_store_row TSt (.tmp 6) (.tmp 23) rfl w.heap.size (st7 kind (.slice (some ⟨v4.heap.size + 1, 0, none⟩) 1 1) (.slice (some ⟨v4.heap.size, 0, none⟩) 1 1) ⟨#[]⟩ 0 0 place) (by rfl) (by rfl) TSt z7 HI7.out.res (size7 _ _ _ _ _ _ _) rfl (one7 _ _ _ _ _ _ _ _ _ _ _) ?_
        refine hK _ _ ?_
        clear hK K
        refine wpAny_done (by kernel_rfl) ?_ _
        refine NoPanic.normal ?_
        have hd := HI7.out.done (kind := kind) (place := place) hlt HA7.out HA67.out (st7 kind (.slice (some ⟨v4.heap.size + 1, 0, none⟩) 1 1) (.slice (some ⟨v4.heap.size, 0, none⟩) 1 1) ⟨#[]⟩ 0 0 place)
        have HD := Lib.hid hd
        have hz := HI7.out.res
        clear hd
        go_wp2
        refine fin_guarded _ _ _ _ _ _ _ _ (by simp) hz ⟨_, _, _, rfl, HD.out.1, HD.out.2.1, HD.out.2.2⟩
    · go_simp
      refine hK _ _ ?_
      clear hK K
      have HB5 := Lib.hid (show Below v4.heap.size v4 (v4.alloc (.cells (st7 k3 (.slice a3 l3 c3) (.slice a4 l4 q4) ⟨nm3.toArray⟩ t3 p3 p4) TSt)) from (Below.refl _ _).alloc (Nat.le_refl _) _)
      have HI5 := Lib.hid (HI4.out.below HB5.out)
      have HA5 := Grow.one (e := TSt) (M := w.heap.size + 1) (n := 7) stays_st (by have h1 := HI4.out.lt; have h2 := (Array.getElem?_eq_some_iff.1 HI4.out.left).1; omega) HST4.out HZ3.out.2
      rw [HZ3.out.1] at HA5
      have HA5 := Lib.hid HA5
      have HST5 := Lib.hid (HST4.out.mono (w' := (v4.alloc (.cells (st7 k3 (.slice a3 l3 c3) (.slice a4 l4 q4) ⟨nm3.toArray⟩ t3 p3 p4) TSt))) ⟨HB5.out.size, fun b _ hl => HB5.out.block b hl⟩ fun b hb => hb)
      refine wpAny_ready (rs := [1]) (by kernel_rfl) (by simp) ?_
      refine AllReady.cons rfl (fun K hK => ?_) AllReady.nil
      have hl6 := HI5.out.left
      rw [HE1.out] at hl6
      obtain ⟨y0, y1, y2, y3, y4, y5, y6, y7⟩ := cells8 hl6
      go_simp
      refine hK _ _ ?_
      clear hK K y0 y1 y2 y3 y4 y5 y6 y7 hl6
      refine wpAny_ready (rs := [2]) (by kernel_rfl) (by simp) ?_
      refine AllReady.cons rfl (fun K hK => ?_) AllReady.nil
      go_simp
      refine hK _ _ ?_
      clear hK K
      have HB7 := Lib.hid (show Below (v4.alloc (.cells (st7 k3 (.slice a3 l3 c3) (.slice a4 l4 q4) ⟨nm3.toArray⟩ t3 p3 p4) TSt)).heap.size (v4.alloc (.cells (st7 k3 (.slice a3 l3 c3) (.slice a4 l4 q4) ⟨nm3.toArray⟩ t3 p3 p4) TSt)) ((v4.alloc (.cells (st7 k3 (.slice a3 l3 c3) (.slice a4 l4 q4) ⟨nm3.toArray⟩ t3 p3 p4) TSt)).alloc (.cells (ex8 k1 ⟨op1.toArray⟩ ⟨nm1.toArray⟩ n1 b1 (.slice a1 l1 q1) t1 p1) TE)) from (Below.refl _ _).alloc (Nat.le_refl _) _)
      have HI7 := Lib.hid (HI5.out.below HB7.out)
      have HA57 := Lib.hid (HA5.out.below stays_st HB7.out)
      have HA7 := Grow.one (e := TE) (M := w.heap.size + 1) (n := 8) stays_ex (by have h1 := HI5.out.lt; have h2 := (Array.getElem?_eq_some_iff.1 HI5.out.left).1; omega) HI5.out.ex HZ1.out
      rw [HE1.out] at HA7
      simp only [World.size_alloc] at HA7
      have HA7 := Lib.hid HA7
      have HST7 := Lib.hid (HST5.out.mono (w' := ((v4.alloc (.cells (st7 k3 (.slice a3 l3 c3) (.slice a4 l4 q4) ⟨nm3.toArray⟩ t3 p3 p4) TSt)).alloc (.cells (ex8 k1 ⟨op1.toArray⟩ ⟨nm1.toArray⟩ n1 b1 (.slice a1 l1 q1) t1 p1) TE))) ⟨HB7.out.size, fun b _ hl => HB7.out.block b hl⟩ fun b hb => hb)
      refine wpAny_ready (rs := [7]) (by kernel_rfl) (by simp) ?_
      refine AllReady.cons rfl (fun K hK => ?_) AllReady.nil
      go_simp
      refine hK _ _ ?_
      clear hK K
      refine wpAny_ready (rs := [8]) (by kernel_rfl) (by simp) ?_
      refine AllReady.cons rfl (fun K hK => ?_) AllReady.nil
      rw [if_pos (by kernel_rfl)]
      refine wp_store_row TSt (.tmp 6) (.tmp 23) rfl w.heap.size (st7 kind (.slice (some ⟨v4.heap.size + 1, 0, none⟩) 1 1) (.slice (some ⟨v4.heap.size, 0, none⟩) 1 1) ⟨#[]⟩ 0 0 place) (by rfl) (by rfl) TSt z7 HI7.out.res (size7 _ _ _ _ _ _ _) rfl (one7 _ _ _ _ _ _ _ _ _ _ _) ?_
      refine hK _ _ ?_
      clear hK K
      refine wpAny_done (by kernel_rfl) ?_ _
      refine NoPanic.normal ?_
      have hd := HI7.out.done (kind := kind) (place := place) hlt HA7.out HA57.out (st7 kind (.slice (some ⟨v4.heap.size + 1, 0, none⟩) 1 1) (.slice (some ⟨v4.heap.size, 0, none⟩) 1 1) ⟨#[]⟩ 0 0 place)
      have HD := Lib.hid hd
      have hz := HI7.out.res
      clear hd
      go_wp2
      refine fin_guarded _ _ _ _ _ _ _ _ (by simp) hz ⟨_, _, _, rfl, HD.out.1, HD.out.2.1, HD.out.2.2⟩
end PaC
end Go.Proofs.YtnlbhnmiekanfaaGreatDoor
/-
  A statement with a second one behind it: the struct was filled ahead of its block. Condition: what the parser holds lies in memory.
-/
namespace Go.Proofs.YtnlbhnmiekanfaaGreatDoor
open Go.RowKit Go.Deep
set_option linter.unusedVariables false
set_option linter.unusedSimpArgs false
namespace PaC
open Pa Lx
variable {N : Nat} {Rl : Bs → Prop} {rb : Bs → Nat}
/-- a statement no part of which lies in block B -/
abbrev StNot (B : Nat) (P : Nat → Prop) (w : World) (k : St) (r : List Value) : Prop := StAt (fun b => P b ∧ b ≠ B) w k r
theorem stays_not (B : Nat) : Stays (StNot B) :=
  ⟨fun _ _ _ _ _ _ h1 h2 h3 => h3.mono ⟨h1.1, fun b hb hl => h1.2 b hb.1 hl⟩ fun b hb => ⟨h2 b hb.1, hb.2⟩, fun _ _ _ _ h => h.lt.mono ⟨Nat.le_refl _, fun _ _ _ => rfl⟩ fun b hb => ⟨⟨hb.1.1, hb.2⟩, hb.1.2⟩⟩
structure IfI (N G d : Nat) (Rl : Bs → Prop) (w wr : World) (B : Nat) (cs : Value → Array Value) (acc : List St) (v : Value) (rows : List (List Value)) (ts : List Tok) : Prop where
  own : OwnI N G d Rl TSt z7 w wr B ts (cs v)
  grow : Grow 7 (StNot B) TSt (w.heap.size + 1) wr acc v rows
  apart : v.ownBlock ≠ some B
section
variable {G d B : Nat} {w wr w2 w1 : World} {cs : Value → Array Value} {acc : List St} {v v' : Value} {rows : List (List Value)} {ts ts2 : List Tok}
theorem IfI.next (hs : Stays StAt) (hlt : N ≤ w.heap.size ∧ G < N) (h : IfI N G d Rl w wr B cs acc v rows ts) (hp : PAt N w2 G ts2 d) (hk : Keep G wr w2) (hg : Good Rl ts2) : IfI N G d Rl w w2 B cs acc v rows ts2 :=
  ⟨h.own.next hlt hp hk hg, h.grow.keep (stays_not B) hk (by omega), h.apart⟩
theorem IfI.below (hs : Stays StAt) (h : IfI N G d Rl w wr B cs acc v rows ts) (hb : Below wr.heap.size wr w2) : IfI N G d Rl w w2 B cs acc v rows ts :=
  ⟨h.own.below hb, h.grow.below (stays_not B) hb, h.apart⟩
theorem IfI.drew (hs : Stays StAt) (h : IfI N G d Rl w wr B cs acc v rows ts) : IfI N G d Rl w wr.drew B cs acc v rows ts := h.below hs ⟨rfl, rfl, rfl, Nat.le_refl _, fun _ _ => rfl⟩
theorem IfI.block (h : IfI N G d Rl w wr B cs acc v rows ts) : ∀ b, v.ownBlock = some b → b < wr.heap.size := fun b hb => (h.grow.block hb).2
theorem IfI.push {k : St} {r : List Value} {M i : Nat} (hs : Stays StAt) (hlt : N ≤ w.heap.size ∧ G < N) (h : IfI N G d Rl w wr B cs acc v rows ts) (hM : ∀ b, v.ownBlock = some b → b < M) (hM2 : B < M) (hr : StAt (New M) wr k r) (hrl : r.length = 7)
    (hown : w2.ownsRow (w.heap.size + 1) TSt 7 v' (acc.length + 1) (rows.flatten ++ r)) (hg : wr.grownBy w2 v.ownBlock) (hat : v'.ownBlock = v.ownBlock ∨ v'.ownBlock = some wr.heap.size) (hc : ∀ v v', (cs v).setIfInBounds i v' = cs v') :
    w2.heap[B]? = some (.cells (cs v) TSt (0, 0)) ∧ IfI N G d Rl w (w2.setCell ⟨B, i, none⟩ v') B cs (acc ++ [k]) v' (rows ++ [r]) ts := by
  have hB := h.own.lt
  have hBl := (Array.getElem?_eq_some_iff.1 h.own.left).1
  have hk : ∀ b, b ≤ w.heap.size → w2.heap[b]? = wr.heap[b]? := fun b hb => hg.block b (by omega) fun e2 => by have := (h.grow.block e2.symm).1; omega
  have hkB : w2.heap[B]? = wr.heap[B]? := hg.block B hBl fun e2 => h.apart e2.symm
  have ho : OwnI N G d Rl TSt z7 w w2 B ts (cs v) := by
    refine ⟨h.own.p.frame hg.size fun b hb => hk b (by omega), h.own.good, ?_, (hk _ (Nat.le_refl _)).trans h.own.res, hkB.trans h.own.left, hB⟩
    exact ⟨hg.os.trans h.own.keep.os, hg.tape.trans h.own.keep.tape, hg.output.trans h.own.keep.output, Nat.le_trans h.own.keep.size hg.size, fun b hb hne => (hk b (by omega)).trans (h.own.keep.block b hb hne)⟩
  have hgr : Grow 7 (StNot B) TSt (w.heap.size + 1) w2 (acc ++ [k]) v' (rows ++ [r]) :=
    h.grow.push (stays_not B) (hr.mono ⟨Nat.le_refl _, fun _ _ _ => rfl⟩ fun b hb => by have : M ≤ b := hb; exact ⟨⟨by omega, fun e2 => by have := hM b e2; omega⟩, by omega⟩) hrl hown hg hat
  have hap : v'.ownBlock ≠ some B := by
    rcases hat with e2 | e2
    · rw [e2]; exact h.apart
    · rw [e2]; intro e3; cases e3; omega
  refine ⟨ho.left, ho.set hlt i v' (hc _ _), ?_, hap⟩
  have hset : w2.grownBy (w2.setCell ⟨B, i, none⟩ v') (some B) := ⟨rfl, rfl, rfl, by simp [World.setCell], fun b hb hne => Below.heap_setCell _ _ _ _ (by show b ≠ B; intro e2; exact hne (by rw [e2]))⟩
  refine ⟨hgr.own.kept hset (.inr hap), hgr.len, hgr.wide, hgr.none_, fun j q x hi hx => ?_⟩
  exact (hgr.at_ j q x hi hx).mono ⟨hset.size, fun b hb hl => hset.block b hl fun e2 => hb.2 (Option.some.inj e2)⟩ fun b hb => hb
/-- behind what guarded answered -/
theorem IfI.first {s : St} {q : Option Addr} {ev : Value} {M : Nat} {kind place : Int} {x : List Ex} (hlt : N ≤ w.heap.size ∧ G < N) (hg : Good Rl ts) (hp : PAt N w1 G ts d) (hk : Keep G (w.alloc (.cells z7 TSt)) w1) (hM : w.heap.size + 1 ≤ M) (hgr : Grow 7 StAt TSt M w1 [s] (.slice q 1 1) rows) :
    IfI N G d Rl w (w1.alloc (.cells (st7 kind ev (.slice q 1 1) ⟨#[]⟩ 0 0 place) TSt)) w1.heap.size (fun v => st7 kind ev v ⟨#[]⟩ 0 0 place) [s] (.slice q 1 1) rows ts := by
  have hb : Below w1.heap.size w1 (w1.alloc (.cells (st7 kind ev (.slice q 1 1) ⟨#[]⟩ 0 0 place) TSt)) := (Below.refl _ _).alloc (Nat.le_refl _) _
  refine ⟨OwnI.first hlt hg hp hk, ?_, fun e2 => by have := (hgr.block e2).2; omega⟩
  have h2 := hgr.below stays_st hb
  refine ⟨⟨h2.own.1, ?_⟩, h2.len, h2.wide, h2.none_, fun j r k hi hx => ?_⟩
  · rcases h2.own.2 with h3 | ⟨g, cap, cur, h3, h4, h5⟩
    · exact .inl h3
    · exact .inr ⟨g, cap, cur, h3, by omega, h5⟩
  · refine (hgr.at_ j r k hi hx).lt.mono ⟨hb.size, fun b _ hl => hb.block b hl⟩ fun b hb => ⟨⟨by have := hb.1.1; omega, hb.1.2⟩, by have := hb.2; omega⟩
end
end PaC
end Go.Proofs.YtnlbhnmiekanfaaGreatDoor
/-
  A statement with a second one behind it: the row of two. Condition: what the parser holds lies in memory.
-/
namespace Go.Proofs.YtnlbhnmiekanfaaGreatDoor
open Go.RowKit Go.Deep
set_option linter.unusedVariables false
set_option linter.unusedSimpArgs false
namespace PaC
open Pa Lx
variable {N : Nat} {Rl : Bs → Prop} {rb : Bs → Nat}
/-- an append to a row that is full: the row is new -/
theorem wp_append_full {P : Program} {w : World} {o : Oper} {a : Act} {K : Act → World → Prop} {Q : Exit → Act → World → Prop} (s x : Operand) (t : TypeId) (ho : o.op = .call { callee := .builtin .append, args := #[s, x], argTypes := #[t, t] })
    (base : Nat) (e : TypeId) (i : TypeInfo) (z : Value) (size bytes : Nat) (ht : P.underlying t = some (.slice e)) (hi : P.info? e = some i) (hz : i.zero = some z) (hsize : i.size = size) (hby : i.bytes = bytes) (hzs : z.cells.size = size)
    (q : Option Addr) (n : Nat) (xs : List Value) (hs : a.eval s = .slice q n n) (h0 : 0 < n) (hown : w.ownsRow base e size (.slice q n n) n xs) (ad : Addr) (news : List Value) (hx : a.eval x = .slice (some ad) 1 1) (hl : news.length = size) (hnews : ∀ j u, news[j]? = some u → w.cell? (ad.add j) = some u)
    (hn : n + 1 ≤ 1100000) (hb : bytes ≤ 1000)
    (h : ∀ c w', w'.ownsRow w.heap.size e size (.slice (some ⟨w.heap.size, 0, none⟩) (n + 1) c) (n + 1) (xs ++ news) → Below w.heap.size w w' → K (a.put o.dst (.slice (some ⟨w.heap.size, 0, none⟩) (n + 1) c)) w') : o.wp P a w K Q := by
  subst hsize
  subst hby
  rcases hown.2 with ⟨h1, h2⟩ | ⟨g, cap, cur, h1, hbg, hg, hnc, hcm, hcs, htake⟩
  · omega
  · injection h1 with h1 h2 h3
    subst h1
    subst h3
    have holds : ∀ j u, xs[j]? = some u → w.cell? ((⟨g, 0, none⟩ : Addr).add j) = some u := hown.cells (g := g) rfl
    have hbytes : (n + 1) * i.bytes ≤ 140737488355328 := Nat.le_trans (Nat.mul_le_mul hn hb) (by decide)
    have hr := run_append_grow (P := P) w t o.type e i z ht hi hz ⟨g, 0, none⟩ n n xs hown.1 holds ad 1 1 news (by rw [hl, Nat.one_mul]) hnews (by omega) (by omega) (growslice_fits (by omega) hbytes)
    have hge := grownCap_ge w (n + 1) n e
    have hcm2 : grownCap w (n + 1) n e ≤ maxLen := grownCap_le_maxLen w (n + 1) n e (by unfold maxLen; omega)
    have hlen : (xs ++ news).length = (n + 1) * i.size := by rw [List.length_append, hown.1, hl, Nat.add_mul, Nat.one_mul]
    unfold Oper.wp execOp
    simp only [ho, resolve, invoke, builtin, Sem.run_bind, Sem.run_pure, Result.andThen_ok, List.map_toArray, List.map_cons, List.map_nil, hs, hx, hr]
    refine h _ _ ⟨hlen, .inr ⟨w.heap.size, _, _, rfl, Nat.le_refl _, heap_alloc_new w.drew _, hge, hcm2, ?_, ?_⟩⟩ ⟨rfl, rfl, rfl, by simp, fun k hk => Lib.alloc_old w.drew _ _ hk⟩
    · simp only [Array.size_append, List.size_toArray, size_zeroCells, hzs, hown.1, hl]
      rw [show n * i.size + i.size = (n + 1) * i.size by rw [Nat.add_mul, Nat.one_mul], ← Nat.add_mul]
      congr 1
      omega
    · simp only [Array.toList_append, List.append_assoc]
      rw [← List.append_assoc, ← hlen]
      exact List.take_left
/-- a condition, a statement and the struct that holds them, the struct's block behind both -/
structure ElseI (N G d : Nat) (Rl : Bs → Prop) (w wr : World) (B : Nat) (x : Ex) (ev : Value) (pl : Int) (acc : List St) (v : Value) (rows : List (List Value)) (ts : List Tok) : Prop where
  i : IfI N G d Rl w wr B (fun v => st7 2 ev v ⟨#[]⟩ 0 0 pl) acc v rows ts
  ks : KsAt (fun b => w.heap.size + 1 ≤ b ∧ b ≠ B) wr [x] ev
  dv : wr.heap[w.heap.size + 1]? = some (.cells #[ptr G] 121 (0, 0))
  lt2 : w.heap.size + 1 < B
section
variable {G d B : Nat} {w wr w2 w1 : World} {x : Ex} {ev v v' : Value} {pl : Int} {acc : List St} {rows : List (List Value)} {ts ts2 : List Tok}
theorem ElseI.own (h : ElseI N G d Rl w wr B x ev pl acc v rows ts) : OwnI N G d Rl TSt z7 w wr B ts (st7 2 ev v ⟨#[]⟩ 0 0 pl) := h.i.own
theorem ElseI.block (h : ElseI N G d Rl w wr B x ev pl acc v rows ts) : True := trivial
theorem ElseI.next (hs : Stays StAt) (hlt : N ≤ w.heap.size ∧ G < N) (h : ElseI N G d Rl w wr B x ev pl acc v rows ts) (hp : PAt N w2 G ts2 d) (hk : Keep G wr w2) (hg : Good Rl ts2) : ElseI N G d Rl w w2 B x ev pl acc v rows ts2 :=
  ⟨h.i.next hs hlt hp hk hg, h.ks.mono ⟨hk.size, fun b hb hl => hk.block b hl (by have := hb.1; omega)⟩ fun b hb => hb, hk.at (by omega) h.dv, h.lt2⟩
theorem ElseI.below (hs : Stays StAt) (h : ElseI N G d Rl w wr B x ev pl acc v rows ts) (hb : Below wr.heap.size wr w2) : ElseI N G d Rl w w2 B x ev pl acc v rows ts :=
  ⟨h.i.below hs hb, h.ks.mono ⟨hb.size, fun b _ hl => hb.block b hl⟩ fun b hb => hb, (hb.block _ (Array.getElem?_eq_some_iff.1 h.dv).1).trans h.dv, h.lt2⟩
theorem ElseI.drew (hs : Stays StAt) (h : ElseI N G d Rl w wr B x ev pl acc v rows ts) : ElseI N G d Rl w wr.drew B x ev pl acc v rows ts := h.below hs ⟨rfl, rfl, rfl, Nat.le_refl _, fun _ _ => rfl⟩
/-- with the second one appended, in a new row -/
theorem ElseI.push {k : St} {r : List Value} {M : Nat} {c : Nat} (hlt : N ≤ w.heap.size ∧ G < N) (h : ElseI N G d Rl w wr B x ev pl acc v rows ts) (hM2 : B < M) (hr : StAt (New M) wr k r) (hrl : r.length = 7)
    (hown : w2.ownsRow wr.heap.size TSt 7 (.slice (some ⟨wr.heap.size, 0, none⟩) (acc.length + 1) c) (acc.length + 1) (rows.flatten ++ r)) (hb : Below wr.heap.size wr w2) :
    w2.heap[B]? = some (.cells (st7 2 ev v ⟨#[]⟩ 0 0 pl) TSt (0, 0)) ∧ ElseI N G d Rl w (w2.setCell ⟨B, 2, none⟩ (.slice (some ⟨wr.heap.size, 0, none⟩) (acc.length + 1) c)) B x ev pl (acc ++ [k]) (.slice (some ⟨wr.heap.size, 0, none⟩) (acc.length + 1) c) (rows ++ [r]) ts := by
  have h2 := h.below stays_st hb
  have hB := h.own.lt
  have hBl := (Array.getElem?_eq_some_iff.1 h.own.left).1
  have hl2 := h.lt2
  have hap : (Value.slice (some ⟨wr.heap.size, 0, none⟩) (acc.length + 1) c).ownBlock ≠ some B := fun e2 => by
    have : some wr.heap.size = some B := e2
    cases this; omega
  have hset : w2.grownBy (w2.setCell ⟨B, 2, none⟩ (.slice (some ⟨wr.heap.size, 0, none⟩) (acc.length + 1) c)) (some B) := ⟨rfl, rfl, rfl, by simp [World.setCell], fun b hb hne => Below.heap_setCell _ _ _ _ (by show b ≠ B; intro e2; exact hne (by rw [e2]))⟩
  refine ⟨h2.own.left, ⟨h2.i.own.set hlt 2 _ rfl, ?_, hap⟩, h2.ks.mono ⟨hset.size, fun b hb hl => hset.block b hl fun e2 => hb.2 (Option.some.inj e2)⟩ fun b hb => hb, (Below.heap_setCell _ _ _ _ (by show w.heap.size + 1 ≠ B; omega)).trans h2.dv, h.lt2⟩
  have ho : w2.ownsRow (w.heap.size + 1) TSt 7 (.slice (some ⟨wr.heap.size, 0, none⟩) (acc.length + 1) c) (acc.length + 1) (rows.flatten ++ r) := by
    refine ⟨hown.1, ?_⟩
    rcases hown.2 with h3 | ⟨g, cap, cur, h3, h4, h5⟩
    · exact .inl h3
    · exact .inr ⟨g, cap, cur, h3, by have := h.own.keep.size; omega, h5⟩
  have key : ∀ (k : St) (r : List Value), StAt (fun b => (w.heap.size + 1 ≤ b ∧ b ≠ B) ∧ b < wr.heap.size) wr k r → StNot B (fun b => w.heap.size + 1 ≤ b ∧ (Value.slice (some ⟨wr.heap.size, 0, none⟩) (acc.length + 1) c).ownBlock ≠ some b) (w2.setCell ⟨B, 2, none⟩ (.slice (some ⟨wr.heap.size, 0, none⟩) (acc.length + 1) c)) k r := fun k r hq => by
    refine hq.mono ⟨Nat.le_trans hb.size hset.size, fun b hb' hl => ?_⟩ fun b hb' => ⟨⟨hb'.1.1, fun e2 => ?_⟩, hb'.1.2⟩
    · rw [hset.block b (Nat.lt_of_lt_of_le hl hb.size) fun e2 => hb'.1.2 (Option.some.inj e2)]
      exact hb.block b hl
    · have e3 : some wr.heap.size = some b := e2
      have := hb'.2
      cases e3
      omega
  refine ⟨?_, by simp [h.i.grow.len], ?_, fun e2 => by simp at e2, fun j q y hj hy => ?_⟩
  · have := ho.kept hset (.inr hap)
    simpa using this
  · intro q hq
    rcases List.mem_append.1 hq with hq | hq
    · exact h.i.grow.wide q hq
    · rw [List.mem_singleton.1 hq]; exact hrl
  · have hlen := h.i.grow.len
    by_cases hj2 : j < rows.length
    · rw [List.getElem?_append_left hj2] at hj
      rw [List.getElem?_append_left (by omega)] at hy
      exact key _ _ ((h.i.grow.at_ j q y hj hy).lt.mono ⟨Nat.le_refl _, fun _ _ _ => rfl⟩ fun b hb' => ⟨⟨hb'.1.1.1, hb'.1.2⟩, hb'.2⟩)
    · rw [List.getElem?_append_right (by omega)] at hj
      rw [List.getElem?_append_right (by omega)] at hy
      have h0 : j - rows.length = 0 := by have := (List.getElem?_eq_some_iff.1 hj).1; simp at this; exact this
      rw [h0] at hj
      rw [← hlen, h0] at hy
      cases hj; cases hy
      exact key _ _ (hr.lt.mono ⟨Nat.le_refl _, fun _ _ _ => rfl⟩ fun b hb' => ⟨⟨by have : M ≤ b := hb'.1; omega, by have : M ≤ b := hb'.1; omega⟩, hb'.2⟩)
end
end PaC
end Go.Proofs.YtnlbhnmiekanfaaGreatDoor
