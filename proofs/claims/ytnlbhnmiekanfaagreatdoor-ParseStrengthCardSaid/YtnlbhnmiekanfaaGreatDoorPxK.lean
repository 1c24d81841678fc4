/-
  ParMo ParGd ParPa ParPb ParPc, joined.
  Conditions: those that are written at each.
-/
import Derived.Test.YtnlbhnmiekanfaaGreatDoorPxJ
import Derived.Test.YtnlbhnmiekanfaaGreatDoorLexL
import Derived.Test.YtnlbhnmiekanfaaGreatDoorPxA
import Derived.Test.YtnlbhnmiekanfaaGreatDoorLexLx
import Derived.Test.YtnlbhnmiekanfaaGreatDoorLexDt
/-
  The parser's modules. Condition: what the parser holds lies in memory.
-/
namespace Go.Proofs.YtnlbhnmiekanfaaGreatDoor
open Go.RowKit Go.Deep
set_option linter.unusedVariables false
set_option linter.unusedSimpArgs false
namespace PaC
open Pa Lx
attribute [local go_sem] fld0 fld1 fld2
variable {N : Nat} {Rl : Bs → Prop} {rb : Bs → Nat}
abbrev TMo : TypeId := 27
theorem size1 (v : Value) : (Tryz.prog.info? TMo).map (·.size) = some (#[v] : Array Value).size := by kernel_rfl
/-- declarations in memory, and what is left -/
def MoOk (N G d : Nat) (ds : List De) (r : List Tok) (w : World) (e : Ending) (w' : World) : Prop := ∃ q n c, e = .returned (.agg #[.slice q n c]) ∧ DsAt (New w.heap.size) w' ds (.slice q n c) ∧ PAt N w' G r d ∧ Keep G w w'
theorem DeAt.seventeen {P : Nat → Prop} {w : World} {x : De} {c : List Value} (h : DeAt P w x c) : ∃ (fu st ex : Bool) (nm : Bs) (t l : Nat) (a1 : Option Addr) (l1 c1 : Nat) (ha : Bool) (a2 : Option Addr) (m2 c2 : Nat) (k : Nat) (a3 : Option Addr) (l3 c3 : Nat) (a4 : Option Addr) (l4 c4 : Nat) (n2 : Bs) (t2 l2 p2 p : Nat),
    c.toArray = de17 fu st ex ⟨nm.toArray⟩ t l (.slice a1 l1 c1) ha (.slice a2 m2 c2) k (.slice a3 l3 c3) (.slice a4 l4 c4) ⟨n2.toArray⟩ t2 l2 p2 p ∧ c.length = 17 := by
  obtain ⟨iv, pv, bc, hi, hp, hb⟩ := h
  obtain ⟨a1, l1, c1, rfl⟩ := hi.slice
  obtain ⟨a2, c2, rfl⟩ := hp.slice
  obtain ⟨k, nm, t, l, p, a3, l3, c3, a4, l4, c4, e1, e2⟩ := hb.seven
  have e3 := congrArg Array.toList e1
  have e4 : bc = [.int .i64 (k : Int), .slice a3 l3 c3, .slice a4 l4 c4, .string ⟨nm.toArray⟩, .int .i64 (t : Int), .int .i64 (l : Int), .int .i64 (p : Int)] := e3
  subst e4
  exact ⟨_, _, _, _, _, _, _, _, _, _, _, _, _, _, _, _, _, _, _, _, _, _, _, _, _, rfl, rfl⟩
theorem de_one (fu st ex : Bool) (nm : ByteArray) (t l : Int) (a1 : Option Addr) (l1 c1 : Nat) (ha : Bool) (a2 : Option Addr) (m2 c2 : Nat) (k : Int) (a3 : Option Addr) (l3 c3 : Nat) (a4 : Option Addr) (l4 c4 : Nat) (n2 : ByteArray) (t2 l2 p2 p : Int) :
    ∀ u ∈ (de17 fu st ex nm t l (.slice a1 l1 c1) ha (.slice a2 m2 c2) k (.slice a3 l3 c3) (.slice a4 l4 c4) n2 t2 l2 p2 p).toList, u.oneCell' = true := by
  have := one17 fu st ex nm t l a1 l1 c1 ha a2 m2 c2 k a3 l3 c3 a4 l4 c4 n2 t2 l2 p2 p
  rw [Array.all_eq_true_iff_forall_mem] at this
  exact fun u hu => this u (Array.mem_toList_iff.1 hu)
section
variable {ops : Array Oper} {rest : List Oper} {o : Oper} {a : Act} {w : World} {Q : Exit → Act → World → Prop}
theorem load1 (hgd : o.guard = none) (x : Operand) (ho : o.op = .load TMo x) (g : Nat) (v : Value) (hx : a.eval x = .pointer (some ⟨g, 0, none⟩)) (hg : w.heap[g]? = some (.cells #[v] TMo (0, 0)))
    (h : wpList Tryz.prog ops Q rest (a.put o.dst (.agg #[v])) w) : wpList Tryz.prog ops Q (o :: rest) a w :=
  wpList_load_row hgd TMo x ho g hx TMo #[v] (0, 0) _ hg Tryz.underlying27 rfl (size1 v) h
theorem store1 (hgd : o.guard = none) (x y : Operand) (ho : o.op = .store TMo x y) (g : Nat) (ad : Option Addr) (l c : Nat) (hx : a.eval x = .pointer (some ⟨g, 0, none⟩)) (hy : a.eval y = .agg #[.slice ad l c]) (old : Array Value) (h8 : old.size = 1)
    (hg : w.heap[g]? = some (.cells old TMo (0, 0))) (h : wpList Tryz.prog ops Q rest (a.put o.dst undef) (w.setRow g #[.slice ad l c])) : wpList Tryz.prog ops Q (o :: rest) a w :=
  wpList_store_row hgd TMo x y ho g #[.slice ad l c] hx hy TMo old hg (size1 _) (by rw [h8]; rfl) (by simp [Value.oneCell']) h
end
theorem fin_module {Q : Ending → World → Prop} (v : Value) {tmps : Array Value} {B : Nat} {w : World} (old : Array Value)
    (hp : tmps.getD 2 undef = .pointer (some ⟨B, 0, none⟩)) (hg : w.heap[B]? = some (.cells old TMo (0, 0))) (hQ : Q (.returned (.agg #[v])) (w.setRow B #[v])) :
    bodyPost Tryz.prog Tryz.f41 Q .ret { tmps := tmps, defers := [] } (w.setRow B #[v]) :=
  bodyPost_ret (v := .agg #[v]) (results_cell_row Tryz.results41 tmps _ B TMo #[v] (0, 0) _ hp (setRow_heap _ _ _ _ _ _ hg) Tryz.underlying27 rfl (size1 v)) rfl hQ
set_option maxRecDepth 100000 in
set_option maxHeartbeats 16000000 in
theorem module_loop {w : World} {G d f : Nat} {ts : List Tok} {X : R (List De)} (hf : f ≤ 1000000) (h : PAt N w G ts d) (hg : Good Rl ts)
    (he : ∀ f', f' ≤ f → ∀ ts, Good Rl ts → ConW (DeOk N G d) N G Rl 65 #[ptr G] d ts (pDecl rb f' ts))
    (hX : X ≠ .out) (hx : X = pModule rb f [] ts) : Calls Tryz.prog 41 #[ptr G] w (RPost (MoOk N G d) G X w) := by
  have hlt := h.base
  have HI0 := Lib.hid (OwnI.first (T := TMo) (z := #[nilV]) (c := #[nilV]) hlt hg (h.below ((Below.refl _ _).alloc (Nat.le_refl _) _)) (Keep.refl G _))
  rw [World.size_alloc] at HI0
  have HX := Lib.hid hx
  have HNX := Lib.hid hX
  have HE := Lib.hid he
  obtain ⟨i0, hi, hz0, hz1, hz2⟩ := info_parts infoD17
  clear h hx hX he hg
  go_enter Tryz.func41, Tryz.ntmps41
  go_upto_region 2 with (fail)
  obtain ⟨B, hB⟩ : ∃ B, B = w.heap.size + 1 := ⟨_, rfl⟩
  rw [← hB] at HI0 ⊢
  have HBB := Lib.hid hB
  clear hB
  go_loopg [7] f (fun gg u7 wr => ∃ (acc : List De) (v : Value) (rows : List (List Value)) (ts : List Tok), gg + acc.length ≤ f ∧ Aside (BlkI 17 DeAt TDe N G d Rl TMo #[nilV] w wr B (fun v => #[v]) acc v rows ts) ∧ Aside (X = pModule rb gg acc ts))
  case atStart => exact ⟨[], _, [], ts, Nat.le_refl _, ⟨HI0.out, .nil _ _ _ _ _⟩, HX.out⟩
  case round =>
    obtain ⟨acc, v, rows, us, hgf, A1, A2⟩ := hrel
    obtain ⟨q, cp, rfl⟩ := row_shape A1.out.grow.own rfl
    cases gk with
    | zero => exact absurd (A2.out.trans (by rw [pModule])) HNX.out
    | succ g =>
    obtain ⟨t, l, rfl⟩ := A1.out.own.good.ne
    have cn : ∀ W, PAt N W G (t :: l) d → Calls Tryz.prog 64 #[ptr G] W (OkPost N G d (tokV t) (t :: l) W) := fun W hW => next2 hW
    by_cases hk : t.kind = 0
    · have A3 : Aside (X = .ok acc (t :: l)) := by show _ = _; rw [A2.out, pModule, if_pos (show (Pa.hd (t :: l)).kind = 0 from hk)]
      have D1 : ((t.kind : Int) == 0) = true := by rw [beq_iff_eq]; omega
      have D2 : ((t.kind : Int) != 0) = false := by rw [bne_eq_false_iff_eq]; omega
      have D3 : (t.kind == 0) = true := by rw [beq_iff_eq]; exact hk
      clear hk
      go_wp2_with (first
        | ((with_reducible refine (cn _ A1.out.own.p).mono ?_); rintro e w2 ⟨rfl, hp, hk⟩; have HI2 := Lib.hid (A1.out.next stays_de hlt hp hk A1.out.own.good); have hl2 := HI2.out.own.left; have hz2 := HI2.out.own.res; clear hp hk cn)
        | ((with_reducible refine load1 rfl (.tmp 3) rfl B (.slice q acc.length cp) ?xc hl2 ?_); (case xc => simp [go_sem]))
        | ((with_reducible refine store1 rfl (.tmp 2) (.tmp 15) rfl w.heap.size q acc.length cp ?xa ?xb #[nilV] rfl hz2 ?_); (case xa => simp [go_sem]); (case xb => simp [go_sem])))
      refine fin_module _ _ (by simp) hz2 ?_
      rw [A3.out]
      have hwB := HI2.out.own.lt
      refine ⟨_, _, _, rfl, ?_, HI2.out.own.p.row (by omega) _, HI2.out.own.keep.row (Nat.le_refl _) _⟩
      have hsm : Same (New (B + 1)) w2 (w2.setRow w.heap.size #[.slice q acc.length cp]) := ⟨by simp, fun b hb hl => setRow_other _ _ _ _ (by have : B + 1 ≤ b := hb; omega)⟩
      exact (HI2.out.grow.done stays_de).mono hsm (fun b hb => by have : B + 1 ≤ b := hb; show w.heap.size ≤ b; omega) fun k r hk => hk.mono hsm fun b hb => by have : B + 1 ≤ b := hb; show w.heap.size ≤ b; omega
    · have A3 : X = (pDecl rb g (t :: l)).bind fun d r => pModule rb g (acc ++ [d]) r := by rw [A2.out, pModule, if_neg (show ¬ (Pa.hd (t :: l)).kind = 0 from hk)]
      have D1 : ((t.kind : Int) == 0) = false := by rw [beq_eq_false_iff_ne]; omega
      have D2 : ((t.kind : Int) != 0) = true := by rw [bne_iff_ne]; omega
      have D3 : (t.kind == 0) = false := by rw [beq_eq_false_iff_ne]; exact hk
      have cc := HE.out g (by omega) _ A1.out.own.good
      cases hq : pDecl rb g (t :: l) with
      | out => exact absurd (A3.trans (by rw [hq]; rfl)) HNX.out
      | bad p er =>
        have cx := cc.at_bad hq
        have A4 : X = .bad p er := A3.trans (by rw [hq]; rfl)
        clear cc hq A3 A2 HX HNX HE hk
        subst A4
        go_upto_region 3 with ((with_reducible refine (cn _ A1.out.own.p).mono ?_); rintro e w6 ⟨rfl, hp, hk⟩; have HI6 := Lib.hid (A1.out.next stays_de hlt hp hk A1.out.own.good); clear hp hk cn)
        refine wp_region_any (by kernel_rfl) ?_
        change wpAny _ _ _ _ _ _ _ (World.drew _)
        refine wpAny_take (i := 0) (v := .pointer (some ⟨B, 0, none⟩)) rfl (by kernel_rfl) (by kernel_rfl) (by kernel_rfl) (fun _ _ _ h => h) (Or.inl ⟨by rfl, by intro w; go_simp⟩) ?_
        refine wpAny_take (i := 2) (v := ptr G) rfl (by kernel_rfl) (by kernel_rfl) (by kernel_rfl) (fun _ _ _ h => h) (Or.inl ⟨by rfl, by intro w; go_simp⟩) ?_
        have HId := Lib.hid (HI6.out.drew stays_de)
        have y0 := HId.out.own.cell (i := 0) (v := (.slice q acc.length cp)) rfl
        refine wpAny_ready (rs := [1, 3]) (by kernel_rfl) (by simp) ?_
        refine AllReady.cons rfl (fun K hK => ?_) (AllReady.cons rfl (fun K hK => ?_) AllReady.nil)
        · go_simp
          refine hK _ _ ?_
          clear hK K y0
          refine wpAny_ready (rs := [3]) (by kernel_rfl) (by simp) ?_
          refine AllReady.cons rfl (fun K hK => ?_) AllReady.nil
          go_simp
          clear hK
          refine (cx _ HId.out.own.p).mono ?_
          rintro e w7 ⟨rfl, hp, hk⟩
          exact ⟨rfl, rfl, hp, HI6.out.own.keep.trans ⟨hk.os, hk.tape, hk.output, hk.size, hk.block⟩⟩
        · clear y0
          go_simp
          clear hK
          refine (cx _ HId.out.own.p).mono ?_
          rintro e w7 ⟨rfl, hp, hk⟩
          exact ⟨rfl, rfl, hp, HI6.out.own.keep.trans ⟨hk.os, hk.tape, hk.output, hk.size, hk.block⟩⟩
      | ok y r3 =>
        obtain ⟨hgr, cx⟩ := cc.at_ok hq
        have HGR := Lib.hid hgr
        have A4 : Aside (X = pModule rb g (acc ++ [y]) r3) := A3.trans (by rw [hq]; rfl)
        clear cc hq A3 A2 HX HNX HE hgr hk
        go_upto_region 3 with ((with_reducible refine (cn _ A1.out.own.p).mono ?_); rintro e w6 ⟨rfl, hp, hk⟩; have HI6 := Lib.hid (A1.out.next stays_de hlt hp hk A1.out.own.good); clear hp hk cn)
        refine wp_region_noPanic ?_
        refine wp_region_any (by kernel_rfl) ?_
        change wpAny _ _ _ _ _ _ _ (World.drew _)
        refine wpAny_take (i := 0) (v := .pointer (some ⟨B, 0, none⟩)) rfl (by kernel_rfl) (by kernel_rfl) (by kernel_rfl) (fun _ _ _ h => h) (Or.inl ⟨by rfl, by intro w; go_simp⟩) ?_
        refine wpAny_take (i := 2) (v := ptr G) rfl (by kernel_rfl) (by kernel_rfl) (by kernel_rfl) (fun _ _ _ h => h) (Or.inl ⟨by rfl, by intro w; go_simp⟩) ?_
        have HId := Lib.hid (HI6.out.drew stays_de)
        refine wpAny_ready (rs := [1, 3]) (by kernel_rfl) (by simp) ?_
        refine AllReady.cons rfl (fun K hK => ?_) (AllReady.cons rfl (fun K hK => ?_) AllReady.nil)
        · have y0 := HId.out.own.cell (i := 0) (v := (.slice q acc.length cp)) rfl
          go_simp
          refine hK _ _ ?_
          clear hK K y0
          refine wpAny_ready (rs := [3]) (by kernel_rfl) (by simp) ?_
          refine AllReady.cons rfl (fun K hK => ?_) AllReady.nil
          go_simp
          refine (cx _ HId.out.own.p).mono ?_
          rintro e w7 ⟨c2, rfl, hst, hp, hk⟩
          obtain ⟨fu3, st3, ex3, nm3, t3, l3, a5, l5, c5, ha3, a6, m6, c6, k3, a7, l7, c7, a8, l8, c8, n4, t4, l4, p4, p3, e3, z3⟩ := hst.seventeen
          rw [e3]
          have HIc := Lib.hid (HId.out.next stays_de hlt hp hk HGR.out)
          have HY := Lib.hid hst
          have HZ3 := Lib.hid (And.intro e3 z3)
          have hBm : B < w6.drew.heap.size := (Array.getElem?_eq_some_iff.1 HId.out.own.left).1
          have HVB := Lib.hid HId.out.block
          clear hp hk hst e3 z3
          refine hK _ _ ?_
          clear hK K
          refine wpAny_ready (rs := [4]) (by kernel_rfl) (by simp) ?_
          refine AllReady.cons rfl (fun K hK => ?_) AllReady.nil
          go_simp
          refine hK _ _ ?_
          clear hK K
          have HIb := Lib.hid (HIc.out.below (w2 := (w7.alloc (.cells (de17 fu3 st3 ex3 ⟨nm3.toArray⟩ t3 l3 (.slice a5 l5 c5) ha3 (.slice a6 m6 c6) k3 (.slice a7 l7 c7) (.slice a8 l8 c8) ⟨n4.toArray⟩ t4 l4 p4 p3) TDe))) stays_de ((Below.refl _ _).alloc (Nat.le_refl _) _))
          have HNW := Lib.hid (World.news_of_block (heap_alloc_new w7 (.cells (de17 fu3 st3 ex3 ⟨nm3.toArray⟩ t3 l3 (.slice a5 l5 c5) ha3 (.slice a6 m6 c6) k3 (.slice a7 l7 c7) (.slice a8 l8 c8) ⟨n4.toArray⟩ t4 l4 p4 p3) TDe)))
          have hBn : B < w7.heap.size := (Array.getElem?_eq_some_iff.1 HIc.out.own.left).1
          refine wpAny_ready (rs := [5]) (by kernel_rfl) (by simp) ?_
          refine AllReady.cons rfl (fun K hK => ?_) AllReady.nil
          rw [if_pos (by kernel_rfl)]
          refine wp_append_at (.tmp 9) (.tmp 12) 25 rfl (B + 1) TDe i0 (.agg z17) 17 200 Tryz.underlying25 hi hz0 hz1 hz2 rfl (by decide) (.slice q acc.length cp) acc.length _ (by rfl) HIb.out.grow.own ⟨w7.heap.size, 0, none⟩ (de17 fu3 st3 ex3 ⟨nm3.toArray⟩ t3 l3 (.slice a5 l5 c5) ha3 (.slice a6 m6 c6) k3 (.slice a7 l7 c7) (.slice a8 l8 c8) ⟨n4.toArray⟩ t4 l4 p4 p3).toList (by rfl) rfl HNW.out (de_one _ _ _ _ _ _ _ _ _ _ _ _ _ _ _ _ _ _ _ _ _ _ _ _ _) (by omega) (by decide) (by simp only [World.size_alloc]; omega) ?_
          intro q6 cp6 w9 hown9 hgrow9 hat9
          obtain ⟨e3, z3⟩ := HZ3.out
          have hpush := HIb.out.push (i := 0) stays_de hlt HVB.out hBm (HY.out.mono (w' := (w7.alloc (.cells (de17 fu3 st3 ex3 ⟨nm3.toArray⟩ t3 l3 (.slice a5 l5 c5) ha3 (.slice a6 m6 c6) k3 (.slice a7 l7 c7) (.slice a8 l8 c8) ⟨n4.toArray⟩ t4 l4 p4 p3) TDe))) ⟨by simp, fun b _ hl => Lib.alloc_old _ _ _ hl⟩ fun b hb => hb) z3 (by have e4 := congrArg Array.toList e3; have e5 : c2 = (de17 fu3 st3 ex3 ⟨nm3.toArray⟩ t3 l3 (.slice a5 l5 c5) ha3 (.slice a6 m6 c6) k3 (.slice a7 l7 c7) (.slice a8 l8 c8) ⟨n4.toArray⟩ t4 l4 p4 p3).toList := e4; rw [e5]; exact hown9) hgrow9 hat9 (fun _ _ => rfl)
          have hf9 : w9.frozen? ⟨B, 0, none⟩ = false := Lib.frozen_of_heap hpush.1 _
          have hc9 : w9.cell? ⟨B, 0, none⟩ = some (.slice q acc.length cp) := Lib.cell_of_heap hpush.1 0
          have HI9 := Lib.hid hpush.2
          clear hpush hown9 hgrow9 hat9 e3 z3
          refine hK _ _ ?_
          clear hK K
          refine wpAny_ready (rs := [6]) (by kernel_rfl) (by simp) ?_
          refine AllReady.cons rfl (fun K hK => ?_) AllReady.nil
          go_simp
          refine hK _ _ ?_
          clear hK K
          refine wpAny_ready (rs := [7]) (by kernel_rfl) (by simp) ?_
          refine AllReady.cons rfl (fun K hK => ?_) AllReady.nil
          go_simp
          refine hK _ _ ?_
          clear hK K hf9 hc9
          refine wpAny_done (by kernel_rfl) ?_ _
          refine NoPanic.normal ?_
          go_wp2
          go_roundg g
          case measure => omega
          case rel => exact ⟨acc ++ [y], _, _, r3, by rw [List.length_append]; simp only [List.length_cons, List.length_nil]; omega, HI9.out, A4.out⟩
        · go_simp
          refine (cx _ HId.out.own.p).mono ?_
          rintro e w7 ⟨c2, rfl, hst, hp, hk⟩
          obtain ⟨fu3, st3, ex3, nm3, t3, l3, a5, l5, c5, ha3, a6, m6, c6, k3, a7, l7, c7, a8, l8, c8, n4, t4, l4, p4, p3, e3, z3⟩ := hst.seventeen
          rw [e3]
          have HIc := Lib.hid (HId.out.next stays_de hlt hp hk HGR.out)
          have HY := Lib.hid hst
          have HZ3 := Lib.hid (And.intro e3 z3)
          have hBm : B < w6.drew.heap.size := (Array.getElem?_eq_some_iff.1 HId.out.own.left).1
          have HVB := Lib.hid HId.out.block
          clear hp hk hst e3 z3
          refine hK _ _ ?_
          clear hK K
          refine wpAny_ready (rs := [1, 4]) (by kernel_rfl) (by simp) ?_
          refine AllReady.cons rfl (fun K hK => ?_) (AllReady.cons rfl (fun K hK => ?_) AllReady.nil)
          · have y0 := HIc.out.own.cell (i := 0) (v := (.slice q acc.length cp)) rfl
            go_simp
            refine hK _ _ ?_
            clear hK K y0
            refine wpAny_ready (rs := [4]) (by kernel_rfl) (by simp) ?_
            refine AllReady.cons rfl (fun K hK => ?_) AllReady.nil
            go_simp
            refine hK _ _ ?_
            clear hK K
            have HIb := Lib.hid (HIc.out.below (w2 := (w7.alloc (.cells (de17 fu3 st3 ex3 ⟨nm3.toArray⟩ t3 l3 (.slice a5 l5 c5) ha3 (.slice a6 m6 c6) k3 (.slice a7 l7 c7) (.slice a8 l8 c8) ⟨n4.toArray⟩ t4 l4 p4 p3) TDe))) stays_de ((Below.refl _ _).alloc (Nat.le_refl _) _))
            have HNW := Lib.hid (World.news_of_block (heap_alloc_new w7 (.cells (de17 fu3 st3 ex3 ⟨nm3.toArray⟩ t3 l3 (.slice a5 l5 c5) ha3 (.slice a6 m6 c6) k3 (.slice a7 l7 c7) (.slice a8 l8 c8) ⟨n4.toArray⟩ t4 l4 p4 p3) TDe)))
            have hBn : B < w7.heap.size := (Array.getElem?_eq_some_iff.1 HIc.out.own.left).1
            refine wpAny_ready (rs := [5]) (by kernel_rfl) (by simp) ?_
            refine AllReady.cons rfl (fun K hK => ?_) AllReady.nil
            rw [if_pos (by kernel_rfl)]
            refine wp_append_at (.tmp 9) (.tmp 12) 25 rfl (B + 1) TDe i0 (.agg z17) 17 200 Tryz.underlying25 hi hz0 hz1 hz2 rfl (by decide) (.slice q acc.length cp) acc.length _ (by rfl) HIb.out.grow.own ⟨w7.heap.size, 0, none⟩ (de17 fu3 st3 ex3 ⟨nm3.toArray⟩ t3 l3 (.slice a5 l5 c5) ha3 (.slice a6 m6 c6) k3 (.slice a7 l7 c7) (.slice a8 l8 c8) ⟨n4.toArray⟩ t4 l4 p4 p3).toList (by rfl) rfl HNW.out (de_one _ _ _ _ _ _ _ _ _ _ _ _ _ _ _ _ _ _ _ _ _ _ _ _ _) (by omega) (by decide) (by simp only [World.size_alloc]; omega) ?_
            intro q6 cp6 w9 hown9 hgrow9 hat9
            obtain ⟨e3, z3⟩ := HZ3.out
            have hpush := HIb.out.push (i := 0) stays_de hlt HVB.out hBm (HY.out.mono (w' := (w7.alloc (.cells (de17 fu3 st3 ex3 ⟨nm3.toArray⟩ t3 l3 (.slice a5 l5 c5) ha3 (.slice a6 m6 c6) k3 (.slice a7 l7 c7) (.slice a8 l8 c8) ⟨n4.toArray⟩ t4 l4 p4 p3) TDe))) ⟨by simp, fun b _ hl => Lib.alloc_old _ _ _ hl⟩ fun b hb => hb) z3 (by have e4 := congrArg Array.toList e3; have e5 : c2 = (de17 fu3 st3 ex3 ⟨nm3.toArray⟩ t3 l3 (.slice a5 l5 c5) ha3 (.slice a6 m6 c6) k3 (.slice a7 l7 c7) (.slice a8 l8 c8) ⟨n4.toArray⟩ t4 l4 p4 p3).toList := e4; rw [e5]; exact hown9) hgrow9 hat9 (fun _ _ => rfl)
            have hf9 : w9.frozen? ⟨B, 0, none⟩ = false := Lib.frozen_of_heap hpush.1 _
            have hc9 : w9.cell? ⟨B, 0, none⟩ = some (.slice q acc.length cp) := Lib.cell_of_heap hpush.1 0
            have HI9 := Lib.hid hpush.2
            clear hpush hown9 hgrow9 hat9 e3 z3
            refine hK _ _ ?_
            clear hK K
            refine wpAny_ready (rs := [6]) (by kernel_rfl) (by simp) ?_
            refine AllReady.cons rfl (fun K hK => ?_) AllReady.nil
            go_simp
            refine hK _ _ ?_
            clear hK K
            refine wpAny_ready (rs := [7]) (by kernel_rfl) (by simp) ?_
            refine AllReady.cons rfl (fun K hK => ?_) AllReady.nil
            go_simp
            refine hK _ _ ?_
            clear hK K hf9 hc9
            refine wpAny_done (by kernel_rfl) ?_ _
            refine NoPanic.normal ?_
            go_wp2
            go_roundg g
            case measure => omega
            case rel => exact ⟨acc ++ [y], _, _, r3, by rw [List.length_append]; simp only [List.length_cons, List.length_nil]; omega, HI9.out, A4.out⟩
          · go_simp
            refine hK _ _ ?_
            clear hK K
            have HIb := Lib.hid (HIc.out.below (w2 := (w7.alloc (.cells (de17 fu3 st3 ex3 ⟨nm3.toArray⟩ t3 l3 (.slice a5 l5 c5) ha3 (.slice a6 m6 c6) k3 (.slice a7 l7 c7) (.slice a8 l8 c8) ⟨n4.toArray⟩ t4 l4 p4 p3) TDe))) stays_de ((Below.refl _ _).alloc (Nat.le_refl _) _))
            have HNW := Lib.hid (World.news_of_block (heap_alloc_new w7 (.cells (de17 fu3 st3 ex3 ⟨nm3.toArray⟩ t3 l3 (.slice a5 l5 c5) ha3 (.slice a6 m6 c6) k3 (.slice a7 l7 c7) (.slice a8 l8 c8) ⟨n4.toArray⟩ t4 l4 p4 p3) TDe)))
            have hBn : B < w7.heap.size := (Array.getElem?_eq_some_iff.1 HIc.out.own.left).1
            have y0 := HIb.out.own.cell (i := 0) (v := (.slice q acc.length cp)) rfl
            refine wpAny_ready (rs := [1]) (by kernel_rfl) (by simp) ?_
            refine AllReady.cons rfl (fun K hK => ?_) AllReady.nil
            go_simp
            refine hK _ _ ?_
            clear hK K y0
            refine wpAny_ready (rs := [5]) (by kernel_rfl) (by simp) ?_
            refine AllReady.cons rfl (fun K hK => ?_) AllReady.nil
            rw [if_pos (by kernel_rfl)]
            refine wp_append_at (.tmp 9) (.tmp 12) 25 rfl (B + 1) TDe i0 (.agg z17) 17 200 Tryz.underlying25 hi hz0 hz1 hz2 rfl (by decide) (.slice q acc.length cp) acc.length _ (by rfl) HIb.out.grow.own ⟨w7.heap.size, 0, none⟩ (de17 fu3 st3 ex3 ⟨nm3.toArray⟩ t3 l3 (.slice a5 l5 c5) ha3 (.slice a6 m6 c6) k3 (.slice a7 l7 c7) (.slice a8 l8 c8) ⟨n4.toArray⟩ t4 l4 p4 p3).toList (by rfl) rfl HNW.out (de_one _ _ _ _ _ _ _ _ _ _ _ _ _ _ _ _ _ _ _ _ _ _ _ _ _) (by omega) (by decide) (by simp only [World.size_alloc]; omega) ?_
            intro q6 cp6 w9 hown9 hgrow9 hat9
            obtain ⟨e3, z3⟩ := HZ3.out
            have hpush := HIb.out.push (i := 0) stays_de hlt HVB.out hBm (HY.out.mono (w' := (w7.alloc (.cells (de17 fu3 st3 ex3 ⟨nm3.toArray⟩ t3 l3 (.slice a5 l5 c5) ha3 (.slice a6 m6 c6) k3 (.slice a7 l7 c7) (.slice a8 l8 c8) ⟨n4.toArray⟩ t4 l4 p4 p3) TDe))) ⟨by simp, fun b _ hl => Lib.alloc_old _ _ _ hl⟩ fun b hb => hb) z3 (by have e4 := congrArg Array.toList e3; have e5 : c2 = (de17 fu3 st3 ex3 ⟨nm3.toArray⟩ t3 l3 (.slice a5 l5 c5) ha3 (.slice a6 m6 c6) k3 (.slice a7 l7 c7) (.slice a8 l8 c8) ⟨n4.toArray⟩ t4 l4 p4 p3).toList := e4; rw [e5]; exact hown9) hgrow9 hat9 (fun _ _ => rfl)
            have hf9 : w9.frozen? ⟨B, 0, none⟩ = false := Lib.frozen_of_heap hpush.1 _
            have hc9 : w9.cell? ⟨B, 0, none⟩ = some (.slice q acc.length cp) := Lib.cell_of_heap hpush.1 0
            have HI9 := Lib.hid hpush.2
            clear hpush hown9 hgrow9 hat9 e3 z3
            refine hK _ _ ?_
            clear hK K
            refine wpAny_ready (rs := [6]) (by kernel_rfl) (by simp) ?_
            refine AllReady.cons rfl (fun K hK => ?_) AllReady.nil
            go_simp
            refine hK _ _ ?_
            clear hK K
            refine wpAny_ready (rs := [7]) (by kernel_rfl) (by simp) ?_
            refine AllReady.cons rfl (fun K hK => ?_) AllReady.nil
            go_simp
            refine hK _ _ ?_
            clear hK K hf9 hc9
            refine wpAny_done (by kernel_rfl) ?_ _
            refine NoPanic.normal ?_
            go_wp2
            go_roundg g
            case measure => omega
            case rel => exact ⟨acc ++ [y], _, _, r3, by rw [List.length_append]; simp only [List.length_cons, List.length_nil]; omega, HI9.out, A4.out⟩
end PaC
end Go.Proofs.YtnlbhnmiekanfaaGreatDoor
/-
  A text's tokens are as the parser asks. No program, no condition.
-/
namespace Go.Proofs.YtnlbhnmiekanfaaGreatDoor
set_option linter.unusedVariables false
set_option linter.unusedSimpArgs false
namespace PaC
open Pa Lx
theorem cnt_take {p : UInt8 → Bool} : ∀ (l : List UInt8), ∀ b ∈ l.take (cnt p l), p b = true
  | [], b, h => by simp at h
  | a :: l, b, h => by
    unfold cnt at h
    rw [List.takeWhile_cons] at h
    split at h
    · rename_i hp
      rw [List.length_cons, List.take_succ_cons] at h
      rcases List.mem_cons.1 h with rfl | h
      · exact hp
      · exact cnt_take l b h
    · simp at h
theorem number_some {l : List UInt8} {x : Nat × Nat} (h : number l = some x) : span l = x ∧ (if (span l).1 = 3 then isReal (l.take (span l).2) else isInt (l.take (span l).2)) = true := by
  unfold number at h
  by_cases hc : ((if (span l).1 = 3 then isReal (l.take (span l).2) else isInt (l.take (span l).2)) && !Lx.sees inNumber (l.drop (span l).2)) = true
  · rw [if_pos hc] at h
    rw [Bool.and_eq_true] at hc
    exact ⟨Option.some.inj h, hc.1⟩
  · rw [if_neg hc] at h; cases h
theorem token_two {l : List UInt8} {n : Nat} (h : token l = some (2, n)) : isInt (l.take n) = true ∧ ∀ b ∈ l.take n, digit b = true := by
  unfold token at h
  split at h
  · cases h
  · split at h
    · unfold name at h
      simp only at h
      split at h
      · cases h
      · split at h <;> cases h
    · split at h
      · obtain ⟨hs, h1⟩ := number_some h
        rw [hs] at h1
        rw [if_neg (show ¬ (2 = 3) by decide)] at h1
        refine ⟨h1, ?_⟩
        have hn : n = cnt digit l := by
          unfold span at hs
          simp only at hs
          split at hs
          · split at hs <;> cases hs
          · exact (Prod.mk.inj hs).2.symm
        rw [hn]
        exact cnt_take l
      · unfold sign at h
        split at h
        · cases h
        · split at h <;> cases h
theorem token_three {l : List UInt8} {n : Nat} (h : token l = some (3, n)) : isReal (l.take n) = true := by
  unfold token at h
  split at h
  · cases h
  · split at h
    · unfold name at h
      simp only at h
      split at h
      · cases h
      · split at h <;> cases h
    · split at h
      · obtain ⟨hs, h1⟩ := number_some h
        rw [hs] at h1
        rwa [if_pos rfl] at h1
      · unfold sign at h
        split at h
        · cases h
        · split at h <;> cases h
theorem toks_good {Rl : Bs → Prop} : ∀ (f : Nat) (l : List UInt8) (p c : Nat) (ts : List Tok) (hR : ∀ t, (∀ b ∈ t, b ∈ l) → isReal t = true → Rl t) (hf : l.length < f) (h : toks f l p c = .ok ts), Good Rl ts
  | 0, l, p, c, ts, hR, hf, h => by omega
  | f + 1, l, p, c, ts, hR, hf, h => by
    rw [toks_succ] at h
    split at h
    · cases ht : token (l.drop (gp l).2) with
      | none => rw [ht] at h; cases h
      | some x =>
        obtain ⟨k, n⟩ := x
        rw [ht] at h
        simp only at h
        by_cases hk : k = 0
        · rw [if_pos hk] at h
          cases h
          exact ⟨rfl, rfl⟩
        · rw [if_neg hk] at h
          split at h
          · cases h
          · have hr := rest_len ht hk
            have hn := token_n ht hk
            have hmem : ∀ b ∈ (l.drop (gp l).2).take n, b ∈ l := fun b hb => List.mem_of_mem_drop (List.mem_of_mem_take hb)
            cases hq : toks f ((l.drop (gp l).2).drop n) (p + (gp l).2 + n) (c + 1) with
            | error e => rw [hq] at h; cases h
            | ok us =>
              rw [hq] at h
              have hg := toks_good f _ _ _ us (fun t ht2 => hR t fun b hb => List.mem_of_mem_drop (List.mem_of_mem_drop (ht2 b hb))) (by omega) hq
              obtain ⟨u, r, rfl⟩ := hg.ne
              cases h
              refine ⟨hk, ?_, fun h2 => ?_, fun h3 => ?_, hg⟩
              · intro e
                have h0 := congrArg List.length e
                simp only [List.length_take, List.length_nil] at h0
                omega
              · have h2' : k = 2 := h2
                subst h2'; exact token_two ht
              · have h3' : k = 3 := h3
                subst h3'; exact hR _ hmem (token_three ht)
    · cases h
theorem lex_good {Rl : Bs → Prop} {l : List UInt8} {ts : List Tok} (hR : ∀ t, (∀ b ∈ t, b ∈ l) → isReal t = true → Rl t) (h : lex l = .ok ts) : Good Rl ts := by
  unfold lex at h
  split at h
  · cases h
  · exact toks_good _ _ _ _ _ hR (by omega) h
theorem toks_few : ∀ (f : Nat) (l : List UInt8) (p c : Nat) (ts : List Tok) (hc : c ≤ 2500) (h : toks f l p c = .ok ts), c + ts.length ≤ 2501
  | 0, l, p, c, ts, hc, h => by cases h; simp; omega
  | f + 1, l, p, c, ts, hc, h => by
    rw [toks_succ] at h
    split at h
    · split at h
      · cases h
      · split at h
        · cases h; simp; omega
        · split at h
          · cases h
          · rename_i k n _ _ hne
            cases hq : toks f ((l.drop (gp l).2).drop n) (p + (gp l).2 + n) (c + 1) with
            | error e => rw [hq] at h; cases h
            | ok us =>
              rw [hq] at h
              cases h
              have := toks_few f _ _ _ us (by omega) hq
              simp; omega
    · cases h
end PaC
end Go.Proofs.YtnlbhnmiekanfaaGreatDoor
/-
  Parse, told. Condition: the text is one that memory holds, Go's own variables lie, and what real.Parse answers at the reals' texts that may stand there.
-/
namespace Go.Proofs.YtnlbhnmiekanfaaGreatDoor
open Go.RowKit Go.Deep
set_option linter.unusedVariables false
set_option linter.unusedSimpArgs false
namespace PaC
open Pa Lx
attribute [local go_sem] fld0 fld1 fld2
variable {N : Nat} {Rl : Bs → Prop} {rb : Bs → Nat}
/-- the levels' rows, one block each -/
def LW : Nat → World → World
  | 0, w => w
  | k + 1, w => (LW k w).alloc (.cells (strs (level k)) 9)
theorem lw_size (w : World) : ∀ k, (LW k w).heap.size = w.heap.size + k
  | 0 => rfl
  | k + 1 => by show ((LW k w).alloc _).heap.size = _; rw [World.size_alloc, lw_size w k]; omega
theorem lw_below (w : World) : ∀ k, Below w.heap.size w (LW k w)
  | 0 => Below.refl _ _
  | k + 1 => (lw_below w k).alloc (by rw [lw_size]; omega) _
theorem lw_at (w : World) (s : Nat) : ∀ k, s < k → (LW k w).heap[w.heap.size + s]? = some (.cells (strs (level s)) 9 (0, 0))
  | 0, h => by omega
  | k + 1, h => by
    by_cases hk : s = k
    · subst hk
      have := heap_alloc_new (LW s w) (.cells (strs (level s)) 9)
      rw [lw_size] at this
      exact this
    · rw [show LW (k + 1) w = (LW k w).alloc (.cells (strs (level k)) 9) from rfl, Lib.alloc_old _ _ _ (by rw [lw_size]; omega)]
      exact lw_at w s k (by omega)
/-- the slice of the rows' slices -/
abbrev levRow (n : Nat) : Array Value := #[.slice (some ⟨n, 0, none⟩) 1 1, .slice (some ⟨n + 1, 0, none⟩) 1 1, .slice (some ⟨n + 2, 0, none⟩) 1 1, .slice (some ⟨n + 3, 0, none⟩) 1 1, .slice (some ⟨n + 4, 0, none⟩) 1 1, .slice (some ⟨n + 5, 0, none⟩) 2 2, .slice (some ⟨n + 6, 0, none⟩) 4 4, .slice (some ⟨n + 7, 0, none⟩) 2 2, .slice (some ⟨n + 8, 0, none⟩) 2 2, .slice (some ⟨n + 9, 0, none⟩) 3 3]
def LWE (w : World) : World := (LW 10 w).alloc (.cells (levRow w.heap.size) 120)
theorem lev_at {w w' : World} {G g N : Nat} (hb : Below (w.heap.size + 11) (LWE w) w') (hG : w.heap.size + 11 ≤ G) (hN : w.heap.size + 11 ≤ N) (hg : g < N) (hGN : G < N) (hNs : N ≤ w'.heap.size) : LevAt N g w' G (w.heap.size + 10) := by
  have hrow : (LWE w).heap[w.heap.size + 10]? = some (.cells (levRow w.heap.size) 120 (0, 0)) := by
    have := heap_alloc_new (LW 10 w) (.cells (levRow w.heap.size) 120)
    rw [lw_size] at this
    unfold LWE
    exact this
  refine ⟨by omega, fun s hs => ?_, hg, by omega, hGN, hNs⟩
  have hcell : w'.cell? ⟨w.heap.size + 10, s, none⟩ = some (.slice (some ⟨w.heap.size + s, 0, none⟩) (level s).length (level s).length) := by
    refine (Lib.cell_of_heap ((hb.block _ (by omega)).trans hrow) s).trans ?_
    match s, hs with
    | 0, _ => rfl
    | 1, _ => rfl
    | 2, _ => rfl
    | 3, _ => rfl
    | 4, _ => rfl
    | 5, _ => rfl
    | 6, _ => rfl
    | 7, _ => rfl
    | 8, _ => rfl
    | 9, _ => rfl
    | s + 10, h => omega
  refine ⟨w.heap.size + s, by omega, by omega, hcell, signs_of ?_⟩
  rw [hb.block _ (by omega), show LWE w = (LW 10 w).alloc (.cells (levRow w.heap.size) 120) from rfl, Lib.alloc_old _ _ _ (by rw [lw_size]; omega)]
  exact lw_at w s 10 hs
set_option maxRecDepth 100000 in
set_option maxHeartbeats 8000000 in
theorem levels_ (w : World) : Calls Tryz.prog 40 #[] w fun e w' => e = .returned (.slice (some ⟨w.heap.size + 10, 0, none⟩) 10 10) ∧ w' = LWE w := by
  go_enter Tryz.func40, Tryz.ntmps40
  go_wp2
  go_ret
  exact ⟨rfl, rfl⟩
abbrev flawP (a e : Int) : Value := .iface TFp (.agg #[.int .i64 a, .int .i64 e])
/-- the three results' cells -/
structure ResM (B : Nat) (a e : Int) (w : World) : Prop where
  m : w.heap[B]? = some (.cells #[nilV] TMo (0, 0))
  a : w.heap[B + 1]? = some (.cells #[.int .i64 a] 3 (0, 0))
  e : w.heap[B + 2]? = some (.cells #[.int .i64 e] 28 (0, 0))
def CaughtM (B : Nat) (a e : Int) (w w' : World) : Prop := ResM B a e w' ∧ w.heap.size ≤ w'.heap.size ∧ w'.os = w.os ∧ w'.tape = w.tape ∧ w'.output = w.output ∧ ∀ k, k < w.heap.size → k ≠ B + 1 → k ≠ B + 2 → w'.heap[k]? = w.heap[k]?
theorem caughtM {B : Nat} {a0 e0 : Int} {w : World} (h : ResM B a0 e0 w) (a e : Int) (o : Obj) : CaughtM B a e w ((((w.alloc o).setCell ⟨B + 1, 0, none⟩ (.int .i64 a)).setCell ⟨B + 2, 0, none⟩ (.int .i64 e)).drew) := by
  have h0 : B < w.heap.size := (Array.getElem?_eq_some_iff.1 h.m).1
  have h1 : B + 1 < w.heap.size := (Array.getElem?_eq_some_iff.1 h.a).1
  have h2 : B + 2 < w.heap.size := (Array.getElem?_eq_some_iff.1 h.e).1
  refine ⟨⟨?_, ?_, ?_⟩, ?_, rfl, rfl, rfl, ?_⟩
  · show (((w.alloc o).setCell ⟨B + 1, 0, none⟩ (.int .i64 a)).setCell ⟨B + 2, 0, none⟩ (.int .i64 e)).heap[B]? = _
    rw [heap_setCell_other _ ⟨B + 2, 0, none⟩ _ _ (by show B ≠ B + 2; omega), heap_setCell_other _ ⟨B + 1, 0, none⟩ _ _ (by show B ≠ B + 1; omega)]
    exact (Lib.alloc_old _ _ _ h0).trans h.m
  · show (((w.alloc o).setCell ⟨B + 1, 0, none⟩ (.int .i64 a)).setCell ⟨B + 2, 0, none⟩ (.int .i64 e)).heap[B + 1]? = _
    rw [heap_setCell_other _ ⟨B + 2, 0, none⟩ _ _ (by show B + 1 ≠ B + 2; omega), heap_setCell_same _ (B + 1) 0 #[.int .i64 a0] 3 _ ((Lib.alloc_old _ _ _ h1).trans h.a)]; rfl
  · show (((w.alloc o).setCell ⟨B + 1, 0, none⟩ (.int .i64 a)).setCell ⟨B + 2, 0, none⟩ (.int .i64 e)).heap[B + 2]? = _
    rw [heap_setCell_same _ (B + 2) 0 #[.int .i64 e0] 28 _ ((heap_setCell_other _ ⟨B + 1, 0, none⟩ _ _ (by show B + 2 ≠ B + 1; omega)).trans ((Lib.alloc_old _ _ _ h2).trans h.e))]; rfl
  · show w.heap.size ≤ (((w.alloc o).setCell ⟨B + 1, 0, none⟩ (.int .i64 a)).setCell ⟨B + 2, 0, none⟩ (.int .i64 e)).heap.size
    simp
  · intro k hk k1 k2
    show (((w.alloc o).setCell ⟨B + 1, 0, none⟩ (.int .i64 a)).setCell ⟨B + 2, 0, none⟩ (.int .i64 e)).heap[k]? = _
    rw [heap_setCell_other _ ⟨B + 2, 0, none⟩ _ _ k2, heap_setCell_other _ ⟨B + 1, 0, none⟩ _ _ k1]
    exact Lib.alloc_old _ _ _ hk
def FinM (B : Nat) (a e : Int) (w : World) (x : Exit) (c : Act) (w' : World) : Prop := x = .normal ∧ c.defers = [] ∧ CaughtM B a e w w'
set_option maxRecDepth 100000 in
set_option maxHeartbeats 8000000 in
theorem catchM (B : Nat) (a0 e0 a e : Int) (older : List PanicEntry) (w : World) (h : ResM B a0 e0 w) :
    CallsD Tryz.prog 39 #[.pointer (some ⟨B + 1, 0, none⟩), .pointer (some ⟨B + 2, 0, none⟩)] (.panicking ({ v := flawP a e, recovered := false } :: older)) w fun x u' w' =>
      x = .returned (.tuple #[]) ∧ u' = .panicking ({ v := flawP a e, recovered := true } :: older) ∧ CaughtM B a e w w' := by
  have hlt : B + 2 < w.heap.size := (Array.getElem?_eq_some_iff.1 h.e).1
  refine callsD_of_wpS Tryz.func39 rfl fun c₀ cs hu => ?_
  apply wpS_seq
  apply wpS_region
  simp [wpOpsS, go_sem, recoverD, hu, Tryz.ntmps39, Exit.thenS]
  refine wpS_of_wp (wp_mono (Q := FinM B a e w) ?_ ?_)
  · clear hu
    have hta : ∀ w, (Instr.typeAssert (flawP a e) 20 TFp true).run Tryz.prog w = .ok (.tuple #[.agg #[.int .i64 a, .int .i64 e], .bool true]) w := fun _ => by kernel_rfl
    have H := Lib.hid h
    clear h
    show Code.wp _ _ _ { tmps := #[.pointer (some ⟨B + 1, 0, none⟩), .pointer (some ⟨B + 2, 0, none⟩), undef, undef, undef, flawP a e, undef, undef, undef, undef, undef, undef, undef, undef, undef], defers := [] } _
    go_wp2
    obtain ⟨WA, hWA⟩ : ∃ WA, WA = w.alloc (.cells #[.int .i64 a, .int .i64 e] TFp) := ⟨_, rfl⟩
    have h1 : B + 1 < w.heap.size := by omega
    have z1 := (Lib.alloc_old w (.cells #[.int .i64 a, .int .i64 e] TFp) _ h1).trans H.out.a
    have z2 := (Lib.alloc_old w (.cells #[.int .i64 a, .int .i64 e] TFp) _ hlt).trans H.out.e
    have zx := heap_alloc_new w (.cells #[.int .i64 a, .int .i64 e] TFp)
    rw [← hWA] at z1 z2 zx ⊢
    have k1 : WA.cell? ⟨B + 1, 0, none⟩ = some (.int .i64 a0) := Lib.cell_of_heap z1 0
    have k2 : WA.cell? ⟨B + 2, 0, none⟩ = some (.int .i64 e0) := Lib.cell_of_heap z2 0
    have x0 : WA.cell? ⟨w.heap.size, 0, none⟩ = some (.int .i64 a) := Lib.cell_of_heap zx 0
    have x1 : WA.cell? ⟨w.heap.size, 1, none⟩ = some (.int .i64 e) := Lib.cell_of_heap zx 1
    have f1 : WA.frozen? ⟨B + 1, 0, none⟩ = false := Lib.frozen_of_heap z1 0
    have f2 : WA.frozen? ⟨B + 2, 0, none⟩ = false := Lib.frozen_of_heap z2 0
    have HWA := Lib.hid hWA
    clear hWA z1 z2 zx
    go_region
    all_goals (go_wp2_with fail; refine ⟨rfl, rfl, ?_⟩; rw [HWA.out]; exact caughtM H.out a e _)
  · rintro x c w' ⟨rfl, hd, hc⟩
    simp [bodyPostS, results, Tryz.results39, hd]
    exact hc
set_option maxRecDepth 100000 in
set_option maxHeartbeats 8000000 in
theorem idleM (B : Nat) (w : World) :
    CallsD Tryz.prog 39 #[.pointer (some ⟨B + 1, 0, none⟩), .pointer (some ⟨B + 2, 0, none⟩)] .returning w fun x u' w' => x = .returned (.tuple #[]) ∧ u' = .returning ∧ w' = w := by
  refine callsD_of_wpS Tryz.func39 rfl fun c₀ cs hu => ?_
  apply wpS_seq
  apply wpS_region
  simp [wpOpsS, go_sem, recoverD, hu, Tryz.ntmps39, Exit.thenS]
  refine wpS_of_wp (wp_mono (Q := fun x c w' => x = .normal ∧ c.defers = [] ∧ w' = w) ?_ ?_)
  · show Code.wp _ _ _ { tmps := #[.pointer (some ⟨B + 1, 0, none⟩), .pointer (some ⟨B + 2, 0, none⟩), undef, undef, undef, .nilIface, undef, undef, undef, undef, undef, undef, undef, undef, undef], defers := [] } _
    clear hu
    go_wp2
  · rintro x c w' ⟨rfl, hd, rfl⟩
    cases c₀
    simp_all [bodyPostS, results, Tryz.results39]
end PaC
end Go.Proofs.YtnlbhnmiekanfaaGreatDoor
/-
  Parse, told. Condition: the text is one that memory holds, Go's own variables lie, and what real.Parse answers at the reals' texts that may stand there.
-/
namespace Go.Proofs.YtnlbhnmiekanfaaGreatDoor
open Go.RowKit Go.Deep
set_option linter.unusedVariables false
set_option linter.unusedSimpArgs false
namespace PaC
open Pa Lx
attribute [local go_sem] fld0 fld1 fld2
variable {N : Nat} {Rl : Bs → Prop} {rb : Bs → Nat}
abbrev TInt : TypeId := 3
abbrev TEr : TypeId := 28
abbrev W3 (w : World) : World := ((w.alloc (.cells #[nilV] TMo)).alloc (.cells #[.int .i64 0] TInt)).alloc (.cells #[.int .i64 0] TEr)
def W4 (w : World) (v : Value) : World := (LWE (W3 w)).alloc (.cells #[v, .slice (some ⟨w.heap.size + 3 + 10, 0, none⟩) 10 10, .int .i64 0] TP)
theorem w3_size (w : World) : (W3 w).heap.size = w.heap.size + 3 := by simp
theorem lwe_size (w : World) : (LWE w).heap.size = w.heap.size + 11 := by rw [LWE, World.size_alloc, lw_size]
theorem w4_size (w : World) (v : Value) : (W4 w v).heap.size = w.heap.size + 15 := by rw [W4, World.size_alloc, lwe_size, w3_size]
theorem w4_below (w : World) (v : Value) : Below w.heap.size w (W4 w v) := by
  unfold W4
  refine Below.trans (b := LWE (W3 w)) ?_ ((Below.refl _ _).alloc (by rw [lwe_size, w3_size]; omega) _)
  refine Below.trans (b := W3 w) ((((Below.refl _ _).alloc (Nat.le_refl _) _).alloc (by simp) _).alloc (by simp; omega) _) ?_
  unfold LWE
  exact ((lw_below (W3 w) 10).mono (by rw [w3_size]; omega)).alloc (by rw [lw_size, w3_size]; omega) _
theorem w4_res (w : World) (v : Value) : ResM w.heap.size 0 0 (W4 w v) := by
  have hb : Below (W3 w).heap.size (W3 w) (W4 w v) := by
    unfold W4
    refine Below.trans (b := LWE (W3 w)) ?_ ((Below.refl _ _).alloc (by rw [lwe_size]; omega) _)
    unfold LWE
    exact (lw_below (W3 w) 10).alloc (by rw [lw_size]; omega) _
  have hz := w3_size w
  refine ⟨?_, ?_, ?_⟩
  · rw [hb.block _ (by omega), Lib.alloc_old _ _ _ (by simp; omega), Lib.alloc_old _ _ _ (by simp)]
    exact heap_alloc_new w _
  · rw [hb.block _ (by omega), Lib.alloc_old _ _ _ (by simp)]
    have := heap_alloc_new (w.alloc (.cells #[nilV] TMo)) (.cells #[.int .i64 0] TInt)
    rwa [World.size_alloc] at this
  · rw [hb.block _ (by omega)]
    have := heap_alloc_new ((w.alloc (.cells #[nilV] TMo)).alloc (.cells #[.int .i64 0] TInt)) (.cells #[.int .i64 0] TEr)
    rwa [World.size_alloc, World.size_alloc] at this
theorem cellsT_at : ∀ (ts : List Tok) (i : Nat) (t : Tok), ts[i]? = some t → ∀ (j : Nat) (x : Value), (tok3 t)[j]? = some x → (LxC.cellsT ts)[i * 3 + j]? = some x := by
  intro ts i t hi j x hx
  exact flat_at 3 (ts.map tok3) (fun r hr => by obtain ⟨y, -, rfl⟩ := List.mem_map.1 hr; rfl) i (tok3 t) (by rw [List.getElem?_map, hi]; rfl) j x hx |> fun h => by
    have e : (ts.map tok3).flatten = LxC.cellsT ts := by unfold LxC.cellsT; rw [List.flatMap_def]; rfl
    rw [e] at h; exact h
/-- the parser as it begins -/
theorem pat_first {w : World} {v : Value} {ts : List Tok} (hne : ts ≠ []) (ht : LxC.TokAt 0 w v ts) : PAt (w.heap.size + 15) (W4 w v) (w.heap.size + 14) ts 0 := by
  rcases ht.2 with ⟨-, h0⟩ | ⟨g, cap, cur, rfl, hb, hg, hc, hm, hcs, htk⟩
  · exact absurd (List.length_eq_zero_iff.1 h0) hne
  · have hgl : g < w.heap.size := (Array.getElem?_eq_some_iff.1 hg).1
    have hb4 := w4_below w (.slice (some ⟨g, 0, none⟩) ts.length cap)
    refine ⟨g, 0, cap, w.heap.size + 3 + 10, ?_, by omega, hc, hm, fun i t hi j x hx => ?_, ?_⟩
    · have h1 := heap_alloc_new (LWE (W3 w)) (.cells #[.slice (some ⟨g, 0, none⟩) ts.length cap, .slice (some ⟨w.heap.size + 3 + 10, 0, none⟩) 10 10, .int .i64 0] TP)
      have e1 : (LWE (W3 w)).heap.size = w.heap.size + 14 := by rw [lwe_size, w3_size]
      rw [e1] at h1
      unfold W4
      exact h1
    · have h1 := cellsT_at ts i t hi j x hx
      rw [← htk] at h1
      rw [List.getElem?_take] at h1
      split at h1
      · rw [Array.getElem?_toList] at h1
        refine cell_same (hb4.block g hgl) ?_
        unfold World.cell?
        simp only [hg]
        rw [Nat.zero_add]
        exact h1
      · cases h1
    · have := lev_at (w := W3 w) (w' := W4 w (.slice (some ⟨g, 0, none⟩) ts.length cap)) (G := w.heap.size + 14) (g := g) (N := w.heap.size + 15) (by
        rw [w3_size]
        unfold W4
        exact (Below.refl _ _).alloc (by rw [lwe_size, w3_size]; omega) _) (by rw [w3_size]; omega) (by rw [w3_size]; omega) (by omega) (by omega) (by rw [w4_size]; omega)
      have e3 : (W3 w).heap.size + 10 = w.heap.size + 3 + 10 := by rw [w3_size]
      rw [e3] at this
      exact this
/-- what module answers -/
def ModPost (X : R (List De)) (w : World) (e : Ending) (w' : World) : Prop :=
  match X with
  | .ok ds _ => ∃ q n c, e = .returned (.tuple #[.agg #[.slice q n c], .int .i64 0, .int .i64 0]) ∧ DsAt (New w.heap.size) w' ds (.slice q n c) ∧ Below w.heap.size w w'
  | .bad p er => e = .returned (.tuple #[.agg #[nilV], .int .i64 (p : Int), .int .i64 (er : Int)]) ∧ Below w.heap.size w w'
  | .out => False
set_option maxRecDepth 100000 in
set_option maxHeartbeats 8000000 in
theorem module_bad {w : World} {v : Value} {ts : List Tok} {p er : Nat} (hne : ts ≠ []) (ht : LxC.TokAt 0 w v ts)
    (cm : ∀ W, PAt (w.heap.size + 15) W (w.heap.size + 14) ts 0 → Calls Tryz.prog 41 #[ptr (w.heap.size + 14)] W (BadPost (w.heap.size + 14) (p : Int) (er : Int) W)) :
    Calls Tryz.prog 18 #[v] w (ModPost (.bad p er) w) := by
  have HP := Lib.hid (pat_first hne ht)
  have HR := Lib.hid (w4_res w v)
  have HB := Lib.hid (w4_below w v)
  have hmf : ∀ (fn : Fn) (first cap : Array Value) (w : World), (Instr.makeFunc fn first cap).run Tryz.prog w = .ok (.func fn first cap) w := fun _ _ _ _ => rfl
  have cl : Calls Tryz.prog 40 #[] (W3 w) fun e w' => e = .returned (.slice (some ⟨w.heap.size + 3 + 10, 0, none⟩) 10 10) ∧ w' = LWE (W3 w) := by have := levels_ (W3 w); rw [w3_size] at this; exact this
  obtain ⟨q0, c0, rfl⟩ : ∃ q c, v = .slice q ts.length c := row_shape ht rfl
  have cm' : Calls Tryz.prog 41 #[ptr (w.heap.size + 3 + 11)] ((LWE (W3 w)).alloc (.cells #[.slice q0 ts.length c0, .slice (some ⟨w.heap.size + 3 + 10, 0, none⟩) 10 10, .int .i64 0] TP)) (BadPost (w.heap.size + 14) (p : Int) (er : Int) (W4 w (.slice q0 ts.length c0))) := cm _ HP.out
  have HZ := Lib.hid (w4_size w (.slice q0 ts.length c0))
  have hls := lwe_size (W3 w)
  rw [w3_size] at hls
  clear ht cm
  go_enter_defers Tryz.func18, Tryz.ntmps18
  go_wp2_with (first
    | (go_at_call 40; (with_reducible refine cl.mono ?_); rintro e w1 ⟨rfl, rfl⟩; clear cl)
    | (go_at_call 41; (with_reducible refine cm'.mono ?_); rintro e w2 ⟨rfl, hp, hk⟩; have HK := Lib.hid hk; clear hp hk cm'))
  have hz := HZ.out
  have hr0 : ResM w.heap.size 0 0 w2 := ⟨HK.out.at (by omega) HR.out.m, HK.out.at (by omega) HR.out.a, HK.out.at (by omega) HR.out.e⟩
  refine leaves_cons (f := 39) (args := #[.pointer (some ⟨w.heap.size + 1, 0, none⟩), .pointer (some ⟨w.heap.size + 2, 0, none⟩)]) (by simp) (by simp [go_sem]) ?_
  refine (catchM w.heap.size 0 0 (p : Int) (er : Int) [] w2 hr0).mono ?_
  rintro e u' w'' ⟨rfl, rfl, hc⟩
  have e0 : w''.cell? ⟨w.heap.size, 0, none⟩ = some nilV := Lib.cell_of_heap hc.1.m 0
  have e1 : w''.cell? ⟨w.heap.size + 1, 0, none⟩ = some (.int .i64 (p : Int)) := Lib.cell_of_heap hc.1.a 0
  have e2 : w''.cell? ⟨w.heap.size + 2, 0, none⟩ = some (.int .i64 (er : Int)) := Lib.cell_of_heap hc.1.e 0
  have HC := Lib.hid (show Below w.heap.size w w'' from by
    have hb := HB.out
    have hk := HK.out
    exact ⟨hc.2.2.1.trans (hk.os.trans hb.os), hc.2.2.2.1.trans (hk.tape.trans hb.tape), hc.2.2.2.2.1.trans (hk.output.trans hb.output), Nat.le_trans (Nat.le_trans hb.size hk.size) hc.2.1, fun i hi => (hc.2.2.2.2.2 i (by have := hk.size; omega) (by omega) (by omega)).trans ((hk.block i (by omega) (by omega)).trans (hb.block i hi))⟩)
  clear hc
  simp [Leaves, settle, results, Tryz.results18, go_sem, e0, e1, e2]
  exact ⟨rfl, HC.out⟩
set_option maxRecDepth 100000 in
set_option maxHeartbeats 8000000 in
theorem module_ok {w : World} {v : Value} {ts : List Tok} {ds : List De} {r : List Tok} (hne : ts ≠ []) (ht : LxC.TokAt 0 w v ts)
    (cm : ∀ W, PAt (w.heap.size + 15) W (w.heap.size + 14) ts 0 → Calls Tryz.prog 41 #[ptr (w.heap.size + 14)] W (MoOk (w.heap.size + 15) (w.heap.size + 14) 0 ds r W)) :
    Calls Tryz.prog 18 #[v] w (ModPost (.ok ds r) w) := by
  have HP := Lib.hid (pat_first hne ht)
  have HR := Lib.hid (w4_res w v)
  have HB := Lib.hid (w4_below w v)
  have hmf : ∀ (fn : Fn) (first cap : Array Value) (w : World), (Instr.makeFunc fn first cap).run Tryz.prog w = .ok (.func fn first cap) w := fun _ _ _ _ => rfl
  have cl : Calls Tryz.prog 40 #[] (W3 w) fun e w' => e = .returned (.slice (some ⟨w.heap.size + 3 + 10, 0, none⟩) 10 10) ∧ w' = LWE (W3 w) := by have := levels_ (W3 w); rw [w3_size] at this; exact this
  obtain ⟨q0, c0, rfl⟩ : ∃ q c, v = .slice q ts.length c := row_shape ht rfl
  have cm' : Calls Tryz.prog 41 #[ptr (w.heap.size + 3 + 11)] ((LWE (W3 w)).alloc (.cells #[.slice q0 ts.length c0, .slice (some ⟨w.heap.size + 3 + 10, 0, none⟩) 10 10, .int .i64 0] TP)) (MoOk (w.heap.size + 15) (w.heap.size + 14) 0 ds r (W4 w (.slice q0 ts.length c0))) := cm _ HP.out
  have HZ := Lib.hid (w4_size w (.slice q0 ts.length c0))
  have hls := lwe_size (W3 w)
  rw [w3_size] at hls
  clear ht cm
  go_enter_defers Tryz.func18, Tryz.ntmps18
  go_wp2_with (first
    | (go_at_call 40; (with_reducible refine cl.mono ?_); rintro e w1 ⟨rfl, rfl⟩; clear cl)
    | (go_at_call 41; (with_reducible refine cm'.mono ?_); rintro e w2 ⟨q, n, c, rfl, hds, hp, hk⟩; have hz := HZ.out; have hr0 : ResM w.heap.size 0 0 w2 := ⟨hk.at (by omega) HR.out.m, hk.at (by omega) HR.out.a, hk.at (by omega) HR.out.e⟩; have hm0 := hr0.m; have k1 : (w2.setRow w.heap.size #[.slice q n c]).heap[w.heap.size + 1]? = some (.cells #[.int .i64 0] TInt (0, 0)) := (setRow_other _ _ _ _ (by omega)).trans hr0.a; have k2 : (w2.setRow w.heap.size #[.slice q n c]).heap[w.heap.size + 2]? = some (.cells #[.int .i64 0] TEr (0, 0)) := (setRow_other _ _ _ _ (by omega)).trans hr0.e; have HK := Lib.hid hk; have HD := Lib.hid hds; have HR0 := Lib.hid hr0; clear hp hk cm' hds hr0)
    | ((with_reducible refine store1 rfl (.tmp 2) (.tmp 10) rfl w.heap.size q n c ?xa ?xb #[nilV] rfl hm0 ?_); (case xa => simp [go_sem]); (case xb => simp [go_sem]); have c1 : (w2.setRow w.heap.size #[.slice q n c]).cell? ⟨w.heap.size + 1, 0, none⟩ = some (.int .i64 0) := Lib.cell_of_heap k1 0; have f1 := Lib.frozen_of_heap k1 0; have j2 : ((w2.setRow w.heap.size #[.slice q n c]).setCell ⟨w.heap.size + 1, 0, none⟩ (.int .i64 0)).heap[w.heap.size + 2]? = some (.cells #[.int .i64 0] TEr (0, 0)) := (Below.heap_setCell _ _ _ _ (by show w.heap.size + 2 ≠ w.heap.size + 1; omega)).trans k2; have c2 : ((w2.setRow w.heap.size #[.slice q n c]).setCell ⟨w.heap.size + 1, 0, none⟩ (.int .i64 0)).cell? ⟨w.heap.size + 2, 0, none⟩ = some (.int .i64 0) := Lib.cell_of_heap j2 0; have f2 := Lib.frozen_of_heap j2 0))
  refine leaves_cons (f := 39) (args := #[.pointer (some ⟨w.heap.size + 1, 0, none⟩), .pointer (some ⟨w.heap.size + 2, 0, none⟩)]) (by simp) (by simp [go_sem]) ?_
  refine (idleM w.heap.size _).mono ?_
  rintro e u' w'' ⟨rfl, rfl, rfl⟩
  have hb := HB.out
  have hk := HK.out
  have hz := HZ.out
  have n0 : (((w2.setRow w.heap.size #[.slice q n c]).setCell ⟨w.heap.size + 1, 0, none⟩ (.int .i64 0)).setCell ⟨w.heap.size + 1 + 1, 0, none⟩ (.int .i64 0)).heap[w.heap.size]? = some (.cells #[.slice q n c] TMo (0, 0)) := by
    rw [Below.heap_setCell _ _ _ _ (by show w.heap.size ≠ w.heap.size + 1 + 1; omega), Below.heap_setCell _ _ _ _ (by show w.heap.size ≠ w.heap.size + 1; omega)]
    exact setRow_heap _ _ _ _ _ _ HR0.out.m
  have n1 : (((w2.setRow w.heap.size #[.slice q n c]).setCell ⟨w.heap.size + 1, 0, none⟩ (.int .i64 0)).setCell ⟨w.heap.size + 1 + 1, 0, none⟩ (.int .i64 0)).heap[w.heap.size + 1]? = some (.cells #[.int .i64 0] TInt (0, 0)) := by
    rw [Below.heap_setCell _ _ _ _ (by show w.heap.size + 1 ≠ w.heap.size + 1 + 1; omega), heap_setCell_same _ _ _ _ _ _ k1]; rfl
  have n2 : (((w2.setRow w.heap.size #[.slice q n c]).setCell ⟨w.heap.size + 1, 0, none⟩ (.int .i64 0)).setCell ⟨w.heap.size + 1 + 1, 0, none⟩ (.int .i64 0)).heap[w.heap.size + 2]? = some (.cells #[.int .i64 0] TEr (0, 0)) := by
    rw [show w.heap.size + 1 + 1 = w.heap.size + 2 from rfl, heap_setCell_same _ _ _ _ _ _ j2]; rfl
  have nb : ∀ k, k < w2.heap.size → k ≠ w.heap.size → k ≠ w.heap.size + 1 → k ≠ w.heap.size + 2 → (((w2.setRow w.heap.size #[.slice q n c]).setCell ⟨w.heap.size + 1, 0, none⟩ (.int .i64 0)).setCell ⟨w.heap.size + 1 + 1, 0, none⟩ (.int .i64 0)).heap[k]? = w2.heap[k]? := fun k _ h0 h1 h2 => by
    rw [Below.heap_setCell _ _ _ _ (by show k ≠ w.heap.size + 1 + 1; omega), Below.heap_setCell _ _ _ _ (by show k ≠ w.heap.size + 1; omega)]
    exact setRow_other _ _ _ _ h0
  have ns : (((w2.setRow w.heap.size #[.slice q n c]).setCell ⟨w.heap.size + 1, 0, none⟩ (.int .i64 0)).setCell ⟨w.heap.size + 1 + 1, 0, none⟩ (.int .i64 0)).heap.size = w2.heap.size := by simp
  have HC := Lib.hid (show Below w.heap.size w (((w2.setRow w.heap.size #[.slice q n c]).setCell ⟨w.heap.size + 1, 0, none⟩ (.int .i64 0)).setCell ⟨w.heap.size + 1 + 1, 0, none⟩ (.int .i64 0)) from
    ⟨hk.os.trans hb.os, hk.tape.trans hb.tape, hk.output.trans hb.output, by rw [ns]; exact Nat.le_trans hb.size hk.size, fun i hi => (nb i (by have := hk.size; omega) (by omega) (by omega) (by omega)).trans ((hk.block i (by omega) (by omega)).trans (hb.block i hi))⟩)
  have hsm : Same (New (w.heap.size + 15)) w2 (((w2.setRow w.heap.size #[.slice q n c]).setCell ⟨w.heap.size + 1, 0, none⟩ (.int .i64 0)).setCell ⟨w.heap.size + 1 + 1, 0, none⟩ (.int .i64 0)) := ⟨by rw [ns]; exact Nat.le_refl _, fun k hk' hl => nb k hl (by have : w.heap.size + 15 ≤ k := hk'; omega) (by have : w.heap.size + 15 ≤ k := hk'; omega) (by have : w.heap.size + 15 ≤ k := hk'; omega)⟩
  have hds := HD.out
  rw [hz] at hds
  have HDD := Lib.hid (show DsAt (New w.heap.size) _ ds (.slice q n c) from hds.mono hsm (fun b hb => by have : w.heap.size + 15 ≤ b := hb; show w.heap.size ≤ b; omega) fun k r hk => hk.mono hsm fun b hb => by have : w.heap.size + 15 ≤ b := hb; show w.heap.size ≤ b; omega)
  have e0 := Lib.cell_of_heap n0 0
  have e1 := Lib.cell_of_heap n1 0
  have e2 := Lib.cell_of_heap n2 0
  simp only [List.getElem?_toArray, List.getElem?_cons_zero] at e0 e1 e2
  clear n0 n1 n2 nb ns hsm hds k1 k2 c1 f1 j2 c2 f2 hm0 hk hb hz
  generalize (((w2.setRow w.heap.size #[.slice q n c]).setCell ⟨w.heap.size + 1, 0, none⟩ (.int .i64 0)).setCell ⟨w.heap.size + 1 + 1, 0, none⟩ (.int .i64 0)) = W5 at *
  simp [Leaves, settle, results, Tryz.results18, go_sem, e0, e1, e2]
  exact ⟨_, _, _, rfl, HDD.out, HC.out⟩
end PaC
end Go.Proofs.YtnlbhnmiekanfaaGreatDoor
/-
  Parse of a text with no point, told. Condition: the text is one that memory holds, Go's own variables lie.
-/
namespace Go.Proofs.YtnlbhnmiekanfaaGreatDoor
open Go.RowKit Go.Deep
set_option linter.unusedVariables false
set_option linter.unusedSimpArgs false
namespace PaC
open Pa Lx
attribute [local go_sem] fld0 fld1 fld2
variable {N : Nat} {Rl : Bs → Prop} {rb : Bs → Nat}
theorem toks_err : ∀ (f : Nat) (l : List UInt8) (p c : Nat) (x : Nat × Int), toks f l p c = .error x → x.2 = 5 ∨ x.2 = 10
  | 0, _, _, _, _, h => by cases h
  | f + 1, l, p, c, x, h => by
    rw [toks_succ] at h
    split at h
    · split at h
      · cases h; exact .inr rfl
      · split at h
        · cases h
        · split at h
          · cases h; exact .inl rfl
          · rename_i k n _ _ _
            cases hq : toks f ((l.drop (gp l).2).drop n) (p + (gp l).2 + n) (c + 1) with
            | error e => rw [hq] at h; cases h; exact toks_err f _ _ _ _ hq
            | ok us => rw [hq] at h; cases h
    · cases h; exact .inr rfl
theorem lex_err {l : List UInt8} {x : Nat × Int} (h : lex l = .error x) : x.2 ≠ 0 := by
  unfold lex at h
  split at h
  · cases h; decide
  · rcases toks_err _ _ _ _ _ h with e | e <;> rw [e] <;> decide
def ansOf : R (List De) → Ans
  | .ok ds _ => .ok ds
  | .bad p e => .bad p (e : Int)
  | .out => .out
/-- what Parse answers -/
def PaPost (x : Ans) (w : World) (e : Ending) (w' : World) : Prop :=
  match x with
  | .ok ds => ∃ q n c, e = .returned (.tuple #[.agg #[.slice q n c], .int .i64 0, .int .i64 0]) ∧ DsAt (New w.heap.size) w' ds (.slice q n c) ∧ Below w.heap.size w w'
  | .bad p er => e = .returned (.tuple #[.agg #[nilV], .int .i64 (p : Int), .int .i64 er]) ∧ Below w.heap.size w w'
  | .out => False
set_option maxRecDepth 100000 in
set_option maxHeartbeats 8000000 in
theorem parse_err {s : ByteArray} {w : World} {x : Nat × Int} (hx : x.2 ≠ 0) (cx : ∀ W, Below w.heap.size w W → Calls Tryz.prog 17 #[.string s] W (LxC.LexPost W (.error x))) :
    Calls Tryz.prog 8 #[.string s] w (PaPost (.bad x.1 x.2) w) := by
  have HB := Lib.hid ((Below.refl w.heap.size w).alloc (Nat.le_refl _) (.cells #[nilV] TMo))
  have cx' : Calls Tryz.prog 17 #[.string s] (w.alloc (.cells #[nilV] TMo)) fun e w' => e = .returned (.tuple #[.slice none 0 0, .int .i64 (x.1 : Int), .int .i64 x.2]) ∧ Below (w.alloc (.cells #[nilV] TMo)).heap.size (w.alloc (.cells #[nilV] TMo)) w' := cx _ HB.out
  have HZ := Lib.hid (heap_alloc_new w (.cells #[nilV] TMo))
  obtain ⟨p, er⟩ := x
  have D1 : (er != 0) = true := bne_iff_ne.2 hx
  have D2 : (er == 0) = false := beq_eq_false_iff_ne.2 hx
  clear cx hx
  go_enter Tryz.func8, Tryz.ntmps8
  go_wp2_with (first
    | (go_at_call 17; (with_reducible refine cx'.mono ?_); rintro e w2 ⟨rfl, hb⟩; have hm0 := (hb.block _ (by simp)).trans HZ.out; have HB2 := Lib.hid hb; clear hb cx')
    | ((with_reducible refine store1 rfl (.tmp 2) (.tmp 16) rfl w.heap.size none 0 0 ?xa ?xb #[nilV] rfl hm0 ?_); (case xa => simp [go_sem]); (case xb => simp [go_sem]); have n0 : (w2.setRow w.heap.size #[nilV]).heap[w.heap.size]? = some (.cells #[nilV] TMo (0, 0)) := setRow_heap _ _ _ _ _ _ hm0; have e0 : (w2.setRow w.heap.size #[nilV]).cell? ⟨w.heap.size, 0, none⟩ = some nilV := Lib.cell_of_heap n0 0))
  have hb1 := HB.out
  have hb2 := HB2.out
  have HC := Lib.hid (show Below w.heap.size w (w2.setRow w.heap.size #[nilV]) from
    ⟨hb2.os.trans hb1.os, hb2.tape.trans hb1.tape, hb2.output.trans hb1.output, by rw [setRow_size]; exact Nat.le_trans hb1.size hb2.size, fun i hi => (setRow_other _ _ _ _ (by omega)).trans ((hb2.block i (by simp; omega)).trans (hb1.block i hi))⟩)
  clear hb1 hb2 n0 hm0
  generalize w2.setRow w.heap.size #[nilV] = W5 at *
  refine bodyPost_ret (v := .tuple #[.agg #[nilV], .int .i64 (p : Int), .int .i64 er]) ?_ rfl ⟨rfl, HC.out⟩
  simp [results, Tryz.results8, go_sem, e0]
set_option maxRecDepth 100000 in
set_option maxHeartbeats 8000000 in
theorem parse_mod {s : ByteArray} {w : World} {ts : List Tok} {X : R (List De)} (hX : X ≠ .out) (cx : ∀ W, Below w.heap.size w W → Calls Tryz.prog 17 #[.string s] W (LxC.LexPost W (.ok ts)))
    (cm : ∀ W v, LxC.TokAt 0 W v ts → Calls Tryz.prog 18 #[v] W (ModPost X W)) :
    Calls Tryz.prog 8 #[.string s] w (PaPost (ansOf X) w) := by
  have HB := Lib.hid ((Below.refl w.heap.size w).alloc (Nat.le_refl _) (.cells #[nilV] TMo))
  have cx' : Calls Tryz.prog 17 #[.string s] (w.alloc (.cells #[nilV] TMo)) fun e w' => ∃ v, e = .returned (.tuple #[v, .int .i64 0, .int .i64 0]) ∧ LxC.TokAt (w.alloc (.cells #[nilV] TMo)).heap.size w' v ts ∧ Below (w.alloc (.cells #[nilV] TMo)).heap.size (w.alloc (.cells #[nilV] TMo)) w' := cx _ HB.out
  have HZ := Lib.hid (heap_alloc_new w (.cells #[nilV] TMo))
  have hz0 : (w.alloc (.cells #[nilV] TMo)).heap.size = w.heap.size + 1 := by simp
  have HZ0 := Lib.hid hz0
  clear hz0 cx
  cases X with
  | out => exact absurd rfl hX
  | bad p er =>
    have cm' : ∀ W v, LxC.TokAt 0 W v ts → Calls Tryz.prog 18 #[v] W fun e w' => e = .returned (.tuple #[.agg #[nilV], .int .i64 (p : Int), .int .i64 (er : Int)]) ∧ Below W.heap.size W w' := cm
    clear cm hX
    go_enter Tryz.func8, Tryz.ntmps8
    go_wp2_with (first
      | (go_at_call 17; (with_reducible refine cx'.mono ?_); rintro e w2 ⟨v, rfl, ht, hb⟩; have hm0 := (hb.block _ (by simp)).trans HZ.out; have cm2 := cm' w2 v (LxC.own_less (Nat.zero_le _) ht); have HB2 := Lib.hid hb; clear hb cx' ht cm')
      | (go_at_call 18; (with_reducible refine cm2.mono ?_); rintro e w3 ⟨rfl, hb⟩; have hm1 := (hb.block _ (Array.getElem?_eq_some_iff.1 hm0).1).trans hm0; have HB3 := Lib.hid hb; clear hb cm2)
      | ((with_reducible refine store1 rfl (.tmp 2) (.tmp 21) rfl w.heap.size none 0 0 ?xa ?xb #[nilV] rfl hm1 ?_); (case xa => simp [go_sem]); (case xb => simp [go_sem]); have n0 : (w3.setRow w.heap.size #[nilV]).heap[w.heap.size]? = some (.cells #[nilV] TMo (0, 0)) := setRow_heap _ _ _ _ _ _ hm1; have e0 : (w3.setRow w.heap.size #[nilV]).cell? ⟨w.heap.size, 0, none⟩ = some nilV := Lib.cell_of_heap n0 0))
    have hb1 := HB.out
    have hb2 := HB2.out
    have hb3 := HB3.out
    have hlt2 := (Array.getElem?_eq_some_iff.1 hm0).1
    have HC := Lib.hid (show Below w.heap.size w (w3.setRow w.heap.size #[nilV]) from
      ⟨hb3.os.trans (hb2.os.trans hb1.os), hb3.tape.trans (hb2.tape.trans hb1.tape), hb3.output.trans (hb2.output.trans hb1.output), by rw [setRow_size]; exact Nat.le_trans hb1.size (Nat.le_trans hb2.size hb3.size), fun i hi => (setRow_other _ _ _ _ (by omega)).trans ((hb3.block i (by omega)).trans ((hb2.block i (by simp; omega)).trans (hb1.block i hi)))⟩)
    clear hb1 hb2 hb3 n0 hm0 hm1 hlt2
    generalize w3.setRow w.heap.size #[nilV] = W5 at *
    refine bodyPost_ret (v := .tuple #[.agg #[nilV], .int .i64 (p : Int), .int .i64 (er : Int)]) ?_ rfl ⟨rfl, HC.out⟩
    simp [results, Tryz.results8, go_sem, e0]
  | ok ds r =>
    have cm' : ∀ W v, LxC.TokAt 0 W v ts → Calls Tryz.prog 18 #[v] W fun e w' => ∃ q n c, e = .returned (.tuple #[.agg #[.slice q n c], .int .i64 0, .int .i64 0]) ∧ DsAt (New W.heap.size) w' ds (.slice q n c) ∧ Below W.heap.size W w' := cm
    clear cm hX
    go_enter Tryz.func8, Tryz.ntmps8
    go_wp2_with (first
      | (go_at_call 17; (with_reducible refine cx'.mono ?_); rintro e w2 ⟨v, rfl, ht, hb⟩; have hm0 := (hb.block _ (by simp)).trans HZ.out; have cm2 := cm' w2 v (LxC.own_less (Nat.zero_le _) ht); have HB2 := Lib.hid hb; clear hb cx' ht cm')
      | (go_at_call 18; (with_reducible refine cm2.mono ?_); rintro e w3 ⟨q, n, c, rfl, hds, hb⟩; have hm1 := (hb.block _ (Array.getElem?_eq_some_iff.1 hm0).1).trans hm0; have HB3 := Lib.hid hb; have HD := Lib.hid hds; clear hb cm2 hds)
      | ((with_reducible refine store1 rfl (.tmp 2) (.tmp 21) rfl w.heap.size q n c ?xa ?xb #[nilV] rfl hm1 ?_); (case xa => simp [go_sem]); (case xb => simp [go_sem]); have n0 : (w3.setRow w.heap.size #[.slice q n c]).heap[w.heap.size]? = some (.cells #[.slice q n c] TMo (0, 0)) := setRow_heap _ _ _ _ _ _ hm1; have e0 : (w3.setRow w.heap.size #[.slice q n c]).cell? ⟨w.heap.size, 0, none⟩ = some (.slice q n c) := Lib.cell_of_heap n0 0))
    have hb1 := HB.out
    have hb2 := HB2.out
    have hb3 := HB3.out
    have hlt2 := (Array.getElem?_eq_some_iff.1 hm0).1
    have HC := Lib.hid (show Below w.heap.size w (w3.setRow w.heap.size #[.slice q n c]) from
      ⟨hb3.os.trans (hb2.os.trans hb1.os), hb3.tape.trans (hb2.tape.trans hb1.tape), hb3.output.trans (hb2.output.trans hb1.output), by rw [setRow_size]; exact Nat.le_trans hb1.size (Nat.le_trans hb2.size hb3.size), fun i hi => (setRow_other _ _ _ _ (by omega)).trans ((hb3.block i (by omega)).trans ((hb2.block i (by simp; omega)).trans (hb1.block i hi)))⟩)
    have hsm : Same (New w2.heap.size) w3 (w3.setRow w.heap.size #[.slice q n c]) := ⟨by simp, fun b hb hl => setRow_other _ _ _ _ (by have : w2.heap.size ≤ b := hb; omega)⟩
    have HDD := Lib.hid (show DsAt (New w.heap.size) _ ds (.slice q n c) from HD.out.mono hsm (fun b hb => by have : w2.heap.size ≤ b := hb; show w.heap.size ≤ b; omega) fun k r hk => hk.mono hsm fun b hb => by have : w2.heap.size ≤ b := hb; show w.heap.size ≤ b; omega)
    clear hb1 hb2 hb3 n0 hm0 hm1 hlt2 hsm
    generalize w3.setRow w.heap.size #[.slice q n c] = W5 at *
    refine bodyPost_ret (v := .tuple #[.agg #[.slice q n c], .int .i64 0, .int .i64 0]) ?_ rfl ⟨_, _, _, rfl, HDD.out, HC.out⟩
    simp [results, Tryz.results8, go_sem, e0]
/-- Parse of a text with no point -/
theorem parse_ (rb : Bs → Nat) (f : Nat) (hf : f ≤ 1000000) (s : ByteArray) (w : World) (hs : s.size ≤ maxLen) (hB : LxC.Base w.heap.size w) (hdot : ∀ b ∈ s.data.toList, isB 46 b = false) (hx : Pa.parse rb f s.data.toList ≠ .out) :
    Calls Tryz.prog 8 #[.string s] w (PaPost (Pa.parse rb f s.data.toList) w) := by
  have hl : ∀ W, Below w.heap.size w W → Calls Tryz.prog 17 #[.string s] W (LxC.LexPost W (lex s.data.toList)) := fun W hW => LxC.lex_ s W hs (hB.later hW hW.size (Nat.le_refl _)) fun _ => LxC.parses_dot hdot
  unfold Pa.parse at hx ⊢
  cases hlx : lex s.data.toList with
  | error x =>
    rw [hlx] at hl
    simp only
    exact parse_err (lex_err hlx) hl
  | ok ts =>
    rw [hlx] at hl hx
    simp only at hx ⊢
    have hg : Good (fun _ => False) ts := lex_good (fun t ht hr => by
      rw [isReal_dot (fun b hb => hdot b (ht b hb))] at hr; cases hr) hlx
    have hne : ts ≠ [] := fun e => by rw [e] at hg; exact hg
    have hX : pModule rb f [] ts ≠ .out := fun e => by rw [e] at hx; exact hx rfl
    have hm : ∀ (W : World) (v : Value), LxC.TokAt 0 W v ts → Calls Tryz.prog 18 #[v] W (ModPost (pModule rb f [] ts) W) := fun W v ht => by
      have hr : Reals (W.heap.size + 15) (W.heap.size + 14) (fun _ => False) rb := fun s h => h.elim
      have c := fun W' (hp : PAt (W.heap.size + 15) W' (W.heap.size + 14) ts 0) => module_loop hf hp hg (fun f' hf' ts hg => decl_step (by omega) hr hg) hX rfl
      cases hq : pModule rb f [] ts with
      | out => exact absurd hq hX
      | bad p er => exact module_bad hne ht fun W' hp => by have := c W' hp; rw [hq] at this; exact this
      | ok ds r => exact module_ok hne ht fun W' hp => by have := c W' hp; rw [hq] at this; exact this
    have := parse_mod hX hl hm
    cases hq : pModule rb f [] ts with
    | out => exact absurd hq hX
    | bad p er => rw [hq] at this; exact this
    | ok ds r => rw [hq] at this; exact this
end PaC
end Go.Proofs.YtnlbhnmiekanfaaGreatDoor
