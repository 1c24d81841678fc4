/-
  ParX ParV ParRow ParY ParZ, joined.
  Conditions: those that are written at each.
-/
import Derived.Test.YtnlbhnmiekanfaaGreatDoorPxD
import Derived.Maps.AppendAt
import Derived.Deep.AppendLies
/-
  The parser's operators of one strength: binary. Condition: what the parser holds lies in memory.
-/
namespace Go.Proofs.YtnlbhnmiekanfaaGreatDoor
open Go.RowKit Go.Deep
set_option linter.unusedVariables false
set_option linter.unusedSimpArgs false
namespace PaC
open Pa Lx
attribute [local go_sem] fld0 fld1 fld2
variable {N : Nat} {Rl : Bs → Prop} {rb : Bs → Nat}
/-- the cells of a level -/
theorem PAt.lev2 {w : World} {G d s : Nat} {ts : List Tok} (h : PAt N w G ts d) (hs : s < 10) : ∃ L b, w.cell? ⟨G, 1, none⟩ = some (.slice (some ⟨L, 0, none⟩) 10 10) ∧ w.cell? ⟨L, s, none⟩ = some (.slice (some ⟨b, 0, none⟩) (level s).length (level s).length) ∧ SignsAt w b (level s) ∧ b < w.heap.size := by
  obtain ⟨g, o, c, L, h1, h2, h3, h4, h5, h6, h7, h8, h9, h10, h11⟩ := h
  obtain ⟨b, a1, a2, a3, a4⟩ := h7 s hs
  exact ⟨L, b, Lib.cell_of_heap h1 1, a3, a4, by omega⟩
theorem level_few (s : Nat) (hs : s < 10) : (level s).length ≤ 8 ∧ [] ∉ level s := by
  match s, hs with
  | 0, _ => decide
  | 1, _ => decide
  | 2, _ => decide
  | 3, _ => decide
  | 4, _ => decide
  | 5, _ => decide
  | 6, _ => decide
  | 7, _ => decide
  | 8, _ => decide
  | 9, _ => decide
  | s + 10, h => omega
/-- is the next token an operator of this strength? -/
theorem seesLev {w : World} {G d s n b : Nat} {ts : List Tok} (hs : s < 10) (hn : (level s).length = n) (hg : Good Rl ts) (h : PAt N w G ts d) (ha : SignsAt w b (level s)) (hb : b < w.heap.size) :
    Calls Tryz.prog 134 #[ptr G, .slice (some ⟨b, 0, none⟩) n n] w (OkPost N G d (.bool (Pa.sees ts (level s))) ts w) := by
  obtain ⟨t, r, rfl⟩ := hg.ne
  have := (level_few s hs).1
  exact (sees_ (c := n) (n := n) h ha hn (by omega) hb).mono fun e w' hq => ⟨hq.1, h.below hq.2, Keep.of hq.2⟩
set_option maxRecDepth 100000 in
set_option maxHeartbeats 4000000 in
theorem binary_bad {w : World} {G d p er s : Nat} {ts : List Tok} (hs : s < 10) (h : PAt N w G ts d) (ca : ∀ W, PAt N W G ts d → Calls Tryz.prog 139 #[ptr G, .int .i64 ((s : Int) + 1)] W (BadPost G (p : Int) (er : Int) W)) :
    Calls Tryz.prog 139 #[ptr G, .int .i64 (s : Int)] w (BadPost G (p : Int) (er : Int) w) := by
  have HP0 := Lib.hid (h.below ((Below.refl _ _).alloc (Nat.le_refl _) (.cells z8 TE)))
  obtain ⟨L, hL⟩ := HP0.out.lev
  have hw : IntKind.i64.wrap ((s : Int) + 1) = (s : Int) + 1 := by rw [IntKind.wrap_i64]; omega
  have h10 : ((s : Int) == 10) = false := by rw [beq_eq_false_iff_ne]; omega
  clear h
  go_enter Tryz.func139, Tryz.ntmps139
  go_wp2_with ((with_reducible refine (ca _ HP0.out).mono ?_); rintro e w1 ⟨rfl, hp, hk⟩; have HW := Lib.hid hp; have HK1 := Lib.hid hk; clear hp hk)
  exact ⟨rfl, rfl, HW.out, HK1.out.first⟩
set_option maxRecDepth 100000 in
set_option maxHeartbeats 16000000 in
theorem binary_loop {w : World} {G d f s : Nat} {ts r : List Tok} {x : Ex} {X : R Ex} (hs10 : s < 10) (h : PAt N w G ts d) (hgr : Good Rl r)
    (ca : ∀ W, PAt N W G ts d → Calls Tryz.prog 139 #[ptr G, .int .i64 ((s : Int) + 1)] W (ExOk N G d x r W))
    (he : ∀ f', f' ≤ f → ∀ ts, Good Rl ts → Con N G Rl 139 #[ptr G, .int .i64 ((s : Int) + 1)] d ts (pBin rb f' (s + 1) d ts))
    (hX : X ≠ .out) (hx : X = pOps rb f s d x r) : Calls Tryz.prog 139 #[ptr G, .int .i64 (s : Int)] w (RPost (ExOk N G d) G X w) := by
  have hlt := h.base
  have HP0 := Lib.hid (h.below ((Below.refl _ _).alloc (Nat.le_refl _) (.cells z8 TE)))
  obtain ⟨L0, hL0⟩ := HP0.out.lev
  have hw : IntKind.i64.wrap ((s : Int) + 1) = (s : Int) + 1 := by rw [IntKind.wrap_i64]; omega
  have h10 : ((s : Int) == 10) = false := by rw [beq_eq_false_iff_ne]; omega
  have HX := Lib.hid hx
  have HNX := Lib.hid hX
  have HG := Lib.hid hgr
  have HE := Lib.hid he
  have HS := Lib.hid hs10
  clear h hx hX hgr he
  go_enter Tryz.func139, Tryz.ntmps139
  go_wp2_with (first
    | ((with_reducible refine (ca _ HP0.out).mono ?_); rintro e w1 ⟨c, rfl, hex, hp, hk⟩; obtain ⟨k1, op1, nm1, n1, b1, t1, p1, a1, l1, q1, e1, z1, -⟩ := hex.eight; rw [e1]; have HI := Lib.hid (LeftI.first hlt HG.out hp hk (by rw [World.size_alloc] at hex; exact hex)); rw [e1] at HI; clear hp hk hex ca))
  obtain ⟨B, hB⟩ : ∃ B, B = w1.heap.size := ⟨_, rfl⟩
  rw [← hB] at HI ⊢
  clear hB z1 e1 HP0 HG hL0
  go_loopg [28] f (fun gg u28 wr => ∃ (x : Ex) (ts : List Tok) (c : List Value), gg ≤ f ∧ Aside (LeftI N G d Rl w wr B x ts c) ∧ Aside (X = pOps rb gg s d x ts))
  case atStart => exact ⟨x, r, c, Nat.le_refl _, HI.out, HX.out⟩
  case round =>
    obtain ⟨y, us, c, hgf, A1, A2⟩ := hrel
    obtain ⟨k2, op2, nm2, n2, b2, t2, p2, a2, l2, q2, e2, z2, -⟩ := A1.out.ex.eight
    have hBG : B ≠ G := by have := A1.out.lt; omega
    obtain ⟨L, bL, g1, g2, g3, g4⟩ := A1.out.p.lev2 hs10
    have hnn : s < 10 := hs10
    have ct := seesLev hs10 rfl A1.out.good A1.out.p g3 g4
    obtain ⟨n, hn⟩ : ∃ n, n = (level s).length := ⟨_, rfl⟩
    rw [← hn] at g2 ct
    clear hn g3 g4
    cases gk with
    | zero => exact absurd (A2.out.trans (by rw [pOps])) HNX.out
    | succ g =>
    cases hs : Pa.sees us (level s) with
    | false =>
      have A3 : Aside (X = .ok y us) := by show _ = _; rw [A2.out, pOps, if_neg (by rw [hs]; decide)]
      rw [hs] at ct
      have HE2 := Lib.hid e2
      clear hs e2 z2
      go_wp2_with (first
        | ((with_reducible refine ct.mono ?_); rintro e w2 ⟨rfl, hp, hk⟩; have HI2 := Lib.hid (A1.out.next hlt hp hk A1.out.good); have hl2 := HI2.out.left; have hz2 := HI2.out.res; rw [HE2.out] at hl2; clear hp hk ct)
        | ((with_reducible refine load8 rfl (.tmp 5) rfl B k2 n2 b2 t2 p2 ⟨op2.toArray⟩ ⟨nm2.toArray⟩ (.slice a2 l2 q2) ?xc hl2 ?_); (case xc => simp [go_sem]))
        | ((with_reducible refine store8 rfl (.tmp 4) (.tmp 39) rfl w.heap.size k2 n2 b2 t2 p2 ⟨op2.toArray⟩ ⟨nm2.toArray⟩ a2 l2 q2 ?xa ?xb z8 rfl hz2 ?_); (case xa => simp [go_sem]); (case xb => simp [go_sem])))
      refine fin_bin _ _ _ _ _ _ _ _ _ (by simp) hz2 ?_
      have hd := HI2.out.done hlt
      rw [HE2.out] at hd
      rw [A3.out]
      exact hd
    | true =>
      obtain ⟨t, u, v, rfl, hg2⟩ := good_sees A1.out.good (level_few s hs10).2 hs
      rw [hs] at ct
      have cr : ∀ W, PAt N W G (t :: u :: v) d → Calls Tryz.prog 135 #[ptr G] W (OkPost N G d (tokV t) (u :: v) W) := fun W hW => read_ hW
      have A3 : X = (pBin rb g (s + 1) d (u :: v)).bind fun y2 r => pOps rb g s d (Pa.pair 5 t.text y y2) r := by rw [A2.out, pOps, if_pos hs]; rfl
      have HG2 := Lib.hid hg2
      obtain ⟨c1, c2⟩ := HE.out g (by omega) _ hg2
      cases hq : pBin rb g (s + 1) d (u :: v) with
      | out => exact absurd (A3.trans (by rw [hq]; rfl)) HNX.out
      | bad p er =>
        have cx := c2 p er hq
        have A4 : X = .bad p er := A3.trans (by rw [hq]; rfl)
        clear c1 c2 hq A3 A2 HX HNX HE hg2
        subst A4
        have HE2 := Lib.hid e2
        clear hs e2 z2
        go_upto_region 6 with (first
          | ((with_reducible refine ct.mono ?_); rintro e w5 ⟨rfl, hp, hk⟩; have HI5 := Lib.hid (A1.out.next hlt hp hk A1.out.good); clear hp hk ct)
          | ((with_reducible refine (cr _ HI5.out.p).mono ?_); rintro e w6 ⟨rfl, hp, hk⟩; have HI6 := Lib.hid (HI5.out.next hlt hp hk HG2.out); have hl6 := HI6.out.left; rw [HE2.out] at hl6; clear hp hk cr))
        obtain ⟨y0, y1, y2, y3, y4, y5, y6, y7⟩ := cells8 (show w6.drew.heap[B]? = some (.cells (ex8 k2 ⟨op2.toArray⟩ ⟨nm2.toArray⟩ n2 b2 (.slice a2 l2 q2) t2 p2) TE (0, 0)) from hl6)
        have hB6 : B < w6.heap.size := (Array.getElem?_eq_some_iff.1 hl6).1
        have hwB : w.heap.size < B := HI6.out.lt
        clear hl6
        have HP6 := Lib.hid (show PAt N w6.drew G (u :: v) d from HI6.out.p)
        refine wp_region_any (by kernel_rfl) ?_
        change wpAny _ _ _ _ _ _ _ (World.drew _)
        refine wpAny_take (i := 0) (v := .string ⟨t.text.toArray⟩) rfl (by kernel_rfl) (by kernel_rfl) (by kernel_rfl) (fun _ _ _ h => h) (Or.inl ⟨by rfl, by intro w; go_simp⟩) ?_
        refine wpAny_take (i := 2) (v := ptr G) rfl (by kernel_rfl) (by kernel_rfl) (by kernel_rfl) (fun _ _ _ h => h) (Or.inl ⟨by rfl, by intro w; go_simp⟩) ?_
        refine wpAny_take (i := 3) (v := .int .i64 (s : Int)) rfl (by kernel_rfl) (by kernel_rfl) (by kernel_rfl) (fun _ _ _ h => h) (Or.inl ⟨by rfl, by intro w; go_simp⟩) ?_
        refine wpAny_take (i := 4) (v := .int .i64 ((s : Int) + 1)) rfl (by kernel_rfl) (by kernel_rfl) (by kernel_rfl) (fun _ _ _ h => h) (Or.inl ⟨by rfl, by intro w; go_simp⟩) ?_
        refine wpAny_ready (rs := [1, 5]) (by kernel_rfl) (by simp) ?_
        refine AllReady.cons rfl (fun K hK => ?_) (AllReady.cons rfl (fun K hK => ?_) AllReady.nil)
        · go_simp
          refine hK _ _ ?_
          clear hK K
          refine wpAny_ready (rs := [5]) (by kernel_rfl) (by simp) ?_
          refine AllReady.cons rfl (fun K hK => ?_) AllReady.nil
          go_simp
          clear hK
          refine (cx _ HP6.out).mono ?_
          rintro e w7 ⟨rfl, hp, hk⟩
          exact ⟨rfl, rfl, hp, HI6.out.keep.trans ⟨hk.os, hk.tape, hk.output, hk.size, hk.block⟩⟩
        · go_simp
          clear hK
          refine (cx _ HP6.out).mono ?_
          rintro e w7 ⟨rfl, hp, hk⟩
          exact ⟨rfl, rfl, hp, HI6.out.keep.trans ⟨hk.os, hk.tape, hk.output, hk.size, hk.block⟩⟩
      | ok y2 r3 =>
        obtain ⟨hgr, cx⟩ := c1 y2 r3 hq
        have HGR := Lib.hid hgr
        have A4 : Aside (X = pOps rb g s d (Pa.pair 5 t.text y y2) r3) := A3.trans (by rw [hq]; rfl)
        clear c1 c2 hq A3 A2 HX HNX HE hg2 hgr
        have HE2 := Lib.hid e2
        clear hs e2 z2
        go_upto_region 6 with (first
          | ((with_reducible refine ct.mono ?_); rintro e w5 ⟨rfl, hp, hk⟩; have HI5 := Lib.hid (A1.out.next hlt hp hk A1.out.good); clear hp hk ct)
          | ((with_reducible refine (cr _ HI5.out.p).mono ?_); rintro e w6 ⟨rfl, hp, hk⟩; have HI6 := Lib.hid (HI5.out.next hlt hp hk HG2.out); have hl6 := HI6.out.left; rw [HE2.out] at hl6; clear hp hk cr))
        obtain ⟨y0, y1, y2, y3, y4, y5, y6, y7⟩ := cells8 (show w6.drew.heap[B]? = some (.cells (ex8 k2 ⟨op2.toArray⟩ ⟨nm2.toArray⟩ n2 b2 (.slice a2 l2 q2) t2 p2) TE (0, 0)) from hl6)
        have hB6 : B < w6.heap.size := (Array.getElem?_eq_some_iff.1 hl6).1
        have hwB : w.heap.size < B := HI6.out.lt
        clear hl6
        have HP6 := Lib.hid (show PAt N w6.drew G (u :: v) d from HI6.out.p)
        refine wp_region_noPanic ?_
        refine wp_region_any (by kernel_rfl) ?_
        change wpAny _ _ _ _ _ _ _ (World.drew _)
        refine wpAny_take (i := 0) (v := .string ⟨t.text.toArray⟩) rfl (by kernel_rfl) (by kernel_rfl) (by kernel_rfl) (fun _ _ _ h => h) (Or.inl ⟨by rfl, by intro w; go_simp⟩) ?_
        refine wpAny_take (i := 2) (v := ptr G) rfl (by kernel_rfl) (by kernel_rfl) (by kernel_rfl) (fun _ _ _ h => h) (Or.inl ⟨by rfl, by intro w; go_simp⟩) ?_
        refine wpAny_take (i := 3) (v := .int .i64 (s : Int)) rfl (by kernel_rfl) (by kernel_rfl) (by kernel_rfl) (fun _ _ _ h => h) (Or.inl ⟨by rfl, by intro w; go_simp⟩) ?_
        refine wpAny_take (i := 4) (v := .int .i64 ((s : Int) + 1)) rfl (by kernel_rfl) (by kernel_rfl) (by kernel_rfl) (fun _ _ _ h => h) (Or.inl ⟨by rfl, by intro w; go_simp⟩) ?_
        refine wpAny_ready (rs := [1, 5]) (by kernel_rfl) (by simp) ?_
        refine AllReady.cons rfl (fun K hK => ?_) (AllReady.cons rfl (fun K hK => ?_) AllReady.nil)
        · go_simp
          refine hK _ _ ?_
          clear hK K y0 y1 y2 y3 y4 y5 y6 y7
          refine wpAny_ready (rs := [5]) (by kernel_rfl) (by simp) ?_
          refine AllReady.cons rfl (fun K hK => ?_) AllReady.nil
          go_simp
          refine (cx _ HP6.out).mono ?_
          rintro e w7 ⟨c2, rfl, hex2, hp, hk⟩
          have hs7 : w6.heap.size ≤ w7.heap.size := hk.size
          have HI7 := Lib.hid (HI6.out.next hlt hp (by exact ⟨hk.os, hk.tape, hk.output, hk.size, hk.block⟩) HGR.out)
          have HY := Lib.hid hex2
          clear hp hk hex2
          refine hK _ _ ?_
          clear hK K
          refine wpAny_ready (rs := [6]) (by kernel_rfl) (by simp) ?_
          refine AllReady.cons rfl (fun K hK => ?_) AllReady.nil
          go_simp
          have cp := pair_ 5 t.text HI7.out.ex (HY.out.mono ⟨Nat.le_refl _, fun _ _ _ => rfl⟩ fun b hb => ⟨by have : w6.heap.size ≤ b := hb; omega, by have : w6.heap.size ≤ b := hb; omega⟩)
          rw [HE2.out] at cp
          refine cp.mono ?_
          rintro e w8 ⟨c3, rfl, hb8, hex3⟩
          refine hK _ _ ?_
          clear hK K cp
          obtain ⟨k3, op3, nm3, n3, b3, t3, p3, a3, l3, q3, e3, z3, -⟩ := hex3.eight
          have HI9 := Lib.hid (HI7.out.set hlt hb8 (hex3.mono ⟨Nat.le_refl _, fun _ _ _ => rfl⟩ fun b hb => hb.elim id fun hb => ⟨by have : w7.heap.size ≤ b := hb; omega, by have : w7.heap.size ≤ b := hb; omega⟩))
          have hl8 : w8.heap[B]? = some (.cells c.toArray TE (0, 0)) := (hb8.block _ (by omega)).trans HI7.out.left
          rw [HE2.out] at hl8
          rw [e3] at HI9 ⊢
          refine wpAny_ready (rs := [7]) (by kernel_rfl) (by simp) ?_
          refine AllReady.cons rfl (fun K hK => ?_) AllReady.nil
          rw [if_pos (by kernel_rfl)]
          refine wp_store_row TE (.tmp 5) (.tmp 38) rfl B (ex8 k3 ⟨op3.toArray⟩ ⟨nm3.toArray⟩ n3 b3 (.slice a3 l3 q3) t3 p3) (by rfl) (by rfl) TE (ex8 k2 ⟨op2.toArray⟩ ⟨nm2.toArray⟩ n2 b2 (.slice a2 l2 q2) t2 p2) hl8 (size8 _ _ _ _ _ _ _ _) rfl (one8 _ _ _ _ _ _ _ _ _ _) ?_
          refine hK _ _ ?_
          clear hK K hl8
          refine wpAny_done (by kernel_rfl) ?_ _
          refine NoPanic.normal ?_
          go_wp2
          go_roundg g
          case measure => omega
          case rel => exact ⟨_, _, c3, by omega, HI9.out, A4.out⟩
        · clear y0 y1 y2 y3 y4 y5 y6 y7
          go_simp
          refine (cx _ HP6.out).mono ?_
          rintro e w7 ⟨c2, rfl, hex2, hp, hk⟩
          have hs7 : w6.heap.size ≤ w7.heap.size := hk.size
          have HI7 := Lib.hid (HI6.out.next hlt hp (by exact ⟨hk.os, hk.tape, hk.output, hk.size, hk.block⟩) HGR.out)
          have HY := Lib.hid hex2
          clear hp hk hex2
          refine hK _ _ ?_
          clear hK K
          have hl7 := HI7.out.left
          rw [HE2.out] at hl7
          obtain ⟨y0, y1, y2, y3, y4, y5, y6, y7⟩ := cells8 hl7
          refine wpAny_ready (rs := [1]) (by kernel_rfl) (by simp) ?_
          refine AllReady.cons rfl (fun K hK => ?_) AllReady.nil
          go_simp
          refine hK _ _ ?_
          clear hK K y0 y1 y2 y3 y4 y5 y6 y7 hl7
          refine wpAny_ready (rs := [6]) (by kernel_rfl) (by simp) ?_
          refine AllReady.cons rfl (fun K hK => ?_) AllReady.nil
          go_simp
          have cp := pair_ 5 t.text HI7.out.ex (HY.out.mono ⟨Nat.le_refl _, fun _ _ _ => rfl⟩ fun b hb => ⟨by have : w6.heap.size ≤ b := hb; omega, by have : w6.heap.size ≤ b := hb; omega⟩)
          rw [HE2.out] at cp
          refine cp.mono ?_
          rintro e w8 ⟨c3, rfl, hb8, hex3⟩
          refine hK _ _ ?_
          clear hK K cp
          obtain ⟨k3, op3, nm3, n3, b3, t3, p3, a3, l3, q3, e3, z3, -⟩ := hex3.eight
          have HI9 := Lib.hid (HI7.out.set hlt hb8 (hex3.mono ⟨Nat.le_refl _, fun _ _ _ => rfl⟩ fun b hb => hb.elim id fun hb => ⟨by have : w7.heap.size ≤ b := hb; omega, by have : w7.heap.size ≤ b := hb; omega⟩))
          have hl8 : w8.heap[B]? = some (.cells c.toArray TE (0, 0)) := (hb8.block _ (by omega)).trans HI7.out.left
          rw [HE2.out] at hl8
          rw [e3] at HI9 ⊢
          refine wpAny_ready (rs := [7]) (by kernel_rfl) (by simp) ?_
          refine AllReady.cons rfl (fun K hK => ?_) AllReady.nil
          rw [if_pos (by kernel_rfl)]
          refine wp_store_row TE (.tmp 5) (.tmp 38) rfl B (ex8 k3 ⟨op3.toArray⟩ ⟨nm3.toArray⟩ n3 b3 (.slice a3 l3 q3) t3 p3) (by rfl) (by rfl) TE (ex8 k2 ⟨op2.toArray⟩ ⟨nm2.toArray⟩ n2 b2 (.slice a2 l2 q2) t2 p2) hl8 (size8 _ _ _ _ _ _ _ _) rfl (one8 _ _ _ _ _ _ _ _ _ _) ?_
          refine hK _ _ ?_
          clear hK K hl8
          refine wpAny_done (by kernel_rfl) ?_ _
          refine NoPanic.normal ?_
          go_wp2
          go_roundg g
          case measure => omega
          case rel => exact ⟨_, _, c3, by omega, HI9.out, A4.out⟩
end PaC
end Go.Proofs.YtnlbhnmiekanfaaGreatDoor
/-
  What a call keeps that fills a struct of its own: statements. Condition: what the parser holds lies in memory.
-/
namespace Go.Proofs.YtnlbhnmiekanfaaGreatDoor
open Go.RowKit
set_option linter.unusedVariables false
set_option linter.unusedSimpArgs false
namespace PaC
open Pa Lx
variable {N : Nat} {Rl : Bs → Prop} {rb : Bs → Nat}
abbrev TSt : TypeId := 35
/-- a statement's seven cells -/
abbrev st7 (k : Int) (ev kv : Value) (nm : ByteArray) (t l p : Int) : Array Value := #[.int .i64 k, ev, kv, .string nm, .int .i64 t, .int .i64 l, .int .i64 p]
abbrev z7 : Array Value := st7 0 (.slice none 0 0) (.slice none 0 0) ⟨#[]⟩ 0 0 0
theorem size7 (k : Int) (ev kv : Value) (nm : ByteArray) (t l p : Int) : (Tryz.prog.info? TSt).map (·.size) = some (st7 k ev kv nm t l p).size := by kernel_rfl
theorem one7 (k t l p : Int) (nm : ByteArray) (a1 a2 : Option Addr) (l1 c1 l2 c2 : Nat) : (st7 k (.slice a1 l1 c1) (.slice a2 l2 c2) nm t l p).all (·.oneCell') = true := by simp [st7, Value.oneCell']
section
variable {ops : Array Oper} {rest : List Oper} {o : Oper} {a : Act} {w : World} {Q : Exit → Act → World → Prop}
theorem load7 (hgd : o.guard = none) (x : Operand) (ho : o.op = .load TSt x) (g : Nat) (k t l p : Int) (nm : ByteArray) (ev kv : Value) (hx : a.eval x = .pointer (some ⟨g, 0, none⟩)) (hg : w.heap[g]? = some (.cells (st7 k ev kv nm t l p) TSt (0, 0)))
    (h : wpList Tryz.prog ops Q rest (a.put o.dst (.agg (st7 k ev kv nm t l p))) w) : wpList Tryz.prog ops Q (o :: rest) a w :=
  wpList_load_row hgd TSt x ho g hx TSt (st7 k ev kv nm t l p) (0, 0) _ hg Tryz.underlying35 rfl (size7 k ev kv nm t l p) h
theorem store7 (hgd : o.guard = none) (x y : Operand) (ho : o.op = .store TSt x y) (g : Nat) (k t l p : Int) (nm : ByteArray) (a1 a2 : Option Addr) (l1 c1 l2 c2 : Nat) (hx : a.eval x = .pointer (some ⟨g, 0, none⟩)) (hy : a.eval y = .agg (st7 k (.slice a1 l1 c1) (.slice a2 l2 c2) nm t l p)) (old : Array Value) (h8 : old.size = 7)
    (hg : w.heap[g]? = some (.cells old TSt (0, 0))) (h : wpList Tryz.prog ops Q rest (a.put o.dst undef) (w.setRow g (st7 k (.slice a1 l1 c1) (.slice a2 l2 c2) nm t l p))) : wpList Tryz.prog ops Q (o :: rest) a w :=
  wpList_store_row hgd TSt x y ho g (st7 k (.slice a1 l1 c1) (.slice a2 l2 c2) nm t l p) hx hy TSt old hg (size7 k _ _ nm t l p) (by rw [h8]; rfl) (one7 k t l p nm a1 a2 l1 c1 l2 c2) h
end
/-- a statement in memory, and what is left -/
def StOk (N G d : Nat) (x : St) (r : List Tok) (w : World) (e : Ending) (w' : World) : Prop := ∃ c, e = .returned (.agg c.toArray) ∧ StAt (New w.heap.size) w' x c ∧ PAt N w' G r d ∧ Keep G w w'
theorem SsAt.slice {P : Nat → Prop} {w : World} {ks : List St} {v : Value} (h : SsAt P w ks v) : ∃ a l c, v = .slice a l c := by
  cases h with
  | nil => exact ⟨_, _, _, rfl⟩
  | some kids g o cap rows hl hne hc hm hP hg hr hk => exact ⟨_, _, _, rfl⟩
theorem StAt.seven {P : Nat → Prop} {w : World} {x : St} {c : List Value} (h : StAt P w x c) : ∃ (k : Nat) (nm : Bs) (t l p : Nat) (a1 : Option Addr) (l1 c1 : Nat) (a2 : Option Addr) (l2 c2 : Nat), c.toArray = st7 k (.slice a1 l1 c1) (.slice a2 l2 c2) ⟨nm.toArray⟩ t l p ∧ c.length = 7 := by
  cases h with
  | mk kind exprs kids name type len place ev kv he hk =>
    obtain ⟨a1, l1, c1, rfl⟩ := he.slice
    obtain ⟨a2, l2, c2, rfl⟩ := hk.slice
    exact ⟨_, _, _, _, _, _, _, _, _, _, _, rfl, rfl⟩
/-- what a call keeps that fills a struct of its own in block B: the result's own cells are empty still -/
structure OwnI (N G d : Nat) (Rl : Bs → Prop) (T : TypeId) (z : Array Value) (w wr : World) (B : Nat) (ts : List Tok) (c : Array Value) : Prop where
  p : PAt N wr G ts d
  good : Good Rl ts
  keep : Keep G w wr
  res : wr.heap[w.heap.size]? = some (.cells z T (0, 0))
  left : wr.heap[B]? = some (.cells c T (0, 0))
  lt : w.heap.size < B
section
variable {G d B : Nat} {T : TypeId} {z c : Array Value} {w w1 wr w2 : World} {ts ts2 : List Tok}
theorem OwnI.first (hlt : N ≤ w.heap.size ∧ G < N) (hg : Good Rl ts) (hp : PAt N w1 G ts d) (hk : Keep G (w.alloc (.cells z T)) w1) : OwnI N G d Rl T z w (w1.alloc (.cells c T)) w1.heap.size ts c := by
  have hs := hk.size
  rw [World.size_alloc] at hs
  have hb : Below w1.heap.size w1 (w1.alloc (.cells c T)) := (Below.refl _ _).alloc (Nat.le_refl _) _
  refine ⟨hp.below hb, hg, (hk.first).trans (Keep.of hb), ?_, heap_alloc_new _ _, by omega⟩
  rw [Lib.alloc_old _ _ _ (by omega)]
  exact rowK (heap_alloc_new w _) hlt hk
theorem OwnI.next (hlt : N ≤ w.heap.size ∧ G < N) (h : OwnI N G d Rl T z w wr B ts c) (hp : PAt N w2 G ts2 d) (hk : Keep G wr w2) (hg : Good Rl ts2) : OwnI N G d Rl T z w w2 B ts2 c := by
  have hB := h.lt
  exact ⟨hp, hg, h.keep.trans hk, hk.at (by omega) h.res, hk.at (by omega) h.left, hB⟩
theorem OwnI.below (h : OwnI N G d Rl T z w wr B ts c) (hb : Below wr.heap.size wr w2) : OwnI N G d Rl T z w w2 B ts c := by
  have h1 := (Array.getElem?_eq_some_iff.1 h.res).1
  have h2 := (Array.getElem?_eq_some_iff.1 h.left).1
  exact ⟨h.p.below hb, h.good, h.keep.trans (Keep.of hb), (hb.block _ h1).trans h.res, (hb.block _ h2).trans h.left, h.lt⟩
theorem OwnI.drew (h : OwnI N G d Rl T z w wr B ts c) : OwnI N G d Rl T z w wr.drew B ts c := ⟨h.p, h.good, h.keep.drew, h.res, h.left, h.lt⟩
theorem OwnI.set (hlt : N ≤ w.heap.size ∧ G < N) (h : OwnI N G d Rl T z w wr B ts c) (i : Nat) (v : Value) {c2 : Array Value} (hc : c.setIfInBounds i v = c2) : OwnI N G d Rl T z w (wr.setCell ⟨B, i, none⟩ v) B ts c2 := by
  have hB := h.lt
  refine ⟨h.p.frame (by simp [World.setCell]) fun k hk => Below.heap_setCell _ _ _ _ (by show k ≠ B; omega), h.good, h.keep.setNew (by omega) _, ?_, ?_, hB⟩
  · rw [Below.heap_setCell _ _ _ _ (by show w.heap.size ≠ B; omega)]; exact h.res
  · rw [heap_setCell_same wr B i _ _ v h.left, hc]
theorem OwnI.cell (h : OwnI N G d Rl T z w wr B ts c) {i : Nat} {v : Value} (hv : c[i]? = some v) : wr.cell? ⟨B, i, none⟩ = some v := (Lib.cell_of_heap h.left i).trans hv
theorem OwnI.frozen (h : OwnI N G d Rl T z w wr B ts c) (i : Nat) : wr.frozen? ⟨B, i, none⟩ = false := Lib.frozen_of_heap h.left _
end
end PaC
end Go.Proofs.YtnlbhnmiekanfaaGreatDoor
/-
  Rows that a call lets grow, item by item. Condition: what the parser holds lies in memory.
-/
namespace Go.Proofs.YtnlbhnmiekanfaaGreatDoor
open Go.RowKit Go.Deep
set_option linter.unusedVariables false
set_option linter.unusedSimpArgs false
namespace PaC
open Pa Lx
variable {N : Nat} {Rl : Bs → Prop} {rb : Bs → Nat}
theorem infoE8 : (Tryz.prog.info? TE).map (fun i => (i.zero, i.size, i.bytes)) = some (some (.agg z8), 8, 96) := by kernel_rfl
theorem infoS7 : (Tryz.prog.info? TSt).map (fun i => (i.zero, i.size, i.bytes)) = some (some (.agg z7), 7, 96) := by kernel_rfl
theorem row_shape {w : World} {b n m size : Nat} {e : TypeId} {v : Value} {xs : List Value} (h : w.ownsRow b e size v n xs) (hn : n = m) : ∃ p c, v = .slice p m c := by
  subst hn
  rcases h.2 with ⟨rfl, rfl⟩ | ⟨g, cap, cur, rfl, _⟩
  · exact ⟨_, _, rfl⟩
  · exact ⟨_, _, rfl⟩
/-- what a loop keeps that lets a row grow -/
structure RowI {α : Type} (n : Nat) (R : (Nat → Prop) → World → α → List Value → Prop) (e : TypeId) (N G d : Nat) (Rl : Bs → Prop) (w wr : World) (acc : List α) (v : Value) (rows : List (List Value)) (ts : List Tok) : Prop where
  p : PAt N wr G ts d
  good : Good Rl ts
  keep : Keep G w wr
  grow : Grow n R e w.heap.size wr acc v rows
  few : acc.length ≤ 2500
section
variable {α : Type} {n : Nat} {R : (Nat → Prop) → World → α → List Value → Prop} {e : TypeId} {G d : Nat} {w wr w2 w1 : World} {acc : List α} {v v' : Value} {rows : List (List Value)} {ts ts2 : List Tok}
theorem Grow.one {M : Nat} {k : α} {r : List Value} (hs : Stays R) (hM : M ≤ w1.heap.size) (hr : R (New M) w1 k r) (hrl : r.length = n) : Grow n R e M (w1.alloc (.cells r.toArray e)) [k] (.slice (some ⟨w1.heap.size, 0, none⟩) 1 1) [r] := by
  refine ⟨⟨by simp [hrl], .inr ⟨w1.heap.size, 1, r.toArray, rfl, hM, heap_alloc_new _ _, Nat.le_refl _, by decide, by simp [hrl], by rw [← hrl]; simp⟩⟩, rfl, fun q hq => (by rw [List.mem_singleton.1 hq]; exact hrl), fun h => (by cases h), fun i q x hi hx => ?_⟩
  match i, hi, hx with
  | 0, hi, hx =>
    cases hi; cases hx
    exact hs.on _ _ _ _ _ _ ⟨by simp, fun b hb hl => Lib.alloc_old _ _ _ hl⟩ (fun b hb => ⟨hb.1, fun h => by have := hb.2; cases h; simp at this⟩) (hs.lt _ _ _ _ hr)
  | i + 1, hi, hx => simp at hi
theorem RowI.first {k : α} {r : List Value} (hs : Stays R) (hg : Good Rl ts) (hp : PAt N w1 G ts d) (hk : Keep G w w1) (hr : R (New w.heap.size) w1 k r) (hrl : r.length = n) :
    RowI n R e N G d Rl w (w1.alloc (.cells r.toArray e)) [k] (.slice (some ⟨w1.heap.size, 0, none⟩) 1 1) [r] ts := by
  have hb : Below w1.heap.size w1 (w1.alloc (.cells r.toArray e)) := (Below.refl _ _).alloc (Nat.le_refl _) _
  exact ⟨hp.below hb, hg, hk.trans (Keep.of hb), .one hs hk.size hr hrl, by simp⟩
theorem RowI.none (hg : Good Rl ts) (hp : PAt N wr G ts d) (hk : Keep G w wr) : RowI n R e N G d Rl w wr [] (.slice none 0 0) [] ts := ⟨hp, hg, hk, .nil _ _ _ _ _, by simp⟩
theorem RowI.next (hs : Stays R) (hlt : G < w.heap.size) (h : RowI n R e N G d Rl w wr acc v rows ts) (hp : PAt N w2 G ts2 d) (hk : Keep G wr w2) (hg : Good Rl ts2) : RowI n R e N G d Rl w w2 acc v rows ts2 :=
  ⟨hp, hg, h.keep.trans hk, h.grow.keep hs hk hlt, h.few⟩
theorem RowI.below (hs : Stays R) (h : RowI n R e N G d Rl w wr acc v rows ts) (hb : Below wr.heap.size wr w2) : RowI n R e N G d Rl w w2 acc v rows ts :=
  ⟨h.p.below hb, h.good, h.keep.trans (Keep.of hb), h.grow.below hs hb, h.few⟩
theorem RowI.push {k : α} {r : List Value} {M : Nat} (hs : Stays R) (hlt : N ≤ w.heap.size ∧ G < N) (h : RowI n R e N G d Rl w wr acc v rows ts) (hM : ∀ b, v.ownBlock = some b → b < M) (hM2 : w.heap.size ≤ M) (hr : R (New M) wr k r) (hrl : r.length = n)
    (hown : w2.ownsRow w.heap.size e n v' (acc.length + 1) (rows.flatten ++ r)) (hg : wr.grownBy w2 v.ownBlock) (hat : v'.ownBlock = v.ownBlock ∨ v'.ownBlock = some wr.heap.size) (hf : acc.length < 2500) :
    RowI n R e N G d Rl w w2 (acc ++ [k]) v' (rows ++ [r]) ts := by
  have hk : ∀ b, b < w.heap.size → w2.heap[b]? = wr.heap[b]? := fun b hb => hg.block b (Nat.lt_of_lt_of_le hb h.keep.size) fun e2 => by have := (h.grow.block e2.symm).1; omega
  refine ⟨h.p.frame hg.size fun b hb => hk b (by omega), h.good, ?_, ?_, by simp; omega⟩
  · exact ⟨hg.os.trans h.keep.os, hg.tape.trans h.keep.tape, hg.output.trans h.keep.output, Nat.le_trans h.keep.size hg.size, fun b hb hne => (hk b hb).trans (h.keep.block b hb hne)⟩
  · exact h.grow.push hs (hs.on _ _ _ _ _ _ ⟨Nat.le_refl _, fun _ _ _ => rfl⟩ (fun b hb => ⟨Nat.le_trans hM2 hb, fun e2 => by have := hM b e2; have : M ≤ b := hb; omega⟩) hr) hrl hown hg hat
theorem RowI.own (h : RowI n R e N G d Rl w wr acc v rows ts) : wr.ownsRow w.heap.size e n v acc.length rows.flatten := h.grow.own
theorem RowI.block (h : RowI n R e N G d Rl w wr acc v rows ts) : ∀ b, v.ownBlock = some b → b < wr.heap.size := fun b hb => (h.grow.block hb).2
end
abbrev two (w : World) (x y : Array UInt8) : World := w.alloc (.cells #[.string ⟨x⟩, .string ⟨y⟩] 9)
abbrev sl2 (w : World) : Value := .slice (some ⟨w.heap.size, 0, none⟩) 2 2
theorem ex_one (k n b t p : Int) (op nm : ByteArray) (a : Option Addr) (l c : Nat) : ∀ u ∈ (ex8 k op nm n b (.slice a l c) t p).toList, u.oneCell' = true := by
  have := one8 k n b t p op nm a l c
  rw [Array.all_eq_true_iff_forall_mem] at this
  exact fun u hu => this u (Array.mem_toList_iff.1 hu)
end PaC
end Go.Proofs.YtnlbhnmiekanfaaGreatDoor
/-
  The parser's lists of expressions. Condition: what the parser holds lies in memory.
-/
namespace Go.Proofs.YtnlbhnmiekanfaaGreatDoor
open Go.RowKit Go.Deep
set_option linter.unusedVariables false
set_option linter.unusedSimpArgs false
namespace PaC
open Pa Lx
attribute [local go_sem] fld0 fld1 fld2
variable {N : Nat} {Rl : Bs → Prop} {rb : Bs → Nat}
/-- what list is given -/
abbrev listV (G m : Nat) (E : Bs) : Array Value := #[ptr G, .func (.func 96) #[ptr G] #[], .int .i64 (m : Int), .string ⟨E.toArray⟩]
set_option maxRecDepth 100000 in
set_option maxHeartbeats 4000000 in
theorem list_bad {w : World} {G d p er m : Nat} {ts : List Tok} {E : Bs} (h : PAt N w G ts d) (ca : ∀ W, PAt N W G ts d → Calls Tryz.prog 96 #[ptr G] W (BadPost G (p : Int) (er : Int) W)) :
    Calls Tryz.prog 142 (listV G m E) w (BadPost G (p : Int) (er : Int) w) := by
  have HP0 := Lib.hid h
  clear h
  go_enter Tryz.func142, Tryz.ntmps142
  go_wp2_with ((with_reducible refine (ca _ HP0.out).mono ?_); rintro e w1 ⟨rfl, hp, hk⟩; have HW := Lib.hid hp; have HK1 := Lib.hid hk; clear hp hk)
  exact ⟨rfl, rfl, HW.out, HK1.out⟩
set_option maxRecDepth 100000 in
set_option maxHeartbeats 16000000 in
theorem list_loop {w : World} {G d f m : Nat} {ts r : List Tok} {E : Bs} {x : Ex} {X : R (List Ex)} (hm : m ≤ 2500) (hE : ((⟨E.toArray⟩ : ByteArray).toList == [44]) = false) (hE0 : [] ∉ [[44], E]) (h : PAt N w G ts d) (hgr : Good Rl r)
    (ca : ∀ W, PAt N W G ts d → Calls Tryz.prog 96 #[ptr G] W (ExOk N G d x r W))
    (he : ∀ f', f' ≤ f → ∀ ts, Good Rl ts → Con N G Rl 96 #[ptr G] d ts (pExpr rb f' d ts))
    (hX : X ≠ .out) (hx : X = pMore rb f m E d [x] r) : Calls Tryz.prog 142 (listV G m E) w (RPost (KsOk N G d) G X w) := by
  have hlt := h.base
  have hlt2 : G < w.heap.size := by omega
  have HP0 := Lib.hid h
  have HX := Lib.hid hx
  have HNX := Lib.hid hX
  have HG := Lib.hid hgr
  have HE := Lib.hid he
  have HE0 := Lib.hid hE0
  have HEE := Lib.hid hE
  obtain ⟨S, hS⟩ : ∃ S : ByteArray, S = ⟨E.toArray⟩ := ⟨_, rfl⟩
  rw [← hS] at hE
  have HS := Lib.hid hS
  have cwp : ∀ ts, Good Rl ts → ∀ W, PAt N W G ts d → Calls Tryz.prog 95 #[ptr G, sl2 W] (W.alloc (.cells #[.string ⟨#[44]⟩, .string S] 9)) (RPost (StrOk N G d) G (Pa.want ts [[44], E]) W) := fun ts hg W hW => by rw [hS]; exact wantL [[44], E] 2 rfl (by decide) hE0 hg hW
  have HCW := Lib.hid cwp
  clear h hx hX hgr he cwp hE0
  show Calls Tryz.prog 142 #[ptr G, .func (.func 96) #[ptr G] #[], .int .i64 (m : Int), .string ⟨E.toArray⟩] w _
  rw [← hS]
  clear hS
  obtain ⟨i0, hi, hz0, hz1, hz2⟩ := info_parts infoE8
  go_enter Tryz.func142, Tryz.ntmps142
  go_wp2_with (first
    | ((with_reducible refine (ca _ HP0.out).mono ?_); rintro e w1 ⟨c, rfl, hex, hp, hk⟩; obtain ⟨k1, op1, nm1, n1, b1, t1, p1, a1, l1, q1, e1, z1, -⟩ := hex.eight; rw [e1]; have HI := Lib.hid (RowI.first (n := 8) (e := TE) stays_ex HG.out hp hk hex z1); rw [e1] at HI; clear hp hk hex ca))
  obtain ⟨v0, hv0⟩ : ∃ v, v = Value.slice (some ⟨w1.heap.size, 0, none⟩) 1 1 := ⟨_, rfl⟩
  rw [← hv0] at HI ⊢
  clear z1 e1 HP0 HG hv0
  go_loopg [9] f (fun gg v wr => ∃ (acc : List Ex) (rows : List (List Value)) (ts : List Tok), gg ≤ f ∧ Aside (RowI 8 ExAt TE N G d Rl w wr acc v rows ts) ∧ Aside (X = pMore rb gg m E d acc ts))
  case atStart => exact ⟨[x], _, r, Nat.le_refl _, HI.out, HX.out⟩
  case round =>
    obtain ⟨acc, rows, us, hgf, A1, A2⟩ := hrel
    obtain ⟨q, cp, rfl⟩ := row_shape A1.out.own rfl
    cases gk with
    | zero => exact absurd (A2.out.trans (by rw [pMore])) HNX.out
    | succ g =>
    have A3 : X = (Pa.want us [[44], E]).bind fun s r => if s = [44] then if acc.length < m then (pExpr rb g d r).bind fun x r2 => pMore rb g m E d (acc ++ [x]) r2 else .bad (Pa.hd r).place 5 else .ok acc r := by rw [A2.out, pMore]
    have ct := HCW.out us A1.out.good wr A1.out.p
    cases hw : Pa.want us [[44], E] with
    | out => exact absurd (A3.trans (by rw [hw]; rfl)) HNX.out
    | bad p er =>
      rw [hw] at ct
      have A4 : X = .bad p er := A3.trans (by rw [hw]; rfl)
      clear hw A3 A2 HX HNX HE HCW
      subst A4
      go_wp2_with ((with_reducible refine ct.mono ?_); rintro e w2 ⟨rfl, hp, hk⟩; have HW := Lib.hid hp; have HK2 := Lib.hid (A1.out.keep.trans hk); clear hp hk ct)
      exact ⟨rfl, rfl, HW.out, HK2.out⟩
    | ok s r2 =>
      rw [hw] at ct
      obtain ⟨hg2, hmem⟩ := good_want A1.out.good HE0.out hw
      have HG2 := Lib.hid hg2
      by_cases hs : s = [44]
      · subst hs
        have A4 : X = if acc.length < m then (pExpr rb g d r2).bind fun x r2 => pMore rb g m E d (acc ++ [x]) r2 else .bad (Pa.hd r2).place 5 := A3.trans (by rw [hw]; rfl)
        have ct : Calls Tryz.prog 95 #[ptr G, sl2 wr] (wr.alloc (.cells #[.string ⟨#[44]⟩, .string S] 9)) (OkPost N G d (.string ⟨#[44]⟩) r2 wr) := ct
        by_cases hlm : acc.length < m
        · have A5 : X = (pExpr rb g d r2).bind fun x r2 => pMore rb g m E d (acc ++ [x]) r2 := by rw [A4, if_pos hlm]
          obtain ⟨c1, c2⟩ := HE.out g (by omega) _ hg2
          have D1 : decide ((acc.length : Int) < (m : Int)) = true := decide_eq_true (by omega)
          have D2 : (acc.length : Int) < (m : Int) := by omega
          have D3 : decide (acc.length < m) = true := decide_eq_true hlm
          cases hq : pExpr rb g d r2 with
          | out => exact absurd (A5.trans (by rw [hq]; rfl)) HNX.out
          | bad p er =>
            have cx := c2 p er hq
            have A6 : X = .bad p er := A5.trans (by rw [hq]; rfl)
            clear hw A3 A2 HX HNX HE HCW A4 A5 c1 c2 hq hmem hg2
            subst A6
            go_wp2_with (first
              | ((with_reducible refine ct.mono ?_); rintro e w2 ⟨rfl, hp, hk⟩; have HI2 := Lib.hid (A1.out.next stays_ex hlt2 hp hk HG2.out); clear hp hk ct)
              | ((with_reducible refine (demand_yes G 5 _).mono ?_); rintro e w3 ⟨rfl, rfl⟩)
              | ((with_reducible refine (cx _ HI2.out.p).mono ?_); rintro e w4 ⟨rfl, hp, hk⟩; have HW := Lib.hid hp; have HK4 := Lib.hid (HI2.out.keep.trans hk); clear hp hk cx))
            exact ⟨rfl, rfl, HW.out, HK4.out⟩
          | ok y r3 =>
            obtain ⟨hg3, cx⟩ := c1 y r3 hq
            have HG3 := Lib.hid hg3
            have A6 : Aside (X = pMore rb g m E d (acc ++ [y]) r3) := A5.trans (by rw [hq]; rfl)
            have hfew := A1.out.few
            clear hw A3 A2 HX HNX HE HCW A4 A5 c1 c2 hq hmem hg2 hg3
            go_wp2_with (first
              | ((with_reducible refine ct.mono ?_); rintro e w2 ⟨rfl, hp, hk⟩; have HI2 := Lib.hid (A1.out.next stays_ex hlt2 hp hk HG2.out); clear hp hk ct)
              | ((with_reducible refine (demand_yes G 5 _).mono ?_); rintro e w3 ⟨rfl, rfl⟩)
              | ((with_reducible refine (cx _ HI2.out.p).mono ?_); go_must (rintro e w4 ⟨c2, rfl, hex, hp, hk⟩; obtain ⟨k3, op3, nm3, n3, b3, t3, p3, a3, l3, q3, e3, z3, -⟩ := hex.eight; rw [e3]; have HI4 := Lib.hid (HI2.out.next stays_ex hlt2 hp hk HG3.out); have HI5 := Lib.hid (HI4.out.below (w2 := w4.alloc (.cells (ex8 k3 ⟨op3.toArray⟩ ⟨nm3.toArray⟩ n3 b3 (.slice a3 l3 q3) t3 p3) TE)) stays_ex ((Below.refl _ _).alloc (Nat.le_refl _) _)); have HB2 := Lib.hid HI2.out.block; have HY := Lib.hid hex; have HZ3 := Lib.hid (And.intro e3 z3); have HK2 := Lib.hid HI2.out.keep.size; have HNW := Lib.hid (World.news_of_block (heap_alloc_new w4 (.cells (ex8 k3 ⟨op3.toArray⟩ ⟨nm3.toArray⟩ n3 b3 (.slice a3 l3 q3) t3 p3) TE))); have hs5 := HI5.out.keep.size; clear hp hk cx hex))
              | (at_builtin; go_must (refine wpList_append_own_at _ rfl _ _ 31 rfl w.heap.size TE i0 (.agg z8) 8 96 Tryz.underlying31 hi hz0 hz1 hz2 rfl (by decide) _ _ _ rfl HI5.out.own ⟨w4.heap.size, 0, none⟩ 1 1 (ex8 k3 ⟨op3.toArray⟩ ⟨nm3.toArray⟩ n3 b3 (.slice a3 l3 q3) t3 p3).toList rfl rfl HNW.out (ex_one _ _ _ _ _ _ _ _ _ _) (by unfold maxLen; omega) (by omega) hs5 ?_; intro v6 w6 hown6 hgrow6 _ hat6; obtain ⟨q6, cp6, rfl⟩ := row_shape hown6 rfl; have HOWN6 := Lib.hid hown6; have HG6 := Lib.hid hgrow6; have HAT6 := Lib.hid hat6; clear hown6 hgrow6 hat6)))
            go_roundg g
            case measure => omega
            case rel =>
              obtain ⟨e3, z3⟩ := HZ3.out
              refine ⟨acc ++ [y], rows ++ [c2], r3, by omega, ?_, A6.out⟩
              have ho := HOWN6.out
              have e4 : c2 = [.int .i64 (k3 : Int), .string ⟨op3.toArray⟩, .string ⟨nm3.toArray⟩, .int .u32 (n3 : Int), .int .u64 (b3 : Int), .slice a3 l3 q3, .int .i64 (t3 : Int), .int .i64 (p3 : Int)] := congrArg Array.toList e3
              have ho2 : w6.ownsRow w.heap.size TE 8 (.slice q6 (acc.length + 1) cp6) (acc.length + 1) (rows.flatten ++ c2) := by rw [e4]; exact ho
              have hex5 := HY.out.mono (w' := w4.alloc (.cells (ex8 k3 ⟨op3.toArray⟩ ⟨nm3.toArray⟩ n3 b3 (.slice a3 l3 q3) t3 p3) TE)) ⟨by simp, fun b _ hl => Lib.alloc_old _ _ _ hl⟩ fun b hb => hb
              exact HI5.out.push stays_ex hlt HB2.out HK2.out hex5 z3 ho2 HG6.out HAT6.out (by omega)
        · have A5 : X = .bad (Pa.hd r2).place 5 := by rw [A4, if_neg hlm]
          have D1 : decide ((acc.length : Int) < (m : Int)) = false := decide_eq_false (by omega)
          have D2 : ¬ (acc.length : Int) < (m : Int) := by omega
          have D3 : decide (acc.length < m) = false := decide_eq_false hlm
          obtain ⟨t, l, rfl⟩ := hg2.ne
          have cd : ∀ W, PAt N W G (t :: l) d → Calls Tryz.prog 137 #[ptr G, .bool false, .int .i64 5] W (BadPost G (t.place : Int) 5 W) := fun W hW => demand_no hW 5
          clear hw A3 A2 HX HNX HE HCW A4 hmem hg2
          subst A5
          go_wp2_with (first
            | ((with_reducible refine ct.mono ?_); rintro e w2 ⟨rfl, hp, hk⟩; have HI2 := Lib.hid (A1.out.next stays_ex hlt2 hp hk HG2.out); clear hp hk ct)
            | ((with_reducible refine (cd _ HI2.out.p).mono ?_); rintro e w4 ⟨rfl, hp, hk⟩; have HW := Lib.hid hp; have HK4 := Lib.hid (HI2.out.keep.trans hk); clear hp hk cd))
          exact ⟨rfl, rfl, HW.out, HK4.out⟩
      · have hsE : s = E := by
          rcases List.mem_cons.1 hmem with h1 | h1
          · exact absurd h1 hs
          · exact List.mem_singleton.1 h1
        have A4 : Aside (X = .ok acc r2) := A3.trans (by rw [hw]; exact if_neg hs)
        have ct : Calls Tryz.prog 95 #[ptr G, sl2 wr] (wr.alloc (.cells #[.string ⟨#[44]⟩, .string S] 9)) (OkPost N G d (.string S) r2 wr) := by rw [hsE] at ct; have e := HS.out; have ct2 : Calls Tryz.prog 95 #[ptr G, sl2 wr] (wr.alloc (.cells #[.string ⟨#[44]⟩, .string S] 9)) (OkPost N G d (.string ⟨E.toArray⟩) r2 wr) := ct; rw [← e] at ct2; exact ct2
        clear hw A3 A2 HX HNX HE HCW hmem hg2 hs hsE
        go_wp2_with ((with_reducible refine ct.mono ?_); rintro e w2 ⟨rfl, hp, hk⟩; have HI2 := Lib.hid (A1.out.next stays_ex hlt2 hp hk HG2.out); clear hp hk ct)
        go_ret
        rw [A4.out]
        exact ⟨_, rfl, (HI2.out.grow.done stays_ex).ks, HI2.out.p, HI2.out.keep⟩
end PaC
end Go.Proofs.YtnlbhnmiekanfaaGreatDoor
/-
  The parser's expressions, all together, as the model says. Condition: what the parser holds lies in memory; what real.Parse answers of the texts of reals.
-/
namespace Go.Proofs.YtnlbhnmiekanfaaGreatDoor
open Go.RowKit Go.Deep
set_option linter.unusedVariables false
set_option linter.unusedSimpArgs false
namespace PaC
open Pa Lx
variable {N : Nat} {Rl : Bs → Prop} {rb : Bs → Nat}
theorem con_of {G d : Nat} {f : FuncId} {args : Array Value} {ts : List Tok} {x : R Ex} (hx : x ≠ .out → (∀ a r, x = .ok a r → Good Rl r) ∧ ∀ w, PAt N w G ts d → Calls Tryz.prog f args w (RPost (ExOk N G d) G x w)) : Con N G Rl f args d ts x := by
  cases x with
  | out => exact ⟨fun _ _ h => (by cases h), fun _ _ h => (by cases h)⟩
  | ok a r =>
    obtain ⟨h1, h2⟩ := hx (fun h => by cases h)
    exact ⟨fun a' r' h => (by cases h; exact ⟨h1 _ _ rfl, h2⟩), fun _ _ h => (by cases h)⟩
  | bad p er =>
    obtain ⟨h1, h2⟩ := hx (fun h => by cases h)
    exact ⟨fun _ _ h => (by cases h), fun p' er' h => (by cases h; exact h2)⟩
theorem conK_of {G d : Nat} {f : FuncId} {args : Array Value} {ts : List Tok} {x : R (List Ex)} (hx : x ≠ .out → (∀ a r, x = .ok a r → Good Rl r) ∧ ∀ w, PAt N w G ts d → Calls Tryz.prog f args w (RPost (KsOk N G d) G x w)) : ConK N G Rl f args d ts x := by
  cases x with
  | out => exact ⟨fun _ _ h => (by cases h), fun _ _ h => (by cases h)⟩
  | ok a r =>
    obtain ⟨h1, h2⟩ := hx (fun h => by cases h)
    exact ⟨fun a' r' h => (by cases h; exact ⟨h1 _ _ rfl, h2⟩), fun _ _ h => (by cases h)⟩
  | bad p er =>
    obtain ⟨h1, h2⟩ := hx (fun h => by cases h)
    exact ⟨fun _ _ h => (by cases h), fun p' er' h => (by cases h; exact h2)⟩
/-- what the loops leave is good -/
theorem ops_good {G d s : Nat} (hs : s < 10) : ∀ (f : Nat) (he : ∀ f', f' ≤ f → ∀ ts, Good Rl ts → Con N G Rl 139 #[ptr G, .int .i64 ((s : Int) + 1)] d ts (pBin rb f' (s + 1) d ts)) (x : Ex) (ts : List Tok) (hg : Good Rl ts) (a : Ex) (r : List Tok) (h : pOps rb f s d x ts = .ok a r), Good Rl r
  | 0, _, _, _, _, _, _, h => by rw [pOps] at h; cases h
  | f + 1, he, x, ts, hg, a, r, h => by
    rw [pOps] at h
    cases hx : Pa.sees ts (level s) with
    | false => rw [if_neg (by rw [hx]; decide)] at h; cases h; exact hg
    | true =>
      rw [if_pos hx] at h
      obtain ⟨t, u, v, rfl, hg2⟩ := good_sees hg (level_few s hs).2 hx
      obtain ⟨y, r1, h1, h2⟩ := bind_ok h
      exact ops_good hs f (fun f' hf => he f' (by omega)) _ _ ((he f (by omega) _ hg2).1 _ _ h1).1 _ _ h2
theorem idx_good {G d : Nat} : ∀ (f : Nat) (he : ∀ f', f' ≤ f → ∀ ts, Good Rl ts → Con N G Rl 96 #[ptr G] d ts (pExpr rb f' d ts)) (x : Ex) (ts : List Tok) (hg : Good Rl ts) (a : Ex) (r : List Tok) (h : pIdx rb f d x ts = .ok a r), Good Rl r
  | 0, _, _, _, _, _, _, h => by rw [pIdx] at h; cases h
  | f + 1, he, x, ts, hg, a, r, h => by
    rw [pIdx] at h
    cases hx : Pa.sees ts [[91]] with
    | false => rw [if_neg (by rw [hx]; decide)] at h; cases h; exact hg
    | true =>
      rw [if_pos hx] at h
      obtain ⟨t, u, v, rfl, hg2⟩ := good_sees hg (by decide) hx
      obtain ⟨y, r1, h1, h2⟩ := bind_ok h
      obtain ⟨s, r2, h3, h4⟩ := bind_ok h2
      exact idx_good f (fun f' hf => he f' (by omega)) _ _ (good_want ((he f (by omega) _ hg2).1 _ _ h1).1 (by decide) h3).1 _ _ h4
theorem more_good {G d m : Nat} {E : Bs} (hE : [] ∉ [[44], E]) : ∀ (f : Nat) (he : ∀ f', f' ≤ f → ∀ ts, Good Rl ts → Con N G Rl 96 #[ptr G] d ts (pExpr rb f' d ts)) (acc : List Ex) (ts : List Tok) (hg : Good Rl ts) (a : List Ex) (r : List Tok) (h : pMore rb f m E d acc ts = .ok a r), Good Rl r
  | 0, _, _, _, _, _, _, h => by rw [pMore] at h; cases h
  | f + 1, he, acc, ts, hg, a, r, h => by
    rw [pMore] at h
    obtain ⟨s, r1, h1, h2⟩ := bind_ok h
    have hg2 := (good_want hg hE h1).1
    split at h2
    · split at h2
      · obtain ⟨y, r2, h3, h4⟩ := bind_ok h2
        exact more_good hE f (fun f' hf => he f' (by omega)) _ _ ((he f (by omega) _ hg2).1 _ _ h3).1 _ _ h4
      · cases h2
    · cases h2; exact hg2
theorem post_step {G d f : Nat} {ts : List Tok} (hg : Good Rl ts) (ha : Con N G Rl 218 #[ptr G] d ts (pAtom rb f d ts))
    (he : ∀ f', f' ≤ f → ∀ ts, Good Rl ts → Con N G Rl 96 #[ptr G] d ts (pExpr rb f' d ts)) :
    Con N G Rl 192 #[ptr G] d ts (pPost rb (f + 1) d ts) := by
  have e : pPost rb (f + 1) d ts = (pAtom rb f d ts).bind fun x r => pIdx rb f d x r := by rw [pPost]
  cases hq : pAtom rb f d ts with
  | out => rw [e, hq]; exact con_of fun h => absurd rfl h
  | bad p er => rw [e, hq]; exact ⟨fun _ _ h => (by cases h), fun p' er' h w hp => (by cases h; exact post_bad hp (ha.2 _ _ hq))⟩
  | ok x r =>
    obtain ⟨hgr, ca⟩ := ha.1 _ _ hq
    have e2 : pPost rb (f + 1) d ts = pIdx rb f d x r := by rw [e, hq]; rfl
    rw [e2]
    exact con_of fun hX => ⟨fun a r' h => idx_good f he _ _ hgr _ _ h, fun w hp => post_loop hp hgr ca he hX rfl⟩
theorem bin_step {G d f s : Nat} {ts : List Tok} (hs : s < 10) (hg : Good Rl ts)
    (he : ∀ f', f' ≤ f → ∀ ts, Good Rl ts → Con N G Rl 139 #[ptr G, .int .i64 ((s : Int) + 1)] d ts (pBin rb f' (s + 1) d ts)) :
    Con N G Rl 139 #[ptr G, .int .i64 (s : Int)] d ts (pBin rb (f + 1) s d ts) := by
  have e : pBin rb (f + 1) s d ts = (pBin rb f (s + 1) d ts).bind fun x r => pOps rb f s d x r := by rw [pBin, if_neg (by omega)]
  have ha := he f (Nat.le_refl _) ts hg
  cases hq : pBin rb f (s + 1) d ts with
  | out => rw [e, hq]; exact con_of fun h => absurd rfl h
  | bad p er => rw [e, hq]; exact ⟨fun _ _ h => (by cases h), fun p' er' h w hp => (by cases h; exact binary_bad hs hp (ha.2 _ _ hq))⟩
  | ok x r =>
    obtain ⟨hgr, ca⟩ := ha.1 _ _ hq
    have e2 : pBin rb (f + 1) s d ts = pOps rb f s d x r := by rw [e, hq]; rfl
    rw [e2]
    exact con_of fun hX => ⟨fun a r' h => ops_good hs f he _ _ hgr _ _ h, fun w hp => binary_loop hs hp hgr ca he hX rfl⟩
theorem list_step {G d f m : Nat} {E : Bs} {ts : List Tok} (hm : m ≤ 2500) (hE : ((⟨E.toArray⟩ : ByteArray).toList == [44]) = false) (hE0 : [] ∉ [[44], E]) (hg : Good Rl ts)
    (he : ∀ f', f' ≤ f → ∀ ts, Good Rl ts → Con N G Rl 96 #[ptr G] d ts (pExpr rb f' d ts)) :
    ConK N G Rl 142 (listV G m E) d ts (pList rb (f + 1) m E d ts) := by
  have e : pList rb (f + 1) m E d ts = (pExpr rb f d ts).bind fun x r => pMore rb f m E d [x] r := by rw [pList]
  have ha := he f (Nat.le_refl _) ts hg
  cases hq : pExpr rb f d ts with
  | out => rw [e, hq]; exact conK_of fun h => absurd rfl h
  | bad p er => rw [e, hq]; exact ⟨fun _ _ h => (by cases h), fun p' er' h w hp => (by cases h; exact list_bad hp (ha.2 _ _ hq))⟩
  | ok x r =>
    obtain ⟨hgr, ca⟩ := ha.1 _ _ hq
    have e2 : pList rb (f + 1) m E d ts = pMore rb f m E d [x] r := by rw [e, hq]; rfl
    rw [e2]
    exact conK_of fun hX => ⟨fun a r' h => more_good hE0 f he _ _ hgr _ _ h, fun w hp => list_loop hm hE hE0 hp hgr ca he hX rfl⟩
/-- all of the expressions' calls, at one fuel -/
structure AllX (N G : Nat) (Rl : Bs → Prop) (rb : Bs → Nat) (f : Nat) : Prop where
  expr : ∀ d ts, Good Rl ts → Con N G Rl 96 #[ptr G] d ts (pExpr rb f d ts)
  bin : ∀ (s : Nat) d ts, s ≤ 10 → Good Rl ts → Con N G Rl 139 #[ptr G, .int .i64 (s : Int)] d ts (pBin rb f s d ts)
  un : ∀ d ts, Good Rl ts → Con N G Rl 171 #[ptr G] d ts (pUn rb f d ts)
  post : ∀ d ts, Good Rl ts → Con N G Rl 192 #[ptr G] d ts (pPost rb f d ts)
  atom : ∀ d ts, Good Rl ts → Con N G Rl 218 #[ptr G] d ts (pAtom rb f d ts)
  args : ∀ d ts, Good Rl ts → ConK N G Rl 247 #[ptr G] d ts (pArgs rb f d ts)
  list : ∀ (m : Nat) (E : Bs) d ts, m ≤ 2500 → ((⟨E.toArray⟩ : ByteArray).toList == [44]) = false → [] ∉ [[44], E] → Good Rl ts → ConK N G Rl 142 (listV G m E) d ts (pList rb f m E d ts)
theorem allX {G : Nat} (hr : Reals N G Rl rb) : ∀ (f : Nat), ∀ f', f' ≤ f → AllX N G Rl rb f'
  | 0, f', hf => by
    obtain rfl : f' = 0 := by omega
    refine ⟨fun d ts _ => ?_, fun s d ts _ _ => ?_, fun d ts _ => ?_, fun d ts _ => ?_, fun d ts _ => ?_, fun d ts _ => ?_, fun m E d ts _ _ _ _ => ?_⟩
    · rw [pExpr]; exact con_of fun h => absurd rfl h
    · rw [pBin]; exact con_of fun h => absurd rfl h
    · rw [pUn]; exact con_of fun h => absurd rfl h
    · rw [pPost]; exact con_of fun h => absurd rfl h
    · rw [pAtom]; exact con_of fun h => absurd rfl h
    · rw [pArgs]; exact conK_of fun h => absurd rfl h
    · rw [pList]; exact conK_of fun h => absurd rfl h
  | f + 1, f', hf => by
    have ih := allX hr f
    by_cases hf' : f' ≤ f
    · exact ih f' hf'
    obtain rfl : f' = f + 1 := by omega
    have hx : ∀ d, ∀ f', f' ≤ f → ∀ ts, Good Rl ts → Con N G Rl 96 #[ptr G] d ts (pExpr rb f' d ts) := fun d f' h ts hg => (ih f' h).expr d ts hg
    refine ⟨fun d ts hg => expr_step hg (fun ts hg => (ih f (Nat.le_refl _)).bin 0 _ ts (by omega) hg) (fun ts hg => hx _ f (Nat.le_refl _) ts hg), fun s d ts hs hg => ?_,
      fun d ts hg => unary_step hg (fun ts hg => (ih f (Nat.le_refl _)).un _ ts hg) (fun ts hg => (ih f (Nat.le_refl _)).post _ ts hg), fun d ts hg => post_step hg ((ih f (Nat.le_refl _)).atom d ts hg) (hx d),
      fun d ts hg => atom_step hg hr (fun ts hg => (ih f (Nat.le_refl _)).args d ts hg) (fun ts hg => hx d f (Nat.le_refl _) ts hg),
      fun d ts hg => args_step hg (fun ts hg => (ih f (Nat.le_refl _)).list 8 [41] d ts (by decide) (by decide +kernel) (by decide) hg), fun m E d ts hm hE hE0 hg => list_step hm hE hE0 hg (hx d)⟩
    by_cases h10 : s = 10
    · subst h10
      exact ten_step ((ih f (Nat.le_refl _)).un d ts hg)
    · refine bin_step (by omega) hg fun f' h ts hg => ?_
      have := (ih f' h).bin (s + 1) d ts (by omega) hg
      rwa [show ((s + 1 : Nat) : Int) = (s : Int) + 1 by omega] at this
end PaC
end Go.Proofs.YtnlbhnmiekanfaaGreatDoor
