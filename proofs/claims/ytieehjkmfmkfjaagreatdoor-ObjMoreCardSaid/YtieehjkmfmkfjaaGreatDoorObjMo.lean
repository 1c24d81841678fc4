/-
  The law ObjMore: what stands behind its card. Conditions: the object and the name lie in memory, and its numbers are of their kinds.
-/
import Derived.Test.YtieehjkmfmkfjaaGreatDoorObjV
import Derived.Test.YtieehjkmfmkfjaaGreatDoorObjE
import Derived.Test.YtieehjkmfmkfjaaGreatDoorObjG
import Derived.Test.YtieehjkmfmkfjaaGreatDoorObjMp
namespace Go.Proofs.YtieehjkmfmkfjaaGreatDoor
open Go.RowKit
set_option linter.unusedVariables false
set_option linter.unusedSimpArgs false
namespace OMo
open OO OJ OB OCk OPr OMp
open OE hiding TO
open OG hiding TO Inv Inv.next
abbrev TO : TypeId := 27
theorem toList_beq (a b : ByteArray) : (a.toList == b.toList) = decide (a = b) := by
  by_cases h : a = b
  · subst h; simp
  · rw [decide_eq_false h, beq_eq_false_iff_ne]
    intro e
    refine h (ByteArray.ext (Array.toList_inj.1 ?_))
    rwa [ByteArray.toList_eq, ByteArray.toList_eq] at e
theorem infoS : (Tryz.prog.info? 45).map (fun i => (i.zero, i.size, i.bytes)) = some (some (.agg #[.string ⟨#[]⟩, .int .i64 0, .int .i64 0, .int .i64 0, .bool false]), 5, 48) := by kernel_rfl
theorem five_new (w : World) (a b c d e : Value) (T : TypeId) : ∀ j u, [a, b, c, d, e][j]? = some u → (w.alloc (.cells #[a, b, c, d, e] T)).cell? ((⟨w.heap.size, 0, none⟩ : Addr).add j) = some u := by
  intro j u hj
  rw [OO.add_plain, Nat.zero_add]
  rw [Lib.cell_of_heap (heap_alloc_new w _)]
  simpa using hj
theorem five_one (n : ByteArray) (a b c : Int) (g : Bool) : ∀ u ∈ [Value.string n, .int .i64 a, .int .i64 b, .int .i64 c, .bool g], u.oneCell' = true := by
  intro u hu
  simp at hu
  rcases hu with rfl | rfl | rfl | rfl | rfl <;> rfl
theorem there_step (ss : List SymV) (n : ByteArray) (k : Nat) (h : k < ss.length) : there (ss.take (k + 1)) n = (there (ss.take k) n || decide (ss[k].name = n)) := by
  unfold there
  rw [List.take_succ_eq_append_getElem h, List.any_append]
  simp
theorem more_rows {N : Nat} {w w' : World} {o : ObjV} {n : ByteArray} {u : Nat → Value} {v : Value} (h : ∀ c, c < 4 → w.ownsRow N (OG.E c) (OG.size c) (u c) (OG.num o c) (OG.xs o c)) (hg : w.grownBy w' (u 2).ownBlock)
    (hr : w'.ownsRow N (OG.E 2) 5 v (o.ss.length + 1) (OG.xs o 2 ++ [.string n, .int .i64 0, .int .i64 0, .int .i64 0, .bool true])) : ∀ c, c < 4 → w'.ownsRow N (OG.E c) (OG.size c) (if c = 2 then v else u c) (OG.num (more o n) c) (OG.xs (more o n) c) := by
  intro c hc
  by_cases e : c = 2
  · subst e
    rw [if_pos rfl]
    have e1 : OG.num (more o n) 2 = o.ss.length + 1 := by show (o.ss ++ [newS n]).length = _; simp
    have e2 : OG.xs (more o n) 2 = OG.xs o 2 ++ [.string n, .int .i64 0, .int .i64 0, .int .i64 0, .bool true] := by
      show (o.ss ++ [newS n]).flatMap symV = _
      rw [List.flatMap_append]; rfl
    rw [e1, e2]
    exact hr
  · rw [if_neg e]
    have e1 : OG.num (more o n) c = OG.num o c := by
      match c, hc, e with
      | 0, _, _ => rfl
      | 1, _, _ => rfl
      | 3, _, _ => rfl
    have e2 : OG.xs (more o n) c = OG.xs o c := by
      match c, hc, e with
      | 0, _, _ => rfl
      | 1, _, _ => rfl
      | 3, _, _ => rfl
    rw [e1, e2]
    refine (h c hc).kept hg ?_
    rcases (h c hc).2 with ⟨hv, _⟩ | ⟨g, cap, cur, hv, hb, hgc, _⟩
    · left; rw [hv]; rfl
    · right
      rw [hv]
      intro e3
      rcases (h 2 (by decide)).2 with ⟨hv2, _⟩ | ⟨g2, cap2, cur2, hv2, hb2, hgc2, _⟩
      · rw [hv2] at e3; cases e3
      · rw [hv2] at e3
        injection e3 with e3
        have e3 : g = g2 := e3
        subst e3
        rw [hgc] at hgc2
        injection hgc2 with hgc2
        injection hgc2 with _ hgc2 _
        match c, hc, e, hgc2 with
        | 0, _, _, h => exact absurd h (by decide)
        | 1, _, _, h => exact absurd h (by decide)
        | 3, _, _, h => exact absurd h (by decide)
theorem text_bound {o : ObjV} (hw : o.Wf) (hn : ∀ s ∈ o.ss, s.name.size ≤ 65536) (h0 : o.ws.length ≤ 300) (h1 : o.ds.length ≤ 600) (h2 : o.ss.length ≤ 61) (h3 : o.rs.length ≤ 100) : (objL o).length ≤ 9223372036854775807 := by
  have a := words_len o.ws
  have b := data_len o.ds (List.range (o.ds.length / 8))
  have c := syms_len o.ss hw.ss hn
  have d := rels_len o.rs hw.rs
  have e1 : (t1 o).length ≤ 60 := by
    have x := lineL_len [111, 98, 106, 101, 99, 116] [] (by simp)
    have y := lineL_len [116, 101, 120, 116] [(o.ws.length : Int)] (by simp [I64]; omega)
    unfold t1; rw [List.length_append]; simp only [List.length_cons, List.length_nil] at x y; omega
  have e2 : (t2 o).length ≤ 60 := by
    have y := lineL_len [100, 97, 116, 97] [(o.ds.length : Int)] (by simp [I64]; omega)
    unfold t2; simp only [List.length_cons, List.length_nil] at y; omega
  have e3 : (t3 o).length ≤ 60 := by
    have y := lineL_len [115, 121, 109, 115] [(o.ss.length : Int)] (by simp [I64]; omega)
    unfold t3; simp only [List.length_cons, List.length_nil] at y; omega
  have e4 : (t4 o).length ≤ 60 := by
    have y := lineL_len [114, 101, 108, 115] [(o.rs.length : Int)] (by simp [I64]; omega)
    unfold t4; simp only [List.length_cons, List.length_nil] at y; omega
  have e5 : t5.length ≤ 60 := by decide
  rw [List.length_range] at b
  unfold objL
  simp only [List.length_append]
  omega
def u4 (v0 v1 v2 v3 : Value) : Nat → Value
  | 0 => v0 | 1 => v1 | 2 => v2 | _ => v3
theorem own4_ {w : World} {v0 v1 v2 v3 : Value} {o : ObjV} (ho : ObjAt w.heap.size w v0 v1 v2 v3 o) (hl : o.Lim) :
    Calls Tryz.prog 10 #[.agg #[v0, v1, v2, v3]] w fun e w' => ∃ (x0 x1 x2 x3 : Option Addr) (y0 y1 y2 y3 z0 z1 z2 z3 : Nat), e = .returned (.agg #[.slice x0 y0 z0, .slice x1 y1 z1, .slice x2 y2 z2, .slice x3 y3 z3]) ∧ Below w.heap.size w w' ∧
      ∀ c, c < 4 → w'.ownsRow (w.heap.size + 2) (OG.E c) (OG.size c) (u4 (.slice x0 y0 z0) (.slice x1 y1 z1) (.slice x2 y2 z2) (.slice x3 y3 z3) c) (OG.num o c) (OG.xs o c) := by
  refine (own_ ho hl).mono ?_
  rintro e w' ⟨u, rfl, hb, hr⟩
  obtain ⟨x0, y0, z0, e0⟩ := form (hr 0 (by decide))
  obtain ⟨x1, y1, z1, e1⟩ := form (hr 1 (by decide))
  obtain ⟨x2, y2, z2, e2⟩ := form (hr 2 (by decide))
  obtain ⟨x3, y3, z3, e3⟩ := form (hr 3 (by decide))
  refine ⟨x0, x1, x2, x3, y0, y1, y2, y3, z0, z1, z2, z3, by rw [e0, e1, e2, e3], hb, fun c hc => ?_⟩
  have := hr c hc
  match c, hc, this with
  | 0, _, h => rw [e0] at h; exact h
  | 1, _, h => rw [e1] at h; exact h
  | 2, _, h => rw [e2] at h; exact h
  | 3, _, h => rw [e3] at h; exact h
theorem set_grown (w : World) (b k : Nat) (v : Value) : w.grownBy (w.setCell ⟨b, k, none⟩ v) (some b) :=
  ⟨rfl, rfl, rfl, by rw [World.size_setCell]; exact Nat.le_refl _, fun i hi hne => Below.heap_setCell _ _ _ _ (fun e => hne (by rw [e]))⟩
theorem rows_set {N : Nat} {w : World} {o : ObjV} {u : Nat → Value} {b : Nat} {cs : Array Value} (hb : w.heap[b]? = some (.cells cs TO (0, 0))) (h : ∀ c, c < 4 → w.ownsRow N (OG.E c) (OG.size c) (u c) (OG.num o c) (OG.xs o c)) (k : Nat) (v : Value) :
    ∀ c, c < 4 → (w.setCell ⟨b, k, none⟩ v).ownsRow N (OG.E c) (OG.size c) (u c) (OG.num o c) (OG.xs o c) := by
  intro c hc
  refine (h c hc).kept (set_grown w b k v) ?_
  rcases (h c hc).2 with ⟨hv, _⟩ | ⟨g, cap, cur, hv, hbs, hgc, _⟩
  · left; rw [hv]; rfl
  · right
    rw [hv]
    intro e3
    injection e3 with e3
    have e3 : g = b := e3
    subst e3
    rw [hgc] at hb
    injection hb with hb
    injection hb with _ hb _
    match c, hc, hb with
    | 0, _, h => exact absurd h (by decide)
    | 1, _, h => exact absurd h (by decide)
    | 2, _, h => exact absurd h (by decide)
    | 3, _, h => exact absurd h (by decide)
set_option maxRecDepth 100000 in
set_option maxHeartbeats 16000000 in
theorem law_ {w : World} {a0 a1 a2 a3 : Value} {o : ObjV} (hl : OS.Laid w) (ha : ObjAt w.heap.size w a0 a1 a2 a3 o) (wa : o.Wf) (n : ByteArray) (hn : n.size ≤ maxLen) :
    Calls Tryz.prog 7 #[.agg #[a0, a1, a2, a3], .string n] w fun e w' => e = .returned (.bool true) ∧ Below w.heap.size w w' := by
  have hBel : Below w.heap.size w (w.alloc (.cells #[a0, a1, a2, a3] TO)) := (Below.refl _ _).alloc (Nat.le_refl _) _
  have h1 : (w.alloc (.cells #[a0, a1, a2, a3] TO)).heap[w.heap.size]? = some (.cells #[a0, a1, a2, a3] TO (0, 0)) := heap_alloc_new w _
  have HA := Lib.hid (ha.below hBel)
  have HL := Lib.hid (hl.on hBel)
  have HBel := Lib.hid hBel
  have MA := Lib.hid (lens ha)
  have HWA := Lib.hid wa
  obtain ⟨p0, q0, rfl, -⟩ := ha.ws
  obtain ⟨p1, q1, rfl, -⟩ := ha.ds
  obtain ⟨p2, q2, rfl, -⟩ := ha.ss
  obtain ⟨p3, q3, rfl, -⟩ := ha.rs
  have hsz : w.heap.size + 1 ≤ (w.alloc (.cells #[.slice p0 o.ws.length q0, .slice p1 o.ds.length q1, .slice p2 o.ss.length q2, .slice p3 o.rs.length q3] TO)).heap.size := by simp
  have HSZ := Lib.hid hsz
  have HNN := Lib.hid hn
  unfold maxLen at hn
  clear ha wa hBel hl hsz
  cases hx0 : few o <;> cases hc0 : chk o <;> by_cases hsize : (60 : Int) < n.size
  all_goals
    have HX0 := Lib.hid hx0
    have HC0 := Lib.hid hc0
    first
      | (have hz : decide ((60 : Int) < n.size) = true := decide_eq_true hsize)
      | (have hz : decide ((60 : Int) < n.size) = false := decide_eq_false hsize)
    clear hx0 hc0
    go_enter Tryz.func7, Tryz.ntmps7
    go_upto_region 1 with (fail)
    generalize w.alloc (.cells #[.slice p0 o.ws.length q0, .slice p1 o.ds.length q1, .slice p2 o.ss.length q2, .slice p3 o.rs.length q3] TO) = W at *
    have KC := Lib.hid (fun (W' : World) (hb : Below W.heap.size W W') => (⟨(Lib.cell_of_heap ((hb.block _ (by have := HSZ.out; omega)).trans h1) 0), (Lib.cell_of_heap ((hb.block _ (by have := HSZ.out; omega)).trans h1) 1), (Lib.cell_of_heap ((hb.block _ (by have := HSZ.out; omega)).trans h1) 2), (Lib.cell_of_heap ((hb.block _ (by have := HSZ.out; omega)).trans h1) 3)⟩ :
      W'.cell? ⟨w.heap.size, 0, none⟩ = some (.slice p0 o.ws.length q0) ∧ W'.cell? ⟨w.heap.size, 1, none⟩ = some (.slice p1 o.ds.length q1) ∧ W'.cell? ⟨w.heap.size, 2, none⟩ = some (.slice p2 o.ss.length q2) ∧ W'.cell? ⟨w.heap.size, 3, none⟩ = some (.slice p3 o.rs.length q3)))
    have KA := Lib.hid (fun (W' : World) (hb : Below W.heap.size W W') => HA.out.below (hb.mono (by have := HSZ.out; omega : w.heap.size ≤ W.heap.size)))
    have KL := Lib.hid (fun (W' : World) (hb : Below W.heap.size W W') => HL.out.on hb)
    have KN := Lib.hid (fun (W' : World) (hb : Below W.heap.size W W') => (Nat.le_trans (by have := HSZ.out; omega : w.heap.size ≤ W.heap.size) hb.size : w.heap.size ≤ W'.heap.size))
    have KF0 := Lib.hid (fun (W' : World) (hb : Below W.heap.size W W') => few_ (KN.out W' hb) (KA.out W' hb) (fun s hs => (HWA.out.ss s hs).name) MA.out)
    have KK := Lib.hid (fun (W' : World) (hb : Below W.heap.size W W') => OCh.Check_ (KN.out W' hb) (KA.out W' hb) HWA.out MA.out)
    rw [HX0.out] at KF0
    rw [HC0.out] at KK
    simp only [OCh.ckI, if_true, Bool.false_eq_true, if_false] at KK
    have HB0 := Lib.hid (Below.refl W.heap.size W)
    clear h1
  rotate_right 1
  · have hlim := lim_of_few HX0.out
    go_upto_region 3 with (first
      | (go_at_call 8; (with_reducible refine (OA.awake_ _ (KL.out _ HB0.out)).mono ?_); rintro e w1 ⟨rfl, hb1⟩; have HB1 := Lib.hid hb1; clear hb1; obtain ⟨f0, f1, f2, f3⟩ := KC.out _ HB1.out)
      | (go_at_call 9; (with_reducible refine (KF0.out _ HB1.out).mono ?_); rintro e w2 ⟨rfl, hb2⟩; have HB2 := Lib.hid (HB1.out.trans (hb2.mono HB1.out.size)); clear hb2; obtain ⟨f0, f1, f2, f3⟩ := KC.out _ HB2.out)
      | (go_at_call 13; (with_reducible refine (KK.out _ HB2.out).mono ?_); rintro e w3 ⟨rfl, hb3⟩; have HB3 := Lib.hid (HB2.out.trans (hb3.mono HB2.out.size)); clear hb3; obtain ⟨f0, f1, f2, f3⟩ := KC.out _ HB3.out))
    have HF := Lib.hid (few_lim HX0.out)
    have h60 : o.ss.length ≤ 60 := HF.out.2.2.1
    clear hz f0 f1 f3 HB2 HB1 HB0
    go_wp2_with fail
    go_loopw [5, 35] (fun t i wr => ∃ k : Nat, k ≤ o.ss.length ∧ i = .int .i64 k ∧ t = .bool (there (o.ss.take k) n) ∧ Below W.heap.size W wr) (fun _ i _ => o.ss.length - (intOf i).toNat)
    case atStart => exact ⟨0, Nat.zero_le _, rfl, rfl, HB3.out⟩
    case round =>
      clear f2 HB3
      obtain ⟨k, hk, rfl, rfl, hbl⟩ := hrel
      have HB := Lib.hid hbl
      by_cases hlt : k < o.ss.length
      · obtain ⟨p, c, hv, hh⟩ := (KA.out _ hbl).ss
        cases hv
        obtain ⟨xb, xo, rfl, hxb, -, -, hrow⟩ := hh (by omega)
        obtain ⟨s0, s1, s2, s3, s4⟩ := hrow k _ (List.getElem?_eq_getElem hlt)
        have hst := there_step o.ss n k hlt
        have hlen := Lib.hid (show xb < wr.heap.size from Nat.lt_of_lt_of_le hxb (Nat.le_trans (by have := HSZ.out; omega) hbl.size))
        clear hrow hbl hh
        generalize o.ss[k] = x at *
        have hbe := toList_beq x.name n
        cases hth : there (o.ss.take k) n <;> cases hnm : decide (x.name = n)
        all_goals
          rw [hnm] at hbe
          have HST := Lib.hid (hst.trans (by rw [hth, hnm]))
          clear hst hth hnm
          go_wp2_with fail
          go_roundw
          case rel => exact ⟨k + 1, by omega, by go_num, by rw [HST.out]; rfl, HB.out.alloc HB.out.size _⟩
          case measure => simp [intOf]; omega
      · obtain rfl : k = o.ss.length := by omega
        rw [List.take_length]
        obtain ⟨f0, f1, f2, f3⟩ := KC.out _ hbl
        have HLm := Lib.hid hlim
        have KO := Lib.hid (own4_ ((KA.out _ hbl).up (KN.out _ hbl)) hlim)
        have hCM := chk_more (n := n) HC0.out h60
        have hTM := text_more (o := o) (n := n) h60
        have HWM := Lib.hid (show (more o n).Wf from ⟨HWA.out.ws, HWA.out.ds, fun s hs => by
          rcases List.mem_append.1 hs with h | h
          · exact HWA.out.ss s h
          · simp only [List.mem_singleton] at h
            subst h
            exact ⟨HNN.out, by unfold I64 newS; simp, by unfold I64 newS; simp, by unfold I64 newS; simp⟩, HWA.out.rs⟩)
        clear hbl hlim
        obtain ⟨wo, rfl⟩ : ∃ wo : World, wo = wr := ⟨_, rfl⟩
        go_upto_region 10 with (go_at_call 10; refine KO.out.mono ?_; rintro e w5 ⟨x0, x1, x2, x3, y0, y1, y2, y3, z0, z1, z2, z3, rfl, hb5, hrows⟩; have HR5 := Lib.hid hrows; have HB5 := Lib.hid (HB.out.trans (hb5.mono HB.out.size)); have HB6 := Lib.hid hb5; clear hb5 hrows)
        obtain ⟨i0, hi, hz0, hz1, hz2⟩ := info_parts infoS
        have hnew := five_new (w5.alloc (.cells #[.slice x0 y0 z0, .slice x1 y1 z1, .slice x2 y2 z2, .slice x3 y3 z3] TO)) (.string n) (.int .i64 0) (.int .i64 0) (.int .i64 0) (.bool true) 45
        simp only [World.size_alloc] at hnew
        have hbs := heap_alloc_new w5 (.cells #[.slice x0 y0 z0, .slice x1 y1 z1, .slice x2 y2 z2, .slice x3 y3 z3] TO)
        have hsz5 : wo.heap.size + 2 ≤ w5.heap.size ∨ True := .inr trivial
        have HBS := Lib.hid hbs
        have HNEW := Lib.hid hnew
        have h5 := HB5.out.size
        have h6 := HB6.out.size
        have hwo := HB.out.size
        have H2 := Lib.hid (show w5.ownsRow (wo.heap.size + 2) 45 5 (.slice x2 y2 z2) o.ss.length (OG.xs o 2) from HR5.out 2 (by decide))
        clear hbs hnew hsz5
        go_upto_region 11 with (at_builtin; refine wpList_append_own _ rfl _ _ 24 rfl (wo.heap.size + 2) 45 i0 _ 5 48 Tryz.underlying24 hi hz0 hz1 hz2 rfl (by decide) _ _ _ rfl ((H2.out.alloc _).alloc _) ⟨w5.heap.size + 1, 0, none⟩ 1 1 [.string n, .int .i64 0, .int .i64 0, .int .i64 0, .bool true] rfl rfl HNEW.out (five_one _ _ _ _ _) (by unfold maxLen; omega) (by omega) (by simp only [World.size_alloc]; omega) ?_; intro v' w7 hown' hgrow' _; obtain ⟨q', n', c', rfl⟩ := form hown'; have hx7 := (hgrow'.block w5.heap.size (by simp only [World.size_alloc]; omega) (fun e => by have := (H2.out.lt _ e.symm).2; omega)).trans ((Lib.alloc_old _ _ _ (by simp)).trans HBS.out); have j2 : w7.cell? ⟨w5.heap.size, 2, none⟩ = some (.slice x2 y2 z2) := Lib.cell_of_heap hx7 2; have j3 : w7.frozen? ⟨w5.heap.size, 2, none⟩ = false := Lib.frozen_of_heap hx7 2; have HX7 := Lib.hid hx7; have HO7 := Lib.hid hown'; have HG7 := Lib.hid hgrow'; clear hx7 hown' hgrow')
        have hrw := more_rows (n := n) (v := .slice q' n' c') (fun c hc => ((HR5.out c hc).alloc (.cells #[.slice x0 y0 z0, .slice x1 y1 z1, .slice x2 y2 z2, .slice x3 y3 z3] TO)).alloc (.cells #[.string n, .int .i64 0, .int .i64 0, .int .i64 0, .bool true] 45)) HG7.out HO7.out
        have hm8 := copy_at (rows_set HX7.out hrw 2 (.slice q' n' c'))
        have HM8 := Lib.hid (show ObjAt (w7.setCell ⟨w5.heap.size, 2, none⟩ (.slice q' n' c')).heap.size (w7.setCell ⟨w5.heap.size, 2, none⟩ (.slice q' n' c')) (.slice x0 y0 z0) (.slice x1 y1 z1) (.slice q' n' c') (.slice x3 y3 z3) (more o n) from hm8)
        have hb8 : Below W.heap.size W (w7.setCell ⟨w5.heap.size, 2, none⟩ (.slice q' n' c')) :=
          (((HB5.out.alloc HB5.out.size _).alloc (by simp only [World.size_alloc]; omega) _).grown HG7.out (by simp only [World.size_alloc]; omega) (fun k hk => by have := (H2.out.lt k hk).1; omega)).setCell (by exact h5) _
        have HB8 := Lib.hid hb8
        have HX8 := Lib.hid (show (w7.setCell ⟨w5.heap.size, 2, none⟩ (.slice q' n' c')).heap[w5.heap.size]? = some (.cells #[.slice x0 y0 z0, .slice x1 y1 z1, .slice q' n' c', .slice x3 y3 z3] TO (0, 0)) from Lib.heap_setCell_same HX7.out _)
        clear hrw hm8 hb8 HX7 HO7 HG7 H2 HR5 HNEW HBS
        generalize w7.setCell ⟨w5.heap.size, 2, none⟩ (.slice q' n' c') = w8 at *
        have KD := Lib.hid (fun (W' : World) (hb : Below w8.heap.size w8 W') => (⟨Lib.cell_of_heap ((hb.block _ (lt_heap HX8.out)).trans HX8.out) 0, Lib.cell_of_heap ((hb.block _ (lt_heap HX8.out)).trans HX8.out) 1, Lib.cell_of_heap ((hb.block _ (lt_heap HX8.out)).trans HX8.out) 2, Lib.cell_of_heap ((hb.block _ (lt_heap HX8.out)).trans HX8.out) 3⟩ :
          W'.cell? ⟨w5.heap.size, 0, none⟩ = some (.slice x0 y0 z0) ∧ W'.cell? ⟨w5.heap.size, 1, none⟩ = some (.slice x1 y1 z1) ∧ W'.cell? ⟨w5.heap.size, 2, none⟩ = some (.slice q' n' c') ∧ W'.cell? ⟨w5.heap.size, 3, none⟩ = some (.slice x3 y3 z3)))
        have KW := Lib.hid (fun (W' : World) (hb : Below w8.heap.size w8 W') => (HB8.out.trans (hb.mono HB8.out.size) : Below W.heap.size W W'))
        have KP0 := Lib.hid (fun (W' : World) (hb : Below w8.heap.size w8 W') => print_ ((KA.out W' (KW.out W' hb)).up (KN.out W' (KW.out W' hb))) HWA.out (KL.out W' (KW.out W' hb)))
        have KPM := Lib.hid (fun (W' : World) (hb : Below w8.heap.size w8 W') => print_ ((HM8.out.below hb).up hb.size) HWM.out (KL.out W' (KW.out W' hb)))
        have KCM := Lib.hid (fun (W' : World) (hb : Below w8.heap.size w8 W') => OCh.Check_ (Nat.le_refl _) ((HM8.out.below hb).up hb.size) HWM.out (lens HM8.out))
        have cn := ON.name_ n w8 HNN.out
        have hpm : prS (more o n) = if chk (more o n) then ⟨(objL (more o n)).toArray⟩ else ⟨#[]⟩ := rfl
        have hpo : prS o = ⟨(objL o).toArray⟩ := by unfold prS; rw [HC0.out]; rfl
        rw [HC0.out] at KP0
        rw [hCM] at KPM KCM hpm
        rw [hpm] at KPM
        rw [hpo] at KP0
        simp only [OCh.ckI, if_true] at KP0
        have hsz1 : (⟨(objL o).toArray⟩ : ByteArray).size = (objL o).length := by show (objL o).toArray.size = _; rw [List.size_toArray]
        have hsz2 : (⟨(objL (more o n)).toArray⟩ : ByteArray).size = (objL (more o n)).length := by show (objL (more o n)).toArray.size = _; rw [List.size_toArray]
        have hlt2 : (⟨(objL o).toArray⟩ : ByteArray).size < (⟨(objL (more o n)).toArray⟩ : ByteArray).size := by rw [hsz1, hsz2]; exact hTM
        have hle : (⟨(objL (more o n)).toArray⟩ : ByteArray).size ≤ 9223372036854775807 := by
          rw [hsz2]; exact text_bound HWM.out (fun s hs => by
            rcases List.mem_append.1 hs with h | h
            · have := HF.out.2.2.2.2 s h; omega
            · simp only [List.mem_singleton] at h
              subst h
              show n.size ≤ 65536
              omega) HF.out.1 HF.out.2.1 (by show (o.ss ++ [newS n]).length ≤ 61; simp; omega) HF.out.2.2.2.1
        clear hTM hpm hpo hsz1 hsz2 hCM
        generalize (⟨(objL o).toArray⟩ : ByteArray) = sa at *
        generalize (⟨(objL (more o n)).toArray⟩ : ByteArray) = sb at *
        generalize there o.ss n = th at *
        generalize OM.nameB n = nb at *
        obtain ⟨f0, f1, f2, f3⟩ := KC.out _ HB8.out
        obtain ⟨g0, g1, g2, g3⟩ := KD.out _ (Below.refl _ _)
        have E0 := Lib.hid (Below.refl w8.heap.size w8)
        have hd2 : decide ((sa.size : Int) < sb.size) = true := decide_eq_true (by omega)
        cases nb <;> cases th
        all_goals
          simp only [Bool.and_self, Bool.not_true, Bool.not_false, Bool.and_false, Bool.and_true, Bool.false_eq_true, if_true, if_false, Bool.false_and, Bool.true_and, OCh.ckI] at KPM KCM
          go_wp2_with (first
            | (go_at_call 19; (with_reducible refine cn.mono ?_); rintro e wn ⟨rfl, rfl⟩)
            | (go_at_call 11
               (first
                | (with_reducible refine (KPM.out _ E1.out).mono ?_; rintro e wb ⟨rfl, hb⟩; have E2 := Lib.hid (E1.out.trans (hb.mono E1.out.size)); clear hb; obtain ⟨f0, f1, f2, f3⟩ := KC.out _ (KW.out _ E2.out); obtain ⟨g0, g1, g2, g3⟩ := KD.out _ E2.out)
                | (with_reducible refine (KP0.out _ E0.out).mono ?_; rintro e wa ⟨rfl, hb⟩; have E1 := Lib.hid hb; clear hb; obtain ⟨f0, f1, f2, f3⟩ := KC.out _ (KW.out _ E1.out); obtain ⟨g0, g1, g2, g3⟩ := KD.out _ E1.out)))
            | (go_at_call 13; (with_reducible refine (KCM.out _ E2.out).mono ?_); rintro e wc ⟨rfl, hb⟩; have E3 := Lib.hid (E2.out.trans (hb.mono E2.out.size)); clear hb))
          go_ret
          exact ⟨rfl, HBel.out.trans ((KW.out _ E3.out).mono (by have := HSZ.out; omega))⟩
  all_goals
    go_wp2_with (first
      | (go_at_call 8
         (first
          | (with_reducible refine (OA.awake_ _ (KL.out _ HB3.out)).mono ?_; rintro e w4 ⟨rfl, hb4⟩; have HB4 := Lib.hid (HB3.out.trans (hb4.mono HB3.out.size)); clear hb4)
          | (with_reducible refine (OA.awake_ _ (KL.out _ HB2.out)).mono ?_; rintro e w4 ⟨rfl, hb4⟩; have HB4 := Lib.hid (HB2.out.trans (hb4.mono HB2.out.size)); clear hb4)
          | (with_reducible refine (OA.awake_ _ (KL.out _ HB0.out)).mono ?_; rintro e w1 ⟨rfl, hb1⟩; have HB1 := Lib.hid hb1; clear hb1; obtain ⟨f0, f1, f2, f3⟩ := KC.out _ HB1.out)))
      | (go_at_call 9; (with_reducible refine (KF0.out _ HB1.out).mono ?_); rintro e w2 ⟨rfl, hb2⟩; have HB2 := Lib.hid (HB1.out.trans (hb2.mono HB1.out.size)); clear hb2; obtain ⟨f0, f1, f2, f3⟩ := KC.out _ HB2.out)
      | (go_at_call 13; (with_reducible refine (KK.out _ HB2.out).mono ?_); rintro e w3 ⟨rfl, hb3⟩; have HB3 := Lib.hid (HB2.out.trans (hb3.mono HB2.out.size)); clear hb3; obtain ⟨f0, f1, f2, f3⟩ := KC.out _ HB3.out))
    go_ret
    exact ⟨rfl, HBel.out.trans (HB4.out.mono (by have := HSZ.out; omega))⟩
end OMo
end Go.Proofs.YtieehjkmfmkfjaaGreatDoor
