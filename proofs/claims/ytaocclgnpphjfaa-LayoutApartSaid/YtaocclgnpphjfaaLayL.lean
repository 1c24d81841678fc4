/-
  Layout: a contract. Condition: the objects lie in memory, with not too much in each.
-/
import Derived.Test.YtaocclgnpphjfaaLayC
import Derived.Test.YtaocclgnpphjfaaObjR
import Derived.Laws.OwnMore
import Derived.RegionTactic
import Derived.BigRegion
namespace Go.Proofs.Ytaocclgnpphjfaa
open Go.RowKit
set_option linter.unusedVariables false
set_option linter.unusedSimpArgs false
namespace LL
open LM OO LC
abbrev TP : TypeId := 65
abbrev TO : TypeId := 30
theorem infoP : (Try.prog.info? TP).map (fun i => (i.zero, i.size, i.bytes)) = some (some (.agg #[.int .i64 0, .int .i64 0]), 2, 16) := by kernel_rfl
theorem hset {w : World} {g i : Nat} {cs : Array Value} {t : TypeId} (hg : w.heap[g]? = some (.cells cs t (0, 0))) (v : Value) : (w.setCell ⟨g, i, none⟩ v).heap[g]? = some (.cells (cs.setIfInBounds i v) t (0, 0)) := heap_setCell_same w g i cs t v hg
/-- an object of so many words and bytes -/
def ObIn (w : World) (b o : Nat) (x : Nat × Nat) : Prop :=
  ∃ p0 c0 p1 c1 p2 n2 c2 p3 n3 c3, w.cell? ⟨b, o, none⟩ = some (.slice p0 x.1 c0) ∧ w.cell? ⟨b, o + 1, none⟩ = some (.slice p1 x.2 c1) ∧ w.cell? ⟨b, o + 2, none⟩ = some (.slice p2 n2 c2) ∧ w.cell? ⟨b, o + 3, none⟩ = some (.slice p3 n3 c3)
def ObAt (n₀ : Nat) (w : World) (v : Value) (l : Sz) : Prop := Sl n₀ v l.length fun b o => ∀ i x, l[i]? = some x → ObIn w b (o + i * 4) x
theorem ObIn.below {n₀ b o : Nat} {w w' : World} {x : Nat × Nat} (h : ObIn w b o x) (hb : Below n₀ w w') (hlt : b < n₀) : ObIn w' b o x := by
  obtain ⟨p0, c0, p1, c1, p2, n2, c2, p3, n3, c3, h0, h1, h2, h3⟩ := h
  exact ⟨p0, c0, p1, c1, p2, n2, c2, p3, n3, c3, (hb.cell (p := ⟨b, o, none⟩) hlt).trans h0, (hb.cell (p := ⟨b, o + 1, none⟩) hlt).trans h1, (hb.cell (p := ⟨b, o + 2, none⟩) hlt).trans h2, (hb.cell (p := ⟨b, o + 3, none⟩) hlt).trans h3⟩
theorem ObAt.below {n₀ : Nat} {w w' : World} {v : Value} {l : Sz} (h : ObAt n₀ w v l) (hb : Below n₀ w w') : ObAt n₀ w' v l :=
  Sl.mono h (Nat.le_refl _) fun b o hlt hr i x hi => (hr i x hi).below hb hlt
theorem ObAt.up {n₀ n₁ : Nat} {w : World} {v : Value} {l : Sz} (h : ObAt n₀ w v l) (hn : n₀ ≤ n₁) : ObAt n₁ w v l := Sl.mono h hn fun b o hlt hr => hr
/-- where the places lie -/
def PlAt (n₀ : Nat) (w : World) (v : Value) (l : Sz) : Prop := Sl n₀ v l.length fun b o => ∀ i, i < l.length → w.cell? ⟨b, o + i * 2, none⟩ = some (.int .i64 (textAt l i : Nat)) ∧ w.cell? ⟨b, o + i * 2 + 1, none⟩ = some (.int .i64 (dataAt l i : Nat))
theorem PlAt.below {n₀ : Nat} {w w' : World} {v : Value} {l : Sz} (h : PlAt n₀ w v l) (hb : Below n₀ w w') : PlAt n₀ w' v l :=
  Sl.mono h (Nat.le_refl _) fun b o hlt hr i hi => ⟨(hb.cell (p := ⟨b, o + i * 2, none⟩) hlt).trans (hr i hi).1, (hb.cell (p := ⟨b, o + i * 2 + 1, none⟩) hlt).trans (hr i hi).2⟩
theorem PlAt.up {n₀ n₁ : Nat} {w : World} {v : Value} {l : Sz} (h : PlAt n₀ w v l) (hn : n₀ ≤ n₁) : PlAt n₁ w v l := Sl.mono h hn fun b o hlt hr => hr
/-- what Layout answers -/
def Res (l : Sz) (w : World) (e : Ending) (w' : World) : Prop :=
  Below w.heap.size w w' ∧ ((ok l = true ∧ ∃ p c, e = .returned (.tuple #[.slice p l.length c, .int .i64 (dend l : Nat), .int .i64 0]) ∧ PlAt w'.heap.size w' (.slice p l.length c) l) ∨
    (ok l = false ∧ e = .returned (.tuple #[.slice none 0 0, .int .i64 0, .int .i64 6])))
def TPut (l : Sz) (k : Nat) (cur : Array Value) : Prop := cur.size = l.length * 2 ∧ ∀ j, j < k → cur[j * 2]? = some (.int .i64 (textAt l j : Nat))
def DPut (l : Sz) (k : Nat) (cur : Array Value) : Prop := cur.size = l.length * 2 ∧ (∀ j, j < l.length → cur[j * 2]? = some (.int .i64 (textAt l j : Nat))) ∧ ∀ j, j < k → cur[j * 2 + 1]? = some (.int .i64 (dataAt l j : Nat))
theorem TPut.next {l : Sz} {k : Nat} {cur : Array Value} (h : TPut l k cur) (hk : k < l.length) : TPut l (k + 1) (cur.setIfInBounds (k * 2) (.int .i64 (textAt l k : Nat))) := by
  refine ⟨by rw [Array.size_setIfInBounds]; exact h.1, fun j hj => ?_⟩
  have := h.1
  by_cases e : j = k
  · subst e
    rw [Array.getElem?_setIfInBounds_self_of_lt (by omega)]
  · rw [Array.getElem?_setIfInBounds_ne (by omega)]
    exact h.2 j (by omega)
theorem DPut.next {l : Sz} {k : Nat} {cur : Array Value} (h : DPut l k cur) (hk : k < l.length) : DPut l (k + 1) (cur.setIfInBounds (k * 2 + 1) (.int .i64 (dataAt l k : Nat))) := by
  have := h.1
  refine ⟨by rw [Array.size_setIfInBounds]; exact h.1, fun j hj => ?_, fun j hj => ?_⟩
  · rw [Array.getElem?_setIfInBounds_ne (by omega)]
    exact h.2.1 j hj
  · by_cases e : j = k
    · subst e
      rw [Array.getElem?_setIfInBounds_self_of_lt (by omega)]
    · rw [Array.getElem?_setIfInBounds_ne (by omega)]
      exact h.2.2 j (by omega)
set_option maxRecDepth 100000 in
set_option maxHeartbeats 4000000 in
theorem Layout_ {w : World} {n₀ : Nat} {v : Value} {l : Sz} (hn : n₀ ≤ w.heap.size) (ho : ObAt n₀ w v l) (hm : l.length ≤ 65536) (hz : ∀ x ∈ l, x.1 ≤ 4294967296 ∧ x.2 ≤ 4294967296) :
    Calls Try.prog 26 #[v] w (Res l w) := by
  obtain ⟨p, c, rfl, hsl⟩ := ho
  have HO := Lib.hid hsl
  have HZ := Lib.hid hz
  obtain ⟨i0, hi, hz0, hz1, hz2⟩ := info_parts infoP
  clear hsl hz
  go_enter Try.func26, Try.ntmps26
  go_wp2_with (at_make; refine wpList_make_full _ rfl _ _ 57 rfl (w.heap.size) TP i0 (.agg #[.int .i64 0, .int .i64 0]) 2 Try.underlying57 hi hz0 hz1 .i64 .i64 (l.length : Int) (l.length : Int) l.length rfl rfl rfl rfl (by rw [hz2]; omega) (by unfold maxLen; omega) (by simp) ?_; intro w5 hout hg5; have HOUT := Lib.hid hout; have HG5 := Lib.hid hg5; clear hout hg5)
  obtain ⟨cur0, hg0, hsz0⟩ : ∃ cur0, w5.heap[w.heap.size]? = some (.cells cur0 TP (0, 0)) ∧ cur0.size = l.length * 2 := by
    rcases HOUT.out.2 with ⟨e, -⟩ | ⟨g, cap, cur, e, -, hg, -, -, hcs, -⟩
    · simp at e
    · simp only [Value.slice.injEq, Option.some.injEq, Addr.mk.injEq, and_true, true_and] at e
      obtain ⟨rfl, rfl⟩ := e
      exact ⟨cur, hg, hcs⟩
  have hb5 : Below w.heap.size w w5 := (Below.refl _ _).grown HG5.out (Nat.le_refl _) (fun k hk => by cases hk)
  have HB5 := Lib.hid hb5
  have HG0 := Lib.hid hg0
  have HZ0 := Lib.hid hsz0
  clear hb5 hg0 hsz0 HOUT HG5
  go_loopw [6, 16] (fun e i wr => ∃ k : Nat, k ≤ l.length ∧ i = .int .i64 k ∧ e = .int .i64 (textAt l k : Nat) ∧ textAt l k ≤ 2097152 ∧ Hid (Below w.heap.size w wr) ∧ ∃ cur, Hid (wr.heap[w.heap.size]? = some (.cells cur TP (0, 0))) ∧ Hid (TPut l k cur)) (fun e i _ => l.length - (intOf i).toNat)
  case atStart => exact ⟨0, Nat.zero_le _, rfl, rfl, by rw [textAt_zero]; omega, HB5, cur0, HG0, Lib.hid ⟨HZ0.out, fun j hj => absurd hj (by omega)⟩⟩
  case round =>
    obtain ⟨k, hk, rfl, rfl, hT, HBL, cur, HG, HC⟩ := hrel
    by_cases hlt : k < l.length
    · obtain ⟨b, o, rfl, hb, -, -, hall⟩ := HO.out (by omega)
      obtain ⟨p0, c0, p1, c1, p2, n2, c2, p3, n3, c3, e0, e1, e2, e3⟩ := hall k _ (List.getElem?_eq_getElem hlt)
      have k0 := (HBL.out.cell (p := ⟨b, o + k * 4, none⟩) (by show b < w.heap.size; omega)).trans e0
      have k1 := (HBL.out.cell (p := ⟨b, o + k * 4 + 1, none⟩) (by show b < w.heap.size; omega)).trans e1
      have k2 := (HBL.out.cell (p := ⟨b, o + k * 4 + 2, none⟩) (by show b < w.heap.size; omega)).trans e2
      have k3 := (HBL.out.cell (p := ⟨b, o + k * 4 + 3, none⟩) (by show b < w.heap.size; omega)).trans e3
      have hx := HZ.out _ (List.getElem_mem hlt)
      have hs := textAt_succ hlt
      have hcz : cur.size = l.length * 2 := HC.out.1
      have hG1 : (wr.alloc (.cells #[.slice p0 l[k].1 c0, .slice p1 l[k].2 c1, .slice p2 n2 c2, .slice p3 n3 c3] TO)).heap[w.heap.size]? = some (.cells cur TP (0, 0)) := (Lib.alloc_old _ _ _ (lt_heap HG.out)).trans HG.out
      have g0 : (wr.alloc (.cells #[.slice p0 l[k].1 c0, .slice p1 l[k].2 c1, .slice p2 n2 c2, .slice p3 n3 c3] TO)).cell? ⟨w.heap.size, k * 2, none⟩ = some (cur[k * 2]'(by omega)) := (Lib.cell_of_heap hG1 _).trans (Array.getElem?_eq_getElem _)
      have f0 : (wr.alloc (.cells #[.slice p0 l[k].1 c0, .slice p1 l[k].2 c1, .slice p2 n2 c2, .slice p3 n3 c3] TO)).frozen? ⟨w.heap.size, k * 2, none⟩ = false := Lib.frozen_of_heap hG1 _
      have hlz := lt_heap HG.out
      have b0 : ((wr.alloc (.cells #[.slice p0 l[k].1 c0, .slice p1 l[k].2 c1, .slice p2 n2 c2, .slice p3 n3 c3] TO)).setCell ⟨w.heap.size, k * 2, none⟩ (.int .i64 (textAt l k : Nat))).cell? ⟨wr.heap.size, 0, none⟩ = some (.slice p0 l[k].1 c0) := Lib.cell_of_heap ((Below.heap_setCell _ _ _ _ (by show wr.heap.size ≠ w.heap.size; omega)).trans (heap_alloc_new wr _)) 0
      have HG2 : Hid (((wr.setCell ⟨w.heap.size, k * 2, none⟩ (.int .i64 (textAt l k : Nat))).alloc (.cells #[.slice p0 l[k].1 c0, .slice p1 l[k].2 c1, .slice p2 n2 c2, .slice p3 n3 c3] TO)).heap[w.heap.size]? = some (.cells (cur.setIfInBounds (k * 2) (.int .i64 (textAt l k : Nat))) TP (0, 0))) := Lib.hid ((Lib.alloc_old _ _ _ (by rw [World.size_setCell]; exact hlz)).trans (hset HG.out _))
      have hbw := HBL.out.size
      have HB1 : Hid (Below w.heap.size w ((wr.setCell ⟨w.heap.size, k * 2, none⟩ (.int .i64 (textAt l k : Nat))).alloc (.cells #[.slice p0 l[k].1 c0, .slice p1 l[k].2 c1, .slice p2 n2 c2, .slice p3 n3 c3] TO))) := Lib.hid ((HBL.out.setCell (Nat.le_refl _) _).alloc (by rw [World.size_setCell]; exact hbw) _)
      have HN := Lib.hid (HC.out.next hlt)
      have HBAD := Lib.hid (fun h => bad_text (l := l) (j := k + 1) h)
      clear hall e0 e1 e2 e3 hG1 HG hbw HBL
      generalize l[k] = x at *
      generalize hT1 : textAt l (k + 1) = t1 at *
      by_cases hbig : 2097152 < t1
      · go_wp2
        refine bodyPost_ret (v := .tuple #[.slice none 0 0, .int .i64 0, .int .i64 6]) (by simp [results, Try.results26, go_sem]) rfl ?_
        exact ⟨HB1.out, .inr ⟨HBAD.out hbig, rfl⟩⟩
      · go_wp2
        exact ⟨⟨k + 1, by omega, by go_num, by rw [hT1, hs]; push_cast; rfl, by omega, HB1, _, HG2, HN⟩, by simp [intOf]; omega⟩
    · obtain rfl : k = l.length := by omega
      have hTe := textAt_end l
      rw [hTe] at hT ⊢
      have hL := line_lim hT
      go_wp2_with (go_at_call 46; (with_reducible refine (inLine_ _ (by omega) _).mono ?_); rintro e w6 ⟨rfl, rfl⟩)
      clear HB5 HG0 HZ0 hk hlt
      go_loopw [6, 39] (fun e i wr => ∃ k : Nat, k ≤ l.length ∧ i = .int .i64 k ∧ e = .int .i64 (dataAt l k : Nat) ∧ dataAt l k ≤ 2097152 ∧ Hid (Below w.heap.size w wr) ∧ ∃ cur, Hid (wr.heap[w.heap.size]? = some (.cells cur TP (0, 0))) ∧ Hid (DPut l k cur)) (fun e i _ => l.length - (intOf i).toNat)
      case atStart => exact ⟨0, Nat.zero_le _, rfl, by rw [dataAt_zero], by rw [dataAt_zero]; exact hL, HBL, cur, HG, Lib.hid ⟨HC.out.1, HC.out.2, fun j hj => absurd hj (by omega)⟩⟩
      case round =>
        obtain ⟨k, hk, rfl, rfl, hT, HBL, cur, HG, HC⟩ := hrel
        by_cases hlt : k < l.length
        · obtain ⟨b, o, rfl, hb, -, -, hall⟩ := HO.out (by omega)
          obtain ⟨p0, c0, p1, c1, p2, n2, c2, p3, n3, c3, e0, e1, e2, e3⟩ := hall k _ (List.getElem?_eq_getElem hlt)
          have k0 := (HBL.out.cell (p := ⟨b, o + k * 4, none⟩) (by show b < w.heap.size; omega)).trans e0
          have k1 := (HBL.out.cell (p := ⟨b, o + k * 4 + 1, none⟩) (by show b < w.heap.size; omega)).trans e1
          have k2 := (HBL.out.cell (p := ⟨b, o + k * 4 + 2, none⟩) (by show b < w.heap.size; omega)).trans e2
          have k3 := (HBL.out.cell (p := ⟨b, o + k * 4 + 3, none⟩) (by show b < w.heap.size; omega)).trans e3
          have hx := HZ.out _ (List.getElem_mem hlt)
          have hs := dataAt_succ hlt
          have hcz : cur.size = l.length * 2 := HC.out.1
          have hG1 : (wr.alloc (.cells #[.slice p0 l[k].1 c0, .slice p1 l[k].2 c1, .slice p2 n2 c2, .slice p3 n3 c3] TO)).heap[w.heap.size]? = some (.cells cur TP (0, 0)) := (Lib.alloc_old _ _ _ (lt_heap HG.out)).trans HG.out
          have g0 : (wr.alloc (.cells #[.slice p0 l[k].1 c0, .slice p1 l[k].2 c1, .slice p2 n2 c2, .slice p3 n3 c3] TO)).cell? ⟨w.heap.size, k * 2 + 1, none⟩ = some (cur[k * 2 + 1]'(by omega)) := (Lib.cell_of_heap hG1 _).trans (Array.getElem?_eq_getElem _)
          have f0 : (wr.alloc (.cells #[.slice p0 l[k].1 c0, .slice p1 l[k].2 c1, .slice p2 n2 c2, .slice p3 n3 c3] TO)).frozen? ⟨w.heap.size, k * 2 + 1, none⟩ = false := Lib.frozen_of_heap hG1 _
          have hlz := lt_heap HG.out
          have b0 : ((wr.alloc (.cells #[.slice p0 l[k].1 c0, .slice p1 l[k].2 c1, .slice p2 n2 c2, .slice p3 n3 c3] TO)).setCell ⟨w.heap.size, k * 2 + 1, none⟩ (.int .i64 (dataAt l k : Nat))).cell? ⟨wr.heap.size, 1, none⟩ = some (.slice p1 l[k].2 c1) := Lib.cell_of_heap ((Below.heap_setCell _ _ _ _ (by show wr.heap.size ≠ w.heap.size; omega)).trans (heap_alloc_new wr _)) 1
          have HG2 : Hid (((wr.setCell ⟨w.heap.size, k * 2 + 1, none⟩ (.int .i64 (dataAt l k : Nat))).alloc (.cells #[.slice p0 l[k].1 c0, .slice p1 l[k].2 c1, .slice p2 n2 c2, .slice p3 n3 c3] TO)).heap[w.heap.size]? = some (.cells (cur.setIfInBounds (k * 2 + 1) (.int .i64 (dataAt l k : Nat))) TP (0, 0))) := Lib.hid ((Lib.alloc_old _ _ _ (by rw [World.size_setCell]; exact hlz)).trans (hset HG.out _))
          have hbw := HBL.out.size
          have HB1 : Hid (Below w.heap.size w ((wr.setCell ⟨w.heap.size, k * 2 + 1, none⟩ (.int .i64 (dataAt l k : Nat))).alloc (.cells #[.slice p0 l[k].1 c0, .slice p1 l[k].2 c1, .slice p2 n2 c2, .slice p3 n3 c3] TO))) := Lib.hid ((HBL.out.setCell (Nat.le_refl _) _).alloc (by rw [World.size_setCell]; exact hbw) _)
          have HN := Lib.hid (HC.out.next hlt)
          have HBAD := Lib.hid (fun h => bad_data (l := l) (j := k + 1) h)
          clear hall e0 e1 e2 e3 hG1 HG hbw HBL
          generalize l[k] = x at *
          generalize hT1 : dataAt l (k + 1) = t1 at *
          by_cases hbig : 2097152 < t1
          · go_wp2
            refine bodyPost_ret (v := .tuple #[.slice none 0 0, .int .i64 0, .int .i64 6]) (by simp [results, Try.results26, go_sem]) rfl ?_
            exact ⟨HB1.out, .inr ⟨HBAD.out hbig, rfl⟩⟩
          · go_wp2
            exact ⟨⟨k + 1, by omega, by go_num, by rw [hT1, hs]; push_cast; rfl, by omega, HB1, _, HG2, HN⟩, by simp [intOf]; omega⟩
        · obtain rfl : k = l.length := by omega
          have hG := good_end hT
          have hE := dataAt_end l
          go_wp2
          refine bodyPost_ret (v := .tuple #[.slice (some ⟨w.heap.size, 0, none⟩) l.length l.length, .int .i64 (dataAt l l.length : Nat), .int .i64 0]) (by simp [results, Try.results26, go_sem]) rfl ?_
          refine ⟨HBL.out, .inl ⟨hG, _, _, by rw [hE], ⟨_, _, rfl, fun h0 => ⟨w.heap.size, 0, rfl, lt_heap HG.out, Nat.le_refl _, by unfold maxLen; omega, fun i hi => ?_⟩⟩⟩⟩
          rw [Nat.zero_add]
          exact ⟨(Lib.cell_of_heap HG.out _).trans (HC.out.2.1 i hi), (Lib.cell_of_heap HG.out _).trans (HC.out.2.2 i hi)⟩
theorem Layout_yes {w : World} {n₀ : Nat} {v : Value} {l : Sz} (hok : ok l = true) (hn : n₀ ≤ w.heap.size) (ho : ObAt n₀ w v l) (hm : l.length ≤ 65536) (hz : ∀ x ∈ l, x.1 ≤ 4294967296 ∧ x.2 ≤ 4294967296) :
    Calls Try.prog 26 #[v] w fun e w' => ∃ p c, e = .returned (.tuple #[.slice p l.length c, .int .i64 (dend l : Nat), .int .i64 0]) ∧ PlAt w'.heap.size w' (.slice p l.length c) l ∧ Below w.heap.size w w' := by
  refine (Layout_ hn ho hm hz).mono ?_
  rintro e w' ⟨hb, ⟨-, p, c, rfl, hp⟩ | ⟨h, -⟩⟩
  · exact ⟨p, c, rfl, hp, hb⟩
  · rw [hok] at h; cases h
theorem Layout_no {w : World} {n₀ : Nat} {v : Value} {l : Sz} (hok : ok l = false) (hn : n₀ ≤ w.heap.size) (ho : ObAt n₀ w v l) (hm : l.length ≤ 65536) (hz : ∀ x ∈ l, x.1 ≤ 4294967296 ∧ x.2 ≤ 4294967296) :
    Calls Try.prog 26 #[v] w fun e w' => e = .returned (.tuple #[.slice none 0 0, .int .i64 0, .int .i64 6]) ∧ Below w.heap.size w w' := by
  refine (Layout_ hn ho hm hz).mono ?_
  rintro e w' ⟨hb, ⟨h, -⟩ | ⟨-, rfl⟩⟩
  · rw [hok] at h; cases h
  · exact ⟨rfl, hb⟩
theorem big {l : Sz} (h : Small l) : ∀ x ∈ l, x.1 ≤ 4294967296 ∧ x.2 ≤ 4294967296 := fun x hx => by have := h x hx; omega
end LL
end Go.Proofs.Ytaocclgnpphjfaa
