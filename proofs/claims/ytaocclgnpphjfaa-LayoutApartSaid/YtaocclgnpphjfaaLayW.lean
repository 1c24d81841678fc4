/-
  The document's Layout: a contract. Condition: the objects lie in memory, with not too much in each.
-/
import Derived.Test.YtaocclgnpphjfaaLayV
namespace Go.Proofs.Ytaocclgnpphjfaa
open Go.RowKit
set_option linter.unusedVariables false
set_option linter.unusedSimpArgs false
namespace LW
open LM OO LC LL LS LO LV
abbrev TQ : TypeId := 64
theorem infoQ : (Try.prog.info? TQ).map (fun i => (i.zero, i.size, i.bytes)) = some (some (.agg #[.int .i64 0, .int .i64 0]), 2, 16) := by kernel_rfl
/-- the places so far, cell by cell -/
def plc (l : Sz) (k : Nat) : List Value := (List.range k).flatMap fun j => [Value.int .i64 (textAt l j : Nat), .int .i64 (dataAt l j : Nat)]
theorem plc_succ (l : Sz) (k : Nat) : plc l (k + 1) = plc l k ++ [.int .i64 (textAt l k : Nat), .int .i64 (dataAt l k : Nat)] := by
  unfold plc
  rw [List.range_succ, List.flatMap_append]
  simp
theorem plc_length (l : Sz) (k : Nat) : (plc l k).length = k * 2 := by
  induction k with
  | zero => rfl
  | succ k ih => rw [plc_succ, List.length_append, ih]; simp; omega
theorem plc_get (l : Sz) (k j : Nat) (h : j < k) : (plc l k)[j * 2]? = some (.int .i64 (textAt l j : Nat)) ∧ (plc l k)[j * 2 + 1]? = some (.int .i64 (dataAt l j : Nat)) := by
  induction k with
  | zero => omega
  | succ k ih =>
    rw [plc_succ]
    by_cases e : j = k
    · subst e
      rw [List.getElem?_append_right (by rw [plc_length]; omega), List.getElem?_append_right (by rw [plc_length]; omega), plc_length]
      rw [show j * 2 - j * 2 = 0 by omega, show j * 2 + 1 - j * 2 = 1 by omega]
      exact ⟨rfl, rfl⟩
    · have := ih (by omega)
      rw [List.getElem?_append_left (by rw [plc_length]; omega), List.getElem?_append_left (by rw [plc_length]; omega)]
      exact this
/-- a row of places is places -/
theorem pl_of {w : World} {base : Nat} {T : TypeId} {v : Value} {l : Sz} (h : w.ownsRow base T 2 v l.length (plc l l.length)) : PlAt w.heap.size w v l := by
  rcases h.2 with ⟨rfl, e⟩ | ⟨g, cap, cur, rfl, _, hg, h1, h2, _, _⟩
  · exact ⟨none, 0, by rw [e], fun h0 => by omega⟩
  · refine ⟨some ⟨g, 0, none⟩, cap, rfl, fun h0 => ⟨g, 0, rfl, lt_heap hg, h1, h2, fun i hi => ?_⟩⟩
    obtain ⟨e0, e1⟩ := plc_get l _ i hi
    have f0 := h.cells (g := g) rfl _ _ e0
    have f1 := h.cells (g := g) rfl _ _ e1
    rw [OO.add_plain] at f0 f1
    exact ⟨f0, f1⟩
theorem ok_no {l : Sz} (h : 2097152 < dend l) : ok l = false := by unfold ok; rw [decide_eq_false (by omega)]
theorem ok_yes {l : Sz} (h : ¬ 2097152 < dend l) : ok l = true := by unfold ok; rw [decide_eq_true (by omega)]
def RRes (l : Sz) (w : World) (e : Ending) (w' : World) : Prop :=
  Below w.heap.size w w' ∧ ((ok l = true ∧ ∃ p c, e = .returned (.tuple #[.slice p l.length c, .int .i64 (dend l : Nat), .bool true]) ∧ PlAt w'.heap.size w' (.slice p l.length c) l) ∨
    (ok l = false ∧ e = .returned (.tuple #[.slice none 0 0, .int .i64 0, .bool false])))
set_option maxRecDepth 100000 in
set_option maxHeartbeats 4000000 in
theorem Layout_ {w : World} {n₀ : Nat} {v : Value} {l : Sz} (hn : n₀ ≤ w.heap.size) (ho : ObAt n₀ w v l) (hm : l.length ≤ 12) (hz : Small l) :
    Calls Try.prog 27 #[v] w (RRes l w) := by
  have hbd := dend_bd hz hm
  have HBD := Lib.hid hbd
  obtain ⟨p, c, rfl, hsl⟩ := ho
  have HO := Lib.hid hsl
  have HZ := Lib.hid hz
  obtain ⟨i0, hi, hz0, hz1, hz2⟩ := info_parts infoQ
  clear hsl hz hbd
  go_enter Try.func27, Try.ntmps27
  go_wp2_with (fail)
  go_loopw [6, 13] (fun e i wr => ∃ k : Nat, k ≤ l.length ∧ i = .int .i64 k ∧ e = .int .i64 ((3 + ts (l.take k) : Nat) : Int) ∧ w = wr) (fun e i _ => l.length - (intOf i).toNat)
  case atStart => exact ⟨0, Nat.zero_le _, rfl, rfl, rfl⟩
  case round =>
    obtain ⟨k, hk, rfl, rfl, rfl⟩ := hrel
    have hT := ts_le l k
    have hbd := HBD.out
    unfold tend at hbd
    by_cases hlt : k < l.length
    · obtain ⟨b, o, rfl, hb, -, -, hall⟩ := HO.out (by omega)
      obtain ⟨p0, c0, p1, c1, p2, n2, c2, p3, n3, c3, e0, e1, e2, e3⟩ := hall k _ (List.getElem?_eq_getElem hlt)
      have hx := HZ.out _ (List.getElem_mem hlt)
      have hs := ts_succ hlt
      clear hall e1 e2 e3
      generalize l[k] = x at *
      go_wp2
      exact ⟨⟨k + 1, by omega, by go_num, by rw [hs]; push_cast; congr 1; omega, by first | rfl | trivial⟩, by simp [intOf]; omega⟩
    · obtain rfl : k = l.length := by omega
      rw [ts_all] at hT ⊢
      have hle : dataAt l 0 = line (tend l) := rfl
      have hd0 : ((4 * (3 + ts l) + 7) / 8 * 8 : Nat) = dataAt l 0 := by rw [hle]; unfold line tend; omega
      have hnw : 3 + ts l ≤ 1000000 := by omega
      clear hbd hT
      generalize 3 + ts l = nw at *
      have HD0 := Lib.hid hd0
      clear hd0 hle
      go_wp2
      go_loopw [5, 8, 9, 32] (fun out tx dt i w1 => ∃ k : Nat, k ≤ l.length ∧ i = .int .i64 k ∧ tx = .int .i64 (textAt l k : Nat) ∧ dt = .int .i64 (dataAt l k : Nat) ∧ Hid (Below w.heap.size w w1) ∧ ∃ q cq, out = .slice q k cq ∧ Hid (w1.ownsRow w.heap.size TQ 2 (.slice q k cq) k (plc l k))) (fun _ _ _ i _ => l.length - (intOf i).toNat)
      case atStart => exact ⟨0, Nat.zero_le _, rfl, rfl, by rw [← HD0.out]; push_cast; congr 1, Lib.hid (Below.refl _ _), none, 0, rfl, Lib.hid (World.ownsRow_nil _ _ _ _)⟩
      case round =>
        obtain ⟨k, hk, rfl, rfl, rfl, HBL, q, cq, rfl, HR⟩ := hrel
        have ht := textAt_le l k
        have hd := dataAt_le l k
        have hT := textAt_le l (k + 1)
        have hD := dataAt_le l (k + 1)
        have hbd := HBD.out
        by_cases hlt : k < l.length
        · obtain ⟨b, o, rfl, hb, -, -, hall⟩ := HO.out (by omega)
          obtain ⟨p0, c0, p1, c1, p2, n2, c2, p3, n3, c3, e0, e1, e2, e3⟩ := hall k _ (List.getElem?_eq_getElem hlt)
          have hx := HZ.out _ (List.getElem_mem hlt)
          have hs1 := textAt_succ hlt
          have hs2 := dataAt_succ hlt
          have HP := Lib.hid (plc_succ l k)
          have hbw := HBL.out.size
          clear hall e2 e3
          have hbb : b < w.heap.size := by omega
          have HC := Lib.hid (⟨fun (W : World) (h : Below w.heap.size w W) => (h.cell (p := ⟨b, o + k * 4, none⟩) hbb).trans e0, fun (W : World) (h : Below w.heap.size w W) => (h.cell (p := ⟨b, o + k * 4 + 1, none⟩) hbb).trans e1⟩ : (∀ W, Below w.heap.size w W → W.cell? ⟨b, o + k * 4, none⟩ = some (.slice p0 l[k].1 c0)) ∧ (∀ W, Below w.heap.size w W → W.cell? ⟨b, o + k * 4 + 1, none⟩ = some (.slice p1 l[k].2 c1)))
          clear e0 e1
          generalize l[k] = x at *
          generalize hT1 : textAt l (k + 1) = t1 at *
          generalize hD1 : dataAt l (k + 1) = d1 at *
          have hq1 : textAt l k + 4 * x.1 ≤ 3145692 := by omega
          have hq2 : dataAt l k + x.2 ≤ 3932119 := by omega
          have HTD := Lib.hid (⟨hT1.trans hs1, hD1.trans hs2⟩ : _ ∧ _)
          clear hT1 hD1 hs1 hs2 hT hD
          go_upto_region 13 with fail
          go_wp2_with (at_builtin; refine wpList_append_lies _ rfl _ _ 60 rfl w.heap.size TQ i0 (.agg #[.int .i64 0, .int .i64 0]) 2 16 Try.underlying60 hi hz0 hz1 hz2 rfl (by decide) _ _ _ rfl (HR.out.alloc _) ⟨wr.heap.size, 0, none⟩ 1 1 [.int .i64 (textAt l k : Nat), .int .i64 (dataAt l k : Nat)] rfl rfl (World.news_of_block (cs := #[.int .i64 (textAt l k : Nat), .int .i64 (dataAt l k : Nat)]) (t := TQ) (fr := (0, 0)) (heap_alloc_new wr _)) (by simp [Value.oneCell']) (by decide) (by unfold maxLen; omega) (by omega) (by simp only [World.size_alloc]; omega) (wr.heap.size + 1) (by simp only [World.size_alloc]) ?_; intro gg cap w3 hown3 hgrow3 hat3 hlt3; have HO3 := Lib.hid hown3; have HB3 := Lib.hid ((HBL.out.alloc hbw _).grown hgrow3 (by simp only [World.size_alloc]; omega) (fun g hg => (HR.out.lt g hg).1)); have k0 := HC.out.1 _ HB3.out; have k1 := HC.out.2 _ HB3.out; clear hown3 hgrow3 hat3)
          exact ⟨⟨k + 1, by omega, by go_num, by rw [HTD.out.1]; push_cast; rfl, by rw [HTD.out.2]; push_cast; rfl, HB3, _, _, rfl, by rw [HP.out]; exact HO3⟩, by simp [intOf]; omega⟩
        · obtain rfl : k = l.length := by omega
          have hE := dataAt_end l
          rw [hE]
          by_cases hbig : 2097152 < dend l
          · go_wp2
            refine bodyPost_ret (v := .tuple #[.slice none 0 0, .int .i64 0, .bool false]) (by simp [results, Try.results27, go_sem]) rfl ?_
            exact ⟨HBL.out, .inr ⟨ok_no hbig, rfl⟩⟩
          · go_wp2
            refine bodyPost_ret (v := .tuple #[.slice q l.length cq, .int .i64 (dend l : Nat), .bool true]) (by simp [results, Try.results27, go_sem]) rfl ?_
            exact ⟨HBL.out, .inl ⟨ok_yes hbig, q, cq, rfl, pl_of HR.out⟩⟩
theorem Layout_yes {w : World} {n₀ : Nat} {v : Value} {l : Sz} (hok : ok l = true) (hn : n₀ ≤ w.heap.size) (ho : ObAt n₀ w v l) (hm : l.length ≤ 12) (hz : Small l) :
    Calls Try.prog 27 #[v] w fun e w' => ∃ p c, e = .returned (.tuple #[.slice p l.length c, .int .i64 (dend l : Nat), .bool true]) ∧ PlAt w'.heap.size w' (.slice p l.length c) l ∧ Below w.heap.size w w' := by
  refine (Layout_ hn ho hm hz).mono ?_
  rintro e w' ⟨hb, ⟨-, p, c, rfl, hp⟩ | ⟨h, -⟩⟩
  · exact ⟨p, c, rfl, hp, hb⟩
  · rw [hok] at h; cases h
theorem Layout_no {w : World} {n₀ : Nat} {v : Value} {l : Sz} (hok : ok l = false) (hn : n₀ ≤ w.heap.size) (ho : ObAt n₀ w v l) (hm : l.length ≤ 12) (hz : Small l) :
    Calls Try.prog 27 #[v] w fun e w' => e = .returned (.tuple #[.slice none 0 0, .int .i64 0, .bool false]) ∧ Below w.heap.size w w' := by
  refine (Layout_ hn ho hm hz).mono ?_
  rintro e w' ⟨hb, ⟨h, -⟩ | ⟨-, rfl⟩⟩
  · rw [hok] at h; cases h
  · exact ⟨rfl, hb⟩
end LW
end Go.Proofs.Ytaocclgnpphjfaa
