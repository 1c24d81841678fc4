/-
  The law LexMany, walked. Condition: Go's own variables lie.
-/
import Derived.Test.YtagmbhclgbalhaaGreatDoorLexAe
import Derived.Laws.OwnMore
import Derived.Deep.OwnRows
namespace Go.Proofs.YtagmbhclgbalhaaGreatDoor
open Go.RowKit
set_option linter.unusedVariables false
set_option linter.unusedSimpArgs false
namespace LxC
open Lx
theorem infoU8b : (Tryz.prog.info? 5).map (fun i => (i.zero, i.size, i.bytes)) = some (some (.int .u8 0), 1, 1) := by kernel_rfl
theorem make8_ (N : Nat) (hN : N ≤ 20000) (w : World) : (Instr.makeSlice 23 (.int .i64 N) (.int .i64 N)).run Tryz.prog w = .ok (.slice (some ⟨w.heap.size, 0, none⟩) N N) (w.alloc (.cells (madeCells #[Value.int .u8 0] N) 5)) :=
  run_make_row' (P := Tryz.prog) 23 5 (.int .u8 0) 1 Tryz.underlying23 infoU8b rfl .i64 .i64 N (by omega) (by omega) w
theorem made_size (N : Nat) : (madeCells #[Value.int .u8 0] N).size = N := by
  rw [← Array.length_toList, toList_madeCells_one]; simp
theorem fold_push : ∀ (l : List UInt8) (s : ByteArray), (l.map fun c => (c.toNat : Int)).foldl (fun r n => r.push (UInt8.ofNat n.toNat)) s = ⟨(s.data.toList ++ l).toArray⟩
  | [], s => by simp
  | c :: l, s => by
    rw [List.map_cons, List.foldl_cons, fold_push l]
    congr 1
    simp [ByteArray.push]
/-- bytes in memory, as a string -/
theorem str_ (l : List UInt8) (w : World) {g cap : Nat} {cur : Array Value} (hg : w.heap[g]? = some (.cells cur 5 (0, 0))) (hc : ∀ (j : Nat) (c : UInt8), l[j]? = some c → cur[j]? = some (Value.int .u8 (c.toNat : Int))) :
    (convert 23 9 (.slice (some ⟨g, 0, none⟩) l.length cap)).run Tryz.prog w = .ok (.string ⟨l.toArray⟩) w := by
  rw [run_convert_bytes_string w _ _ 5 _ _ _ Tryz.underlying23 Tryz.underlying5 Tryz.underlying9]
  have hlen : l.length = ((l.map fun c => (c.toNat : Int)).map (Value.int .u8)).length := by simp
  have hload : (loadCells ⟨g, 0, none⟩ l.length).run Tryz.prog w = .ok ((l.map fun c => (c.toNat : Int)).map (Value.int .u8)).toArray w := by
    rw [hlen]
    refine run_loadCells_list w ⟨g, 0, none⟩ _ (fun j v hv => ?_)
    rw [Addr.add_lit, cell_of_row w g (0 + j) _ _ _ hg, Nat.zero_add]
    rw [List.map_map, List.getElem?_map] at hv
    obtain ⟨c, hcj, rfl⟩ := Option.map_eq_some_iff.1 hv
    exact hc j c hcj
  rw [run_bytesToString w _ _ _ _ hload, fold_push]
  rfl
/-- the first of so many bytes are written -/
def Wrote (w : World) (G N n i : Nat) : Prop := ∃ cur : Array Value, w.heap[G]? = some (.cells cur 5 (0, 0)) ∧ cur.size = N ∧ ∀ j, j < i → cur[j]? = some (.int .u8 (if j < n then 59 else 32))
theorem Wrote.cell {w : World} {G N n i : Nat} (h : Wrote w G N n i) (j : Nat) (hj : j < N) : ∃ v, w.cell? ⟨G, j, none⟩ = some v := by
  obtain ⟨cur, h1, h2, -⟩ := h
  exact ⟨cur[j], by rw [cell_of_row w G j cur _ _ h1]; exact Array.getElem?_eq_getElem (by omega)⟩
theorem Wrote.free {w : World} {G N n i : Nat} (h : Wrote w G N n i) (j : Nat) : w.frozen? ⟨G, j, none⟩ = false := by
  obtain ⟨cur, h1, -, -⟩ := h
  exact Lib.frozen_of_heap h1 _
theorem Wrote.set {w : World} {G N n i : Nat} (h : Wrote w G N n i) (hi : i < N) (x : Int) (hx : x = if i < n then 59 else 32) : Wrote (w.setCell ⟨G, i, none⟩ (.int .u8 x)) G N n (i + 1) := by
  obtain ⟨cur, h1, h2, h3⟩ := h
  refine ⟨_, heap_setCell_same w G i cur _ _ h1, by simp [h2], fun j hj => ?_⟩
  by_cases hji : j = i
  · subst hji
    simp [h2, hi, hx]
  · simp only [Array.set!_eq_setIfInBounds, Array.getElem?_setIfInBounds]
    rw [if_neg (by omega)]
    exact h3 j (by omega)
theorem Wrote.set0 {w : World} {G N n i : Nat} (h : Wrote w G N n i) (hi : i < N) (x : Int) : Wrote (w.setCell ⟨G, i, none⟩ (.int .u8 x)) G N n i := by
  obtain ⟨cur, h1, h2, h3⟩ := h
  refine ⟨_, heap_setCell_same w G i cur _ _ h1, by simp [h2], fun j hj => ?_⟩
  simp only [Array.set!_eq_setIfInBounds, Array.getElem?_setIfInBounds]
  rw [if_neg (by omega)]
  exact h3 j (by omega)
theorem Wrote.str {w : World} {G n m : Nat} (h : Wrote w G (n + m) n (n + m)) (cap : Nat) : (convert 23 9 (.slice (some ⟨G, 0, none⟩) (n + m) cap)).run Tryz.prog w = .ok (.string ⟨(List.replicate n 59 ++ List.replicate m 32 : List UInt8).toArray⟩) w := by
  obtain ⟨cur, h1, h2, h3⟩ := h
  have := str_ (List.replicate n 59 ++ List.replicate m 32) w (g := G) (cap := cap) h1 (fun j c hj => by
    have hlt := (List.getElem?_eq_some_iff.1 hj).1
    rw [List.length_append, List.length_replicate, List.length_replicate] at hlt
    rw [h3 j hlt]
    by_cases hjn : j < n
    · rw [List.getElem?_append_left (by simpa using hjn), List.getElem?_replicate, if_pos hjn] at hj
      cases hj
      rw [if_pos hjn]; rfl
    · rw [List.getElem?_append_right (by simpa using Nat.le_of_not_lt hjn), List.getElem?_replicate, List.length_replicate, if_pos (by omega)] at hj
      cases hj
      rw [if_neg hjn]; rfl)
  rwa [List.length_append, List.length_replicate, List.length_replicate] at this
theorem rem_ (a c : Int) (hc : 0 < c ∧ c < 100000) : ∃ k : Nat, wrap64 ((IntKind.u64.wrap a).tmod c) = (k : Int) ∧ (k : Int) < c := by
  have hu0 : 0 ≤ IntKind.u64.wrap a := wrap_u64_nonneg a
  have h1 : (IntKind.u64.wrap a).tmod c = (IntKind.u64.wrap a) % c := Int.tmod_eq_emod_of_nonneg hu0
  have h2 := Int.emod_nonneg (IntKind.u64.wrap a) (show c ≠ 0 by omega)
  have h3 := Int.emod_lt_of_pos (IntKind.u64.wrap a) hc.1
  refine ⟨((IntKind.u64.wrap a) % c).toNat, ?_, by omega⟩
  rw [h1]
  unfold wrap64
  omega
set_option maxRecDepth 100000 in
set_option maxHeartbeats 4000000 in
theorem many_ (a b : Int) (w : World) (hB : Base w.heap.size w) (hi : Laid w) :
    Calls Tryz.prog 9 #[.int .i64 a, .int .i64 b] w fun e w' => e = .returned (.bool true) ∧ Below w.heap.size w w' := by
  have c1 := awake_ w hB hi
  have HB := Lib.hid hB
  clear hB hi
  obtain ⟨n, hn, hn2⟩ := rem_ a 2510 (by omega)
  obtain ⟨m, hm, hm2⟩ := rem_ b 8200 (by omega)
  have HN := Lib.hid hn
  have HM := Lib.hid hm
  clear hn hm
  go_enter Tryz.func9, Tryz.ntmps9
  go_upto_region 4 with (go_at_call 24; (with_reducible refine c1.mono ?_); rintro e w1 ⟨rfl, hb1⟩; have HB1 := Lib.hid hb1; clear hb1 c1)
  rw [HN.out, HM.out]
  have hmk := make8_ (n + m) (by omega) w1
  have hmk' : (Instr.makeSlice 23 (.int .i64 ((n : Int) + (m : Int))) (.int .i64 ((n : Int) + (m : Int)))).run Tryz.prog w1 = .ok (.slice (some ⟨w1.heap.size, 0, none⟩) (n + m) (n + m)) (w1.alloc (.cells (madeCells #[Value.int .u8 0] (n + m)) 5)) := hmk
  have HX := Lib.hid (heap_alloc_new w1 (.cells (madeCells #[Value.int .u8 0] (n + m)) 5))
  clear hmk
  obtain ⟨W2, hW2⟩ : ∃ W2, W2 = w1.alloc (.cells (madeCells #[Value.int .u8 0] (n + m)) 5) := ⟨_, rfl⟩
  rw [← hW2] at hmk' HX
  have HB2 : Hid (Below w.heap.size w W2) := by rw [hW2]; exact HB1.out.alloc HB1.out.size _
  have HWr : Hid (Wrote W2 w1.heap.size (n + m) n 0) := ⟨_, HX.out, made_size _, fun j hj => by omega⟩
  have hbk := HB1.out.size
  clear hW2
  go_wp2_with fail
  go_loopg [26] (n + m) (fun gg i wr => ∃ k : Nat, n + m - k ≤ gg ∧ k ≤ n + m ∧ i = .int .i64 (k : Int) ∧ Aside (Wrote wr w1.heap.size (n + m) n k) ∧ Aside (Below w.heap.size w wr))
  case atStart => exact ⟨0, by omega, by omega, rfl, HWr.out, HB2.out⟩
  case round =>
    obtain ⟨k, hgg, hk, rfl, A1, A2⟩ := hrel
    by_cases hlt : k < n + m
    · obtain ⟨v0, hv0⟩ := A1.out.cell k hlt
      have hf0 := A1.out.free k
      have hlt' : (k : Int) < (n : Int) + (m : Int) := by omega
      by_cases hkn : k < n
      · have A3 : Aside (Wrote (wr.setCell ⟨w1.heap.size, k, none⟩ (.int .u8 32)) w1.heap.size (n + m) n k) := A1.out.set0 hlt 32
        obtain ⟨v1, hv1⟩ := A3.out.cell k hlt
        have hf1 := A3.out.free k
        have A4 : Aside (Wrote ((wr.setCell ⟨w1.heap.size, k, none⟩ (.int .u8 32)).setCell ⟨w1.heap.size, k, none⟩ (.int .u8 59)) w1.heap.size (n + m) n (k + 1)) := A3.out.set hlt 59 (by rw [if_pos hkn])
        have A5 : Aside (Below w.heap.size w ((wr.setCell ⟨w1.heap.size, k, none⟩ (.int .u8 32)).setCell ⟨w1.heap.size, k, none⟩ (.int .u8 59))) := (A2.out.setCell (p := ⟨w1.heap.size, k, none⟩) hbk _).setCell (p := ⟨w1.heap.size, k, none⟩) hbk _
        go_wp2
        go_roundg (n + m - (k + 1))
        case measure => omega
        case rel => exact ⟨k + 1, by omega, by omega, by go_num, A4.out, A5.out⟩
      · have A4 : Aside (Wrote (wr.setCell ⟨w1.heap.size, k, none⟩ (.int .u8 32)) w1.heap.size (n + m) n (k + 1)) := A1.out.set hlt 32 (by rw [if_neg hkn])
        have A5 : Aside (Below w.heap.size w (wr.setCell ⟨w1.heap.size, k, none⟩ (.int .u8 32))) := A2.out.setCell (p := ⟨w1.heap.size, k, none⟩) hbk _
        go_wp2
        go_roundg (n + m - (k + 1))
        case measure => omega
        case rel => exact ⟨k + 1, by omega, by omega, by go_num, A4.out, A5.out⟩
    · obtain rfl : k = n + m := by omega
      have hst := A1.out.str (n + m)
      have hst2 : (convert 23 9 (.slice (some ⟨w1.heap.size, 0, none⟩) (n + m) (n + m))).run Tryz.prog wr = .ok (.string ⟨(List.replicate n 59 ++ List.replicate m 32 : List UInt8).toArray⟩) wr := hst
      have hz : (List.replicate n (59 : UInt8) ++ List.replicate m 32).length = n + m := by simp
      have hB2 : Base wr.heap.size wr := HB.out.later A2.out A2.out.size (Nat.le_refl _)
      have c2 := lex_ ⟨(List.replicate n 59 ++ List.replicate m 32 : List UInt8).toArray⟩ wr (by show (List.replicate n (59 : UInt8) ++ List.replicate m 32).length ≤ maxLen; rw [hz]; unfold maxLen; omega) hB2 (fun _ => parses_dot (fun x hx => by
        have hx' : x ∈ List.replicate n (59 : UInt8) ++ List.replicate m 32 := hx
        rcases List.mem_append.1 hx' with h | h
        · rw [(List.mem_replicate.1 h).2]; rfl
        · rw [(List.mem_replicate.1 h).2]; rfl))
      have hll : (ByteArray.mk (List.replicate n (59 : UInt8) ++ List.replicate m 32).toArray).data.toList = List.replicate n (59 : UInt8) ++ List.replicate m 32 := rfl
      rw [hll] at c2
      by_cases hbig : 8192 < n + m
      · rw [lex_much hbig] at c2
        have hd : ((n : Int) + (m : Int) > 8192) := by omega
        obtain ⟨S, hS⟩ : ∃ S, S = ByteArray.mk (List.replicate n (59 : UInt8) ++ List.replicate m 32).toArray := ⟨_, rfl⟩
        rw [← hS] at c2 hst hst2
        clear hS hz hll hB2 hst
        go_wp2_with ((with_reducible refine c2.mono ?_); rintro e w2 ⟨rfl, hb2⟩; have HB2 := Lib.hid hb2; clear hb2)
        go_ret
        exact ⟨rfl, A2.out.trans (HB2.out.mono A2.out.size)⟩
      · have hd : ¬ ((n : Int) + (m : Int) > 8192) := by omega
        rcases lex_many (n := n) (m := m) (by omega) with ⟨hn3, us, hus, hul⟩ | ⟨hn3, hus⟩
        · rw [hus] at c2
          have hd2 : ¬ ((n : Int) > 2500) := by omega
          obtain ⟨S, hS⟩ : ∃ S, S = ByteArray.mk (List.replicate n (59 : UInt8) ++ List.replicate m 32).toArray := ⟨_, rfl⟩
          rw [← hS] at c2 hst hst2
          clear hS hz hll hB2 hst hus
          have c3 : Calls Tryz.prog 25 #[.string S] wr fun e w' => (∃ g cap : Nat, e = .returned (.tuple #[.slice (some ⟨g, 0, none⟩) (n + 1) cap, .int .i64 0, .int .i64 0]) ∧ n + 1 ≤ cap ∧ cap ≤ maxLen) ∧ Below wr.heap.size wr w' := by
            refine c2.mono ?_
            rintro e w2 ⟨v, rfl, ht, hb2⟩
            obtain ⟨g, cap, hv, hg1, hg2, hL⟩ := ht.row (by omega)
            rw [hul] at hv
            subst hv
            exact ⟨⟨g, cap, rfl, by have := hL.le; omega, hL.cm⟩, hb2⟩
          clear c2
          go_wp2_with ((with_reducible refine c3.mono ?_); rintro e w2 ⟨⟨g, cap, rfl, hle, hcm⟩, hb2⟩; have HB2 := Lib.hid hb2; clear hb2)
          go_ret
          exact ⟨rfl, A2.out.trans (HB2.out.mono A2.out.size)⟩
        · rw [hus] at c2
          have hd2 : ((n : Int) > 2500) := by omega
          obtain ⟨S, hS⟩ : ∃ S, S = ByteArray.mk (List.replicate n (59 : UInt8) ++ List.replicate m 32).toArray := ⟨_, rfl⟩
          rw [← hS] at c2 hst hst2
          clear hS hz hll hB2 hst hus
          go_wp2_with ((with_reducible refine c2.mono ?_); rintro e w2 ⟨rfl, hb2⟩; have HB2 := Lib.hid hb2; clear hb2)
          go_ret
          exact ⟨rfl, A2.out.trans (HB2.out.mono A2.out.size)⟩
end LxC
end Go.Proofs.YtagmbhclgbalhaaGreatDoor
