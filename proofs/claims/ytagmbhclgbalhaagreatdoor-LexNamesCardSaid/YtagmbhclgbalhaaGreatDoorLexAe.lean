/-
  The law LexNumbers, walked. Condition: Go's own variables lie.
-/
import Derived.Test.YtagmbhclgbalhaaGreatDoorLexAc
import Derived.Test.YtagmbhclgbalhaaGreatDoorLexAd
import Derived.Great.BuildSlice
import Derived.Laws.BytesString
import Derived.Laws.Concat
namespace Go.Proofs.YtagmbhclgbalhaaGreatDoor
open Go.RowKit
set_option linter.unusedVariables false
set_option linter.unusedSimpArgs false
namespace LxC
open Lx
theorem infoU8 : (Tryz.prog.info? 5).map (fun i => (i.zero, i.size)) = some (some (.int .u8 0), 1) := by kernel_rfl
theorem byte_ (v : Int) (w : World) : (Instr.buildSlice 23 1 #[(0, .int .u8 v)]).run Tryz.prog w = .ok (.slice (some ⟨w.heap.size, 0, none⟩) 1 1) (w.alloc (.cells #[.int .u8 v] 5)) := by
  cases hi : Tryz.prog.info? 5 with
  | none => have := infoU8; rw [hi] at this; cases this
  | some ie =>
    have h := infoU8
    rw [hi] at h
    simp only [Option.map_some, Option.some.injEq, Prod.mk.injEq] at h
    obtain ⟨h1, h2⟩ := h
    refine run_buildSlice w 23 5 1 _ _ ie (.int .u8 0) Tryz.underlying23 hi h1 (by rw [h2]; decide) (by rw [h2]; decide) ?_
    rw [h2]
    simp [Instr.fill, Value.cells]
    rw [show Array.range 1 = #[0] by decide]
    simp
theorem str1_ (b : UInt8) (w : World) {g : Nat} (hg : w.heap[g]? = some (.cells #[.int .u8 (b.toNat : Int)] 5 (0, 0))) :
    (convert 23 9 (.slice (some ⟨g, 0, none⟩) 1 1)).run Tryz.prog w = .ok (.string ⟨[b].toArray⟩) w := by
  rw [run_convert_bytes_string w _ _ 5 _ _ _ Tryz.underlying23 Tryz.underlying5 Tryz.underlying9]
  have hload : (loadCells ⟨g, 0, none⟩ 1).run Tryz.prog w = .ok ([(b.toNat : Int)].map (Value.int .u8)).toArray w := by
    refine run_loadCells_list w ⟨g, 0, none⟩ [.int .u8 (b.toNat : Int)] (fun j v hv => ?_)
    rw [Addr.add_lit, cell_of_row w g (0 + j) _ _ _ hg]
    rw [Nat.zero_add]
    simpa using hv
  rw [run_bytesToString w _ _ _ _ hload]
  simp
  rfl
theorem parses_dot {n : Nat} {w : World} {s : ByteArray} (h : ∀ b ∈ s.data.toList, isB 46 b = false) : Parses n w s := by
  intro a ha
  rw [isReal_dot (fun b hb => h b (by rw [extract_list] at hb; exact List.mem_of_mem_drop (List.mem_of_mem_take hb)))] at ha
  cases ha
set_option maxRecDepth 100000 in
set_option maxHeartbeats 4000000 in
theorem numbers_ (a : Int) (w : World) (wa : (Lit.int .i64 a).wf = true) (hB : Base w.heap.size w) (hi : Laid w) :
    Calls Tryz.prog 10 #[.int .i64 a] w fun e w' => e = .returned (.bool true) ∧ Below w.heap.size w w' := by
  have c1 := awake_ w hB hi
  have HB := Lib.hid hB
  clear hB hi
  go_enter Tryz.func10, Tryz.ntmps10
  go_upto_if 6 with (go_at_call 24; (with_reducible refine c1.mono ?_); rintro e w1 ⟨rfl, hb1⟩; have HB1 := Lib.hid hb1; clear hb1 c1)
  have hu0 : 0 ≤ IntKind.u64.wrap a := wrap_u64_nonneg a
  obtain ⟨k, hk, hk2⟩ : ∃ k : Nat, wrap64 ((IntKind.u64.wrap a).tmod 17179869184) = (k : Int) ∧ k < 17179869184 := by
    have h1 : (IntKind.u64.wrap a).tmod 17179869184 = (IntKind.u64.wrap a) % 17179869184 := Int.tmod_eq_emod_of_nonneg hu0
    refine ⟨((IntKind.u64.wrap a) % 17179869184).toNat, ?_, by omega⟩
    rw [h1]
    unfold wrap64
    omega
  rw [hk]
  clear hk hu0 wa
  go_loopg [4, 5] (k + 1) (fun gg s x wr => ∃ (l : List UInt8) (y : Nat), y + (if l = [] then 1 else 0) ≤ gg ∧ s = .string ⟨l.toArray⟩ ∧ x = .int .i64 (y : Int) ∧ Aside (Dec k y l) ∧ l.length ≤ 11 ∧ y ≤ k ∧ Aside (Below w.heap.size w wr))
  case atStart => exact ⟨[], k, by simp, rfl, rfl, Dec.start k, by simp, Nat.le_refl _, HB1.out⟩
  case round =>
    obtain ⟨l, y, hgg, rfl, rfl, A1, hl, hy, A2⟩ := hrel
    have hmod := Nat.mod_lt y (show 0 < 10 by omega)
    have hb : (UInt8.ofNat (48 + y % 10)).toNat = 48 + y % 10 := by rw [UInt8.toNat_ofNat']; omega
    have A3 : Aside (0 < y ∨ l = [] → Dec k (y / 10) (UInt8.ofNat (48 + y % 10) :: l)) := fun h => A1.out.next hb h
    obtain ⟨b, hbb⟩ : ∃ b, UInt8.ofNat (48 + y % 10) = b := ⟨_, rfl⟩
    have A4 : Aside (0 < y ∨ l = [] → Dec k (y / 10) (b :: l)) := by rw [← hbb]; exact A3.out
    rw [hbb] at hb
    have hx := heap_alloc_new wr (.cells #[.int .u8 (48 + (y : Int) % 10)] 5)
    have hc := str1_ b (wr.alloc (.cells #[.int .u8 (48 + (y : Int) % 10)] 5)) (g := wr.heap.size) (by
      rw [hb]
      have e : ((48 + y % 10 : Nat) : Int) = 48 + (y : Int) % 10 := by omega
      rw [e]
      exact hx)
    have hadd : ∀ w : World, (Op.stringOp .add (ByteArray.mk [b].toArray) (ByteArray.mk l.toArray)).run Tryz.prog w = .ok (.string ⟨(b :: l).toArray⟩) w := fun w => run_string_add_lists w [b] l (by simp) (by omega)
    have A5 : Aside (Below w.heap.size w (wr.alloc (.cells #[.int .u8 (48 + (y : Int) % 10)] 5))) := A2.out.alloc A2.out.size _
    clear hbb hb A3 hx
    by_cases hl0 : l = []
    · subst hl0
      rw [if_pos rfl] at hgg
      go_wp2
      all_goals
        go_roundg (y / 10)
        case measure => omega
        case rel => exact ⟨[b], y / 10, by rw [if_neg (by simp)]; omega, rfl, by go_num, A4.out (by first | exact .inr rfl | exact .inr trivial), by simp, by omega, A5.out⟩
    · rw [if_neg hl0] at hgg
      by_cases hy0 : 0 < y
      · have hy1 : ((y : Int) > 0) := by omega
        have A6 : Aside (Dec k (y / 10) (b :: l)) := A4.out (.inl hy0)
        have hl2 := A6.out.short hk2
        go_wp2
        all_goals
          go_roundg (y / 10)
          case measure => omega
          case rel => exact ⟨b :: l, y / 10, by rw [if_neg (by simp)]; omega, rfl, by go_num, A6.out, hl2, by omega, A5.out⟩
      · obtain rfl : y = 0 := by omega
        have hD := A1.out
        obtain ⟨c, t, rfl⟩ : ∃ c t, l = c :: t := by
          cases l with
          | nil => exact absurd rfl hl0
          | cons c t => exact ⟨c, t, rfl⟩
        have hlex := lex_digits hD.all (by simp) (by simp only [List.length_cons] at hl ⊢; omega)
        rw [hD.isInt] at hlex
        have hB2 : Base wr.heap.size wr := HB.out.later A2.out A2.out.size (Nat.le_refl _)
        have c2 : Calls Tryz.prog 25 #[.string ⟨(c :: t).toArray⟩] wr (LexPost wr (lex (c :: t))) := lex_ ⟨(c :: t).toArray⟩ wr (by show (c :: t).length ≤ maxLen; unfold maxLen; omega) hB2 (fun _ => parses_dot (fun x hx => (digit_not (hD.all x hx)).2.2.2))
        rw [hlex] at c2
        have hne : (ByteArray.mk (c :: t).toArray).toList.isEmpty = false := by rw [ByteArray.toList_eq]; rfl
        obtain ⟨S, hS⟩ : ∃ S, S = ByteArray.mk (c :: t).toArray := ⟨_, rfl⟩
        rw [← hS] at c2 hne ⊢
        have HS := Lib.hid hS
        clear hS
        clear A4 A5 hadd hc hD hlex hB2
        by_cases hk3 : k < 4294967296
        · rw [decide_eq_true hk3, if_pos rfl] at c2
          have hd : decide ((k : Int) ≥ 4294967296) = false := decide_eq_false (by omega)
          clear hk3 hk2
          go_wp2_with ((with_reducible refine c2.mono ?_); rintro e w2 ⟨v, rfl, ht, hb2⟩; obtain ⟨g, cap, rfl, hg1, hg2, hL⟩ := ht.row (by simp); have hr := hL.row 0 _ rfl; have k0 : w2.cell? ⟨g, 0, none⟩ = some (.int .i64 2) := hr 0 _ rfl; have k1 : w2.cell? ⟨g, 1, none⟩ = some (.string S) := (hr 1 _ rfl).trans (by rw [HS.out]); have k2 : w2.cell? ⟨g, 2, none⟩ = some (.int .i64 0) := hr 2 _ rfl; have hbd : (Instr.build 51 #[(0, .int .i64 2), (1, .string S)]).run Tryz.prog w2 = .ok (.agg #[.int .i64 2, .string S, .int .i64 0]) w2 := run_build w2 _ _ _ (by kernel_rfl); have hle : 2 ≤ cap := hL.le; have hcm := hL.cm; have HB2 := Lib.hid hb2; clear ht hL hr hb2)
          go_ret
          exact ⟨rfl, A2.out.trans (HB2.out.mono A2.out.size)⟩
        · rw [decide_eq_false hk3, if_neg (by simp)] at c2
          have hd : decide ((k : Int) ≥ 4294967296) = true := decide_eq_true (by omega)
          clear hk3 hk2
          go_wp2_with ((with_reducible refine c2.mono ?_); rintro e w2 ⟨rfl, hb2⟩; have HB2 := Lib.hid hb2; clear hb2)
          go_ret
          exact ⟨rfl, A2.out.trans (HB2.out.mono A2.out.size)⟩
end LxC
end Go.Proofs.YtagmbhclgbalhaaGreatDoor
