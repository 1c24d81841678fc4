/-
  The law ParseDeep, walked. Condition: Go's own variables lie.
-/
import Derived.Test.YtjkbdpemekdgnaaGreatDoorParDm
namespace Go.Proofs.YtjkbdpemekdgnaaGreatDoor
open Go.RowKit Go.Deep
set_option linter.unusedVariables false
set_option linter.unusedSimpArgs false
namespace PaC
open Pa Lx
attribute [local go_sem] fld0 fld1 fld2
set_option maxRecDepth 100000 in
set_option maxHeartbeats 8000000 in
theorem deep_false (a : Int) (w : World) (hB : LxC.Base w.heap.size w) : Calls Tryz.prog 5 #[.int .i64 a, .bool false] w fun e w' => e = .returned (.bool true) ∧ Below w.heap.size w w' := by
  have c1 := awake_ w hB
  have HB := Lib.hid hB
  clear hB
  obtain ⟨n, hn, hn2⟩ := rem_ a 50 (by omega)
  have HN := Lib.hid hn
  clear hn
  go_enter Tryz.func5, Tryz.ntmps5
  go_wp2_with (go_at_call 19; (with_reducible refine c1.mono ?_); rintro e w1 ⟨rfl, hb1⟩; have HB1 := Lib.hid hb1; clear hb1 c1)
  rw [HN.out, show wrap64 ((n : Int) + 1) = ((n + 1 : Nat) : Int) by unfold wrap64; omega]
  obtain ⟨H, hH⟩ : ∃ H : Bs, Hid (H = [105, 110, 116, 32, 97, 61]) := ⟨_, Lib.hid rfl⟩
  have hHl : H.length = 6 := by rw [hH.out]; rfl
  go_loopg [6, 8] (n + 1) (fun gg s i wr => ∃ k : Nat, n + 1 - k ≤ gg ∧ k ≤ n + 1 ∧ i = .int .i64 k ∧ s = .string ⟨(H ++ List.replicate k 40).toArray⟩ ∧ w1 = wr)
  case atStart => exact ⟨0, by omega, by omega, rfl, by rw [hH.out]; rfl, rfl⟩
  case round =>
    obtain ⟨k, hgg, hk, rfl, rfl, rfl⟩ := hrel
    obtain ⟨l, hl⟩ : ∃ l, Hid (l = H ++ List.replicate k (40 : UInt8)) := ⟨_, Lib.hid rfl⟩
    have hll : l.length ≤ 60 := by rw [hl.out, List.length_append, List.length_replicate]; omega
    rw [← hl.out]
    by_cases hlt : k < n + 1
    · have hlt' : (k : Int) < ((n + 1 : Nat) : Int) := by omega
      have hadd : ∀ w : World, (Op.stringOp .add ⟨l.toArray⟩ ⟨#[40]⟩).run Tryz.prog w = .ok (.string ⟨(l ++ [40]).toArray⟩) w := fun w => run_string_add_lists w l [40] (by omega) (by simp)
      go_wp2
      go_roundg (n + 1 - (k + 1))
      case measure => omega
      case rel => exact ⟨k + 1, by omega, by omega, by go_num, by rw [hl.out, List.append_assoc, ← List.replicate_succ'], rfl⟩
    obtain rfl : k = n + 1 := by omega
    have hlt' : ¬ ((n + 1 : Nat) : Int) < ((n + 1 : Nat) : Int) := by omega
    have hadd : ∀ w : World, (Op.stringOp .add ⟨l.toArray⟩ ⟨#[49]⟩).run Tryz.prog w = .ok (.string ⟨(l ++ [49]).toArray⟩) w := fun w => run_string_add_lists w l [49] (by omega) (by simp)
    obtain ⟨L1, hL1⟩ : ∃ L1, Hid (L1 = l ++ [49]) := ⟨_, Lib.hid rfl⟩
    have hL1l : L1.length ≤ 59 := by rw [hL1.out, hl.out]; simp only [List.length_append, List.length_replicate, List.length_cons, List.length_nil]; omega
    rw [← hL1.out] at hadd
    have hL2 : Hid (L1 = [105, 110, 116, 32, 97, 61] ++ List.replicate (n + 1) (40 : UInt8) ++ [49]) := Lib.hid (by rw [hL1.out, hl.out, hH.out])
    clear hlt hgg hk hH hHl
    go_wp2
    clear hadd hlt' hll hL1 hl
    go_loopg [6, 9] (n + 1) (fun gg s i wr => ∃ k : Nat, n + 1 - k ≤ gg ∧ k ≤ n + 1 ∧ i = .int .i64 k ∧ s = .string ⟨(L1 ++ List.replicate k 41).toArray⟩ ∧ w1 = wr)
    case atStart => exact ⟨0, by omega, by omega, rfl, by simp, rfl⟩
    case round =>
      obtain ⟨k, hgg, hk, rfl, rfl, rfl⟩ := hrel
      obtain ⟨l, hl⟩ : ∃ l, Hid (l = L1 ++ List.replicate k (41 : UInt8)) := ⟨_, Lib.hid rfl⟩
      have hll : l.length ≤ 110 := by rw [hl.out, List.length_append, List.length_replicate]; omega
      rw [← hl.out]
      by_cases hlt : k < n + 1
      · have hlt' : (k : Int) < ((n + 1 : Nat) : Int) := by omega
        have hadd : ∀ w : World, (Op.stringOp .add ⟨l.toArray⟩ ⟨#[41]⟩).run Tryz.prog w = .ok (.string ⟨(l ++ [41]).toArray⟩) w := fun w => run_string_add_lists w l [41] (by omega) (by simp)
        go_wp2
        go_roundg (n + 1 - (k + 1))
        case measure => omega
        case rel => exact ⟨k + 1, by omega, by omega, by go_num, by rw [hl.out, List.append_assoc, ← List.replicate_succ'], rfl⟩
      · obtain rfl : k = n + 1 := by omega
        have hlt' : ¬ ((n + 1 : Nat) : Int) < ((n + 1 : Nat) : Int) := by omega
        have hadd : ∀ w : World, (Op.stringOp .add ⟨l.toArray⟩ ⟨#[59]⟩).run Tryz.prog w = .ok (.string ⟨(dText (n + 1) false).toArray⟩) w := fun w => by
          have := run_string_add_lists (P := Tryz.prog) w l [59] (by omega) (by simp)
          rw [hl.out, hL2.out] at this
          rw [hl.out, hL2.out]
          simpa only [dText, List.append_assoc, if_true, if_false, Bool.false_eq_true, List.cons_append, List.nil_append, List.append_nil] using this
        have c2 := dParse (n + 1) false (by omega) (by omega) w1 (HB.out.later HB1.out HB1.out.size (Nat.le_refl _))
        obtain ⟨S, hS⟩ : ∃ S, S = ByteArray.mk (dText (n + 1) false).toArray := ⟨_, rfl⟩
        rw [← hS] at c2 hadd
        clear hS hl hll hL2 hL1l
        by_cases hm : n + 1 ≤ 19
        · have hm' : ((n + 1 : Nat) : Int) ≤ 19 := by omega
          go_wp2_with (go_at_call 20; (with_reducible refine c2.mono ?_); rintro e w2 ⟨q, m, cc, p, c, rfl, hb2, q1, q2⟩; obtain rfl := q1 hm; have HB2 := Lib.hid hb2; clear hb2 c2 q1 q2)
          go_ret
          exact ⟨rfl, (HB1.out.trans (HB2.out.mono HB1.out.size)).alloc (HB1.out.trans (HB2.out.mono HB1.out.size)).size _⟩
        · have hm' : ¬ ((n + 1 : Nat) : Int) ≤ 19 := by omega
          go_wp2_with (go_at_call 20; (with_reducible refine c2.mono ?_); rintro e w2 ⟨q, m, cc, p, c, rfl, hb2, q1, q2⟩; obtain ⟨rfl, rfl⟩ := q2 hm; have HB2 := Lib.hid hb2; clear hb2 c2 q1 q2)
          go_ret
          exact ⟨rfl, (HB1.out.trans (HB2.out.mono HB1.out.size)).alloc (HB1.out.trans (HB2.out.mono HB1.out.size)).size _⟩
set_option maxRecDepth 100000 in
set_option maxHeartbeats 8000000 in
theorem deep_true (a : Int) (w : World) (hB : LxC.Base w.heap.size w) : Calls Tryz.prog 5 #[.int .i64 a, .bool true] w fun e w' => e = .returned (.bool true) ∧ Below w.heap.size w w' := by
  have c1 := awake_ w hB
  have HB := Lib.hid hB
  clear hB
  obtain ⟨n, hn, hn2⟩ := rem_ a 50 (by omega)
  have HN := Lib.hid hn
  clear hn
  go_enter Tryz.func5, Tryz.ntmps5
  go_wp2_with (go_at_call 19; (with_reducible refine c1.mono ?_); rintro e w1 ⟨rfl, hb1⟩; have HB1 := Lib.hid hb1; clear hb1 c1)
  rw [HN.out, show wrap64 ((n : Int) + 1) = ((n + 1 : Nat) : Int) by unfold wrap64; omega]
  obtain ⟨H, hH⟩ : ∃ H : Bs, Hid (H = [105, 110, 116, 32, 97, 61]) := ⟨_, Lib.hid rfl⟩
  have hHl : H.length = 6 := by rw [hH.out]; rfl
  go_loopg [6, 8] (n + 1) (fun gg s i wr => ∃ k : Nat, n + 1 - k ≤ gg ∧ k ≤ n + 1 ∧ i = .int .i64 k ∧ s = .string ⟨(H ++ List.replicate k 126).toArray⟩ ∧ w1 = wr)
  case atStart => exact ⟨0, by omega, by omega, rfl, by rw [hH.out]; rfl, rfl⟩
  case round =>
    obtain ⟨k, hgg, hk, rfl, rfl, rfl⟩ := hrel
    obtain ⟨l, hl⟩ : ∃ l, Hid (l = H ++ List.replicate k (126 : UInt8)) := ⟨_, Lib.hid rfl⟩
    have hll : l.length ≤ 60 := by rw [hl.out, List.length_append, List.length_replicate]; omega
    rw [← hl.out]
    by_cases hlt : k < n + 1
    · have hlt' : (k : Int) < ((n + 1 : Nat) : Int) := by omega
      have hadd : ∀ w : World, (Op.stringOp .add ⟨l.toArray⟩ ⟨#[126]⟩).run Tryz.prog w = .ok (.string ⟨(l ++ [126]).toArray⟩) w := fun w => run_string_add_lists w l [126] (by omega) (by simp)
      go_wp2
      go_roundg (n + 1 - (k + 1))
      case measure => omega
      case rel => exact ⟨k + 1, by omega, by omega, by go_num, by rw [hl.out, List.append_assoc, ← List.replicate_succ'], rfl⟩
    obtain rfl : k = n + 1 := by omega
    have hlt' : ¬ ((n + 1 : Nat) : Int) < ((n + 1 : Nat) : Int) := by omega
    have hadd : ∀ w : World, (Op.stringOp .add ⟨l.toArray⟩ ⟨#[49]⟩).run Tryz.prog w = .ok (.string ⟨(l ++ [49]).toArray⟩) w := fun w => run_string_add_lists w l [49] (by omega) (by simp)
    obtain ⟨L1, hL1⟩ : ∃ L1, Hid (L1 = l ++ [49]) := ⟨_, Lib.hid rfl⟩
    have hL1l : L1.length ≤ 59 := by rw [hL1.out, hl.out]; simp only [List.length_append, List.length_replicate, List.length_cons, List.length_nil]; omega
    rw [← hL1.out] at hadd
    have hL2 : Hid (L1 = [105, 110, 116, 32, 97, 61] ++ List.replicate (n + 1) (126 : UInt8) ++ [49]) := Lib.hid (by rw [hL1.out, hl.out, hH.out])
    clear hlt hgg hk hH hHl
    go_wp2
    clear hadd hlt' hll hL1 hl
    go_loopg [6, 9] 0 (fun gg s i wr => i = .int .i64 0 ∧ s = .string ⟨L1.toArray⟩ ∧ w1 = wr)
    case atStart => exact ⟨rfl, rfl, rfl⟩
    case round =>
      obtain ⟨rfl, rfl, rfl⟩ := hrel
      obtain ⟨l, hl⟩ : ∃ l, Hid (l = L1) := ⟨_, Lib.hid rfl⟩
      have hll : l.length ≤ 110 := by rw [hl.out]; omega
      rw [← hl.out]
      have hn0 : (0 : Int) < ((n + 1 : Nat) : Int) := by omega
      by_cases hlt : True
      ·
        have hadd : ∀ w : World, (Op.stringOp .add ⟨l.toArray⟩ ⟨#[59]⟩).run Tryz.prog w = .ok (.string ⟨(dText (n + 1) true).toArray⟩) w := fun w => by
          have := run_string_add_lists (P := Tryz.prog) w l [59] (by omega) (by simp)
          rw [hl.out, hL2.out] at this
          rw [hl.out, hL2.out]
          simpa only [dText, List.append_assoc, if_true, if_false, Bool.false_eq_true, List.cons_append, List.nil_append, List.append_nil] using this
        have c2 := dParse (n + 1) true (by omega) (by omega) w1 (HB.out.later HB1.out HB1.out.size (Nat.le_refl _))
        obtain ⟨S, hS⟩ : ∃ S, S = ByteArray.mk (dText (n + 1) true).toArray := ⟨_, rfl⟩
        rw [← hS] at c2 hadd
        clear hS hl hll hL2 hL1l
        by_cases hm : n + 1 ≤ 38
        · have hm' : ((n + 1 : Nat) : Int) ≤ 38 := by omega
          go_wp2_with (go_at_call 20; (with_reducible refine c2.mono ?_); rintro e w2 ⟨q, m, cc, p, c, rfl, hb2, q1, q2⟩; obtain rfl := q1 hm; have HB2 := Lib.hid hb2; clear hb2 c2 q1 q2)
          go_ret
          exact ⟨rfl, (HB1.out.trans (HB2.out.mono HB1.out.size)).alloc (HB1.out.trans (HB2.out.mono HB1.out.size)).size _⟩
        · have hm' : ¬ ((n + 1 : Nat) : Int) ≤ 38 := by omega
          go_wp2_with (go_at_call 20; (with_reducible refine c2.mono ?_); rintro e w2 ⟨q, m, cc, p, c, rfl, hb2, q1, q2⟩; obtain ⟨rfl, rfl⟩ := q2 hm; have HB2 := Lib.hid hb2; clear hb2 c2 q1 q2)
          go_ret
          exact ⟨rfl, (HB1.out.trans (HB2.out.mono HB1.out.size)).alloc (HB1.out.trans (HB2.out.mono HB1.out.size)).size _⟩
      · exact absurd trivial hlt
theorem deep_ (a : Int) (b : Bool) (w : World) (hB : LxC.Base w.heap.size w) : Calls Tryz.prog 5 #[.int .i64 a, .bool b] w fun e w' => e = .returned (.bool true) ∧ Below w.heap.size w w' := by
  cases b
  · exact deep_false a w hB
  · exact deep_true a w hB
end PaC
end Go.Proofs.YtjkbdpemekdgnaaGreatDoor
