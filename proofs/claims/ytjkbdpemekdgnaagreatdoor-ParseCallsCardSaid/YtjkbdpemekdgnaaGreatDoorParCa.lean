/-
  The law ParseCalls, walked. Condition: Go's own variables lie.
-/
import Derived.Test.YtjkbdpemekdgnaaGreatDoorParCm
namespace Go.Proofs.YtjkbdpemekdgnaaGreatDoor
open Go.RowKit Go.Deep
set_option linter.unusedVariables false
set_option linter.unusedSimpArgs false
namespace PaC
open Pa Lx
attribute [local go_sem] fld0 fld1 fld2
set_option maxRecDepth 100000 in
set_option maxHeartbeats 8000000 in
theorem calls_ (a : Int) (w : World) (hB : LxC.Base w.heap.size w) : Calls Tryz.prog 7 #[.int .i64 a] w fun e w' => e = .returned (.bool true) ∧ Below w.heap.size w w' := by
  have c1 := awake_ w hB
  have HB := Lib.hid hB
  clear hB
  obtain ⟨n, hn, hn2⟩ := rem_ a 12 (by omega)
  have hn3 : n < 12 := by omega
  have HN := Lib.hid hn
  clear hn
  go_enter Tryz.func7, Tryz.ntmps7
  go_wp2_with (go_at_call 19; (with_reducible refine c1.mono ?_); rintro e w1 ⟨rfl, hb1⟩; have HB1 := Lib.hid hb1; clear hb1 c1)
  rw [HN.out]
  go_loopg [3, 4, 5] n (fun gg s t i wr => ∃ k : Nat, n - k ≤ gg ∧ k ≤ n ∧ i = .int .i64 k ∧ s = .string ⟨(seps k [49]).toArray⟩ ∧ t = .string ⟨(seps k [105, 110, 116, 32, 97]).toArray⟩ ∧ w1 = wr)
  case atStart => exact ⟨0, by omega, by omega, rfl, rfl, rfl, rfl⟩
  case round =>
    obtain ⟨k, hgg, hk, rfl, rfl, rfl, rfl⟩ := hrel
    obtain ⟨l, hl⟩ : ∃ l, Hid (l = seps k [49]) := ⟨_, Lib.hid rfl⟩
    obtain ⟨m, hm⟩ : ∃ m, Hid (m = seps k [105, 110, 116, 32, 97]) := ⟨_, Lib.hid rfl⟩
    have hll : l.length ≤ 80 := by
      have := seps_len [49] k
      rw [hl.out]
      simp only [List.length_cons, List.length_nil] at this
      omega
    have hml : m.length ≤ 80 := by
      have := seps_len [105, 110, 116, 32, 97] k
      rw [hm.out]
      simp only [List.length_cons, List.length_nil] at this
      omega
    rw [← hl.out, ← hm.out]
    by_cases hlt : k < n
    · have hlt' : (k : Int) < (n : Int) := by omega
      by_cases hk0 : k = 0
      · have hk1 : ¬ (k : Int) > 0 := by omega
        have hadd : ∀ w : World, (Op.stringOp .add ⟨l.toArray⟩ ⟨#[49]⟩).run Tryz.prog w = .ok (.string ⟨(l ++ [49]).toArray⟩) w := fun w => run_string_add_lists w l [49] (by omega) (by simp)
        have hadd2 : ∀ w : World, (Op.stringOp .add ⟨m.toArray⟩ ⟨#[105, 110, 116, 32, 97]⟩).run Tryz.prog w = .ok (.string ⟨(m ++ [105, 110, 116, 32, 97]).toArray⟩) w := fun w => run_string_add_lists w m [105, 110, 116, 32, 97] (by omega) (by simp)
        go_wp2
        go_roundg (n - (k + 1))
        case measure => omega
        case rel => exact ⟨k + 1, by omega, by omega, by go_num, by rw [hl.out, seps, if_pos hk0, List.append_nil], by rw [hm.out, seps, if_pos hk0, List.append_nil], rfl⟩
      · have hk1 : (k : Int) > 0 := by omega
        have hadd : ∀ w : World, (Op.stringOp .add ⟨l.toArray⟩ ⟨#[44]⟩).run Tryz.prog w = .ok (.string ⟨(l ++ [44]).toArray⟩) w := fun w => run_string_add_lists w l [44] (by omega) (by simp)
        have hadd2 : ∀ w : World, (Op.stringOp .add ⟨m.toArray⟩ ⟨#[44]⟩).run Tryz.prog w = .ok (.string ⟨(m ++ [44]).toArray⟩) w := fun w => run_string_add_lists w m [44] (by omega) (by simp)
        have hadd3 : ∀ w : World, (Op.stringOp .add ⟨(l ++ [44]).toArray⟩ ⟨#[49]⟩).run Tryz.prog w = .ok (.string ⟨(l ++ [44] ++ [49]).toArray⟩) w := fun w => run_string_add_lists w (l ++ [44]) [49] (by simp; omega) (by simp)
        have hadd4 : ∀ w : World, (Op.stringOp .add ⟨(m ++ [44]).toArray⟩ ⟨#[105, 110, 116, 32, 97]⟩).run Tryz.prog w = .ok (.string ⟨(m ++ [44] ++ [105, 110, 116, 32, 97]).toArray⟩) w := fun w => run_string_add_lists w (m ++ [44]) [105, 110, 116, 32, 97] (by simp; omega) (by simp)
        obtain ⟨l1, hl1⟩ : ∃ l1, Hid (l1 = l ++ [44]) := ⟨_, Lib.hid rfl⟩
        obtain ⟨m1, hm1⟩ : ∃ m1, Hid (m1 = m ++ [44]) := ⟨_, Lib.hid rfl⟩
        rw [← hl1.out] at hadd hadd3
        rw [← hm1.out] at hadd2 hadd4
        go_wp2
        go_roundg (n - (k + 1))
        case measure => omega
        case rel => exact ⟨k + 1, by omega, by omega, by go_num, by rw [hl1.out, hl.out, seps, if_neg hk0], by rw [hm1.out, hm.out, seps, if_neg hk0], rfl⟩
    obtain rfl : k = n := by omega
    have hlt' : ¬ (k : Int) < (k : Int) := by omega
    obtain ⟨l1, hl1⟩ : ∃ l1, Hid (l1 = [105, 110, 116, 32, 118, 61, 102, 40] ++ l) := ⟨_, Lib.hid rfl⟩
    obtain ⟨m1, hm1⟩ : ∃ m1, Hid (m1 = [105, 110, 116, 32, 102, 40] ++ m) := ⟨_, Lib.hid rfl⟩
    have hl1l : l1.length ≤ 100 := by rw [hl1.out, List.length_append]; simp; omega
    have hm1l : m1.length ≤ 100 := by rw [hm1.out, List.length_append]; simp; omega
    have hadd : ∀ w : World, (Op.stringOp .add ⟨#[105, 110, 116, 32, 118, 61, 102, 40]⟩ ⟨l.toArray⟩).run Tryz.prog w = .ok (.string ⟨l1.toArray⟩) w := fun w => by rw [hl1.out]; exact run_string_add_lists w [105, 110, 116, 32, 118, 61, 102, 40] l (by simp) (by omega)
    have hadd2 : ∀ w : World, (Op.stringOp .add ⟨#[105, 110, 116, 32, 102, 40]⟩ ⟨m.toArray⟩).run Tryz.prog w = .ok (.string ⟨m1.toArray⟩) w := fun w => by rw [hm1.out]; exact run_string_add_lists w [105, 110, 116, 32, 102, 40] m (by simp) (by omega)
    have hadd3 : ∀ w : World, (Op.stringOp .add ⟨l1.toArray⟩ ⟨#[41, 59]⟩).run Tryz.prog w = .ok (.string ⟨(cA k).toArray⟩) w := fun w => by
      have := run_string_add_lists (P := Tryz.prog) w l1 [41, 59] (by omega) (by simp)
      rwa [show l1 ++ [41, 59] = cA k by rw [hl1.out, hl.out]; rfl] at this
    have hadd4 : ∀ w : World, (Op.stringOp .add ⟨m1.toArray⟩ ⟨#[41, 59]⟩).run Tryz.prog w = .ok (.string ⟨(cP k).toArray⟩) w := fun w => by
      have := run_string_add_lists (P := Tryz.prog) w m1 [41, 59] (by omega) (by simp)
      rwa [show m1 ++ [41, 59] = cP k by rw [hm1.out, hm.out]; rfl] at this
    have c2 := aParse k hn3 w1 (HB.out.later HB1.out HB1.out.size (Nat.le_refl _))
    have c3 : ∀ W, Below w1.heap.size w1 W → _ := fun W hW => pParse k hn3 W (HB.out.later (HB1.out.trans (hW.mono HB1.out.size)) (HB1.out.trans (hW.mono HB1.out.size)).size (Nat.le_refl _))
    obtain ⟨S, hS⟩ : ∃ S, S = ByteArray.mk (cA k).toArray := ⟨_, rfl⟩
    obtain ⟨T, hT⟩ : ∃ T, T = ByteArray.mk (cP k).toArray := ⟨_, rfl⟩
    rw [← hS] at c2 hadd3
    rw [← hT] at hadd4
    have c3' : ∀ W, Below w1.heap.size w1 W → Calls Tryz.prog 20 #[.string T] W fun e w' => ∃ q m cc p c, e = .returned (.tuple #[.agg #[.slice q m cc], .int .i64 p, .int .i64 c]) ∧ Below W.heap.size W w' ∧ (¬ k ≤ 8 → c = 5 ∧ p = 54) ∧
      (k ≤ 8 → c = 0 ∧ ∃ g o q3 c3, q = some ⟨g, o, none⟩ ∧ m = 1 ∧ ∀ W', Below w'.heap.size w' W' → RdP k g o q3 c3 W') := fun W hW => by rw [hT]; exact c3 W hW
    clear c3 hS hT hl1 hm1 hl hm hl1l hm1l hll hml hlt hgg hk
    by_cases h8 : k ≤ 8
    · have h8' : ¬ (k : Int) > 8 := by omega
      go_wp2_with (first
        | (go_at_call 20; (with_reducible refine c2.mono ?_); rintro e w2 ⟨q, mm, cc, p, c, rfl, hb, q1, q2⟩; obtain ⟨rfl, g, o, g2, o2, c2', q3, c3, rfl, rfl, hr⟩ := q2 h8; have HR := Lib.hid hr; have hb2 : Below w1.heap.size w1 (w2.alloc (.cells #[.slice (some ⟨g, o, none⟩) 1 cc] TMo)) := hb.alloc hb.size _; have c4 := c3' _ hb2; have HB2 := Lib.hid hb2; clear c2 c3' hb hb2 hr q1 q2)
        | (go_at_call 20; (with_reducible refine c4.mono ?_); rintro e w3 ⟨q, mm, cd, p2, c, rfl, hb, q1, q2⟩; obtain ⟨rfl, gd, od, qd, cx, rfl, rfl, hr⟩ := q2 h8; have hb0 : Below w2.heap.size w2 w3 := ((Below.refl _ _).alloc (Nat.le_refl _) _).trans (hb.mono (by simp)); obtain ⟨r1, r2⟩ := HR.out (w3.alloc (.cells #[.slice (some ⟨gd, od, none⟩) 1 cd] TMo)) (hb0.alloc hb0.size _); have r3 : (w3.alloc (.cells #[.slice (some ⟨gd, od, none⟩) 1 cd] TMo)).cell? ⟨gd, od + 8, none⟩ = some (.slice qd k cx) := hr (w3.alloc (.cells #[.slice (some ⟨gd, od, none⟩) 1 cd] TMo)) ((Below.refl _ _).alloc (Nat.le_refl _) _); have hm1 := (hb.block w2.heap.size (by simp)).trans (heap_alloc_new w2 _); have hs2 := hb.size; simp only [World.size_alloc] at hs2; have hm2 := (Lib.alloc_old w3 (.cells #[.slice (some ⟨gd, od, none⟩) 1 cd] TMo) _ (show w2.heap.size < w3.heap.size by omega)).trans hm1; have m0 := Lib.cell_of_heap hm2 0; have HB3 := Lib.hid hb; clear hb hb0 c4 hm1 hm2 q1 q2 hr))
      go_ret
      have hW := HB1.out.trans ((HB2.out.trans (HB3.out.mono HB2.out.size)).mono HB1.out.size)
      exact ⟨rfl, hW.alloc hW.size _⟩
    · have h8' : (k : Int) > 8 := by omega
      go_wp2_with (first
        | (go_at_call 20; (with_reducible refine c2.mono ?_); rintro e w2 ⟨q, mm, cc, p, c, rfl, hb, q1, q2⟩; obtain ⟨rfl, rfl⟩ := q1 h8; have hb2 : Below w1.heap.size w1 (w2.alloc (.cells #[.slice q mm cc] TMo)) := hb.alloc hb.size _; have c4 := c3' _ hb2; have HB2 := Lib.hid hb2; clear c2 c3' hb hb2 q1 q2)
        | (go_at_call 20; (with_reducible refine c4.mono ?_); rintro e w3 ⟨qq, mx, cd, p2, c, rfl, hb, q1, q2⟩; obtain ⟨rfl, rfl⟩ := q1 h8; have HB3 := Lib.hid hb; clear hb c4 q1 q2))
      go_ret
      have hW := HB1.out.trans ((HB2.out.trans (HB3.out.mono HB2.out.size)).mono HB1.out.size)
      exact ⟨rfl, hW.alloc hW.size _⟩
end PaC
end Go.Proofs.YtjkbdpemekdgnaaGreatDoor
