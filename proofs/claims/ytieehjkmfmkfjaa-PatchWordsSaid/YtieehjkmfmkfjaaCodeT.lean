/-
  The document's instruction of a word (package solderref03's Decode), a contract. Condition: the word is of 32 bits.
-/
import Derived.Test.YtieehjkmfmkfjaaCodeJ
import Derived.IntWalk
import Derived.BigGuardPart
import Derived.Deep.DeepCutAuto
import Derived.Test.YtieehjkmfmkfjaaCodeP
namespace Go.Proofs.Ytieehjkmfmkfjaa
open Go.RowKit
set_option linter.unusedVariables false
set_option linter.unusedSimpArgs false
namespace CT
open CC CW CR CA CE CD CB CO CJ
theorem fld (x : Int) (hx0 : 0 ≤ x) (hx1 : x < 4294967296) (m n : Nat) (hm : m ≤ 31) (hn : n ≤ 31) (M P : Int) (hM : (2 : Int) ^ m = M) (hP : (2 : Int) ^ n = P) (y : Int) (hy : x / M % P = y) (w : World) :
    Calls Try.prog 72 #[.int .i64 x, .int .i64 (m : Int), .int .i64 (n : Int)] w fun e w' => e = .returned (.int .i64 y) ∧ w' = w := by
  have h := field_ x m n (by omega) (by omega) hm (by omega) (by omega) w
  rw [Int.toNat_natCast, hM, hP, hy] at h
  exact h
theorem row1 {w1 w2 : World} {I : Array Value} {T : TypeId} (hb : Below (w1.alloc (.cells I T)).heap.size (w1.alloc (.cells I T)) w2) : w2.heap[w1.heap.size]? = some (.cells I T (0, 0)) ∧ Below w1.heap.size w1 w2 := by
  refine ⟨?_, (box0 w1 _).trans (hb.mono (by simp only [World.size_alloc]; omega))⟩
  rw [hb.block _ (by simp only [World.size_alloc]; omega)]
  exact newAt _ _ _ rfl
theorem free5 {w : World} {b : Nat} {I : Array Value} {T : TypeId} (h : w.heap[b]? = some (.cells I T (0, 0))) : w.frozen? ⟨b, 0, none⟩ = false ∧ w.frozen? ⟨b, 1, none⟩ = false ∧ w.frozen? ⟨b, 2, none⟩ = false ∧ w.frozen? ⟨b, 3, none⟩ = false ∧ w.frozen? ⟨b, 4, none⟩ = false :=
  ⟨by simp [World.frozen?, h], by simp [World.frozen?, h], by simp [World.frozen?, h], by simp [World.frozen?, h], by simp [World.frozen?, h]⟩
theorem sets5 {w wc : World} {p q r s t : Value} (h : Below w.heap.size w wc) : Below w.heap.size w (((((wc.setCell ⟨w.heap.size, 0, none⟩ p).setCell ⟨w.heap.size, 1, none⟩ q).setCell ⟨w.heap.size, 2, none⟩ r).setCell ⟨w.heap.size, 3, none⟩ s).setCell ⟨w.heap.size, 4, none⟩ t) :=
  ((((h.setCell (Nat.le_refl _) _).setCell (Nat.le_refl _) _).setCell (Nat.le_refl _) _).setCell (Nat.le_refl _) _).setCell (Nat.le_refl _) _
theorem tr {wr w5 W : World} (h4 : Below wr.heap.size wr W) (hb5 : Below W.heap.size W w5) : Below wr.heap.size wr w5 := h4.trans (hb5.mono h4.size)
theorem al {wr W : World} (h : Below wr.heap.size wr W) (o : Obj) : Below wr.heap.size wr (W.alloc o) := h.alloc h.size o
def vv (a b c d : Int) (i : Nat) : Int := if i = 0 then a else if i = 1 then b else if i = 2 then c else d
theorem ia_vv (op a b c d : Int) : CI.ia op (vv a b c d) = #[.int .i64 op, .int .i64 a, .int .i64 b, .int .i64 c, .int .i64 d] := rfl
theorem fin_ {Q : Ending → World → Prop} (op : Int) (e : Bool) (V : Nat → Int) {tmps : Array Value} {n : Nat} {w : World}
    (hp : tmps.getD 2 undef = .pointer (some ⟨n, 0, none⟩)) (h3 : tmps.getD 3 undef = .bool e) (hg : w.heap[n]? = some (.cells #[.int .i64 0, .int .i64 0, .int .i64 0, .int .i64 0, .int .i64 0] 85 (0, 0))) (hQ : Q (.returned (.tuple #[.agg (CI.ia op V), .bool e])) (w.setRow n (CI.ia op V))) :
    bodyPost Try.prog Try.f47 Q .ret { tmps := tmps, defers := [] } (w.setRow n (CI.ia op V)) := by
  refine bodyPost_ret (v := .tuple #[.agg (CI.ia op V), .bool e]) ?_ rfl hQ
  have hp' : tmps[2]?.getD undef = .pointer (some ⟨n, 0, none⟩) := by simpa using hp
  have h3' : tmps[3]?.getD undef = .bool e := by simpa using h3
  have hl := run_loadVar_row (P := Try.prog) (w.setRow n (CI.ia op V)) n 85 85 (CI.ia op V) (0, 0) _ (setRow_heap _ _ _ _ _ _ hg) Try.underlying85 rfl (CI.size5 op V)
  simp [results, Try.results47, hp', h3', asAddr, hl]
theorem rd0 (w : World) : Rd w (w.alloc (.cells #[.int .i64 0, .int .i64 0, .int .i64 0, .int .i64 0, .int .i64 0] 85)) := ⟨newAt _ _ _ rfl, box0 _ _⟩
set_option maxRecDepth 100000 in
set_option maxHeartbeats 8000000 in
theorem decode_ (x : Int) (hx0 : 0 ≤ x) (hx1 : x < 4294967296) (w : World) : Calls Try.prog 47 #[.int .u32 x] w fun e w' =>
    e = .returned (.tuple #[.agg (iv (dOp x) (dRd x) (dRs1 x) (dRs2 x) (dImm x)), .bool (!(CM.dec x == 0))]) ∧ Below w.heap.size w w' := by
  obtain ⟨a1, h1⟩ : ∃ y, x / 128 % 32 = y := ⟨_, rfl⟩
  obtain ⟨a2, h2⟩ : ∃ y, x / 32768 % 32 = y := ⟨_, rfl⟩
  obtain ⟨a3, h3⟩ : ∃ y, x / 1048576 % 32 = y := ⟨_, rfl⟩
  obtain ⟨a4, h4⟩ : ∃ y, x / 1048576 % 4096 = y := ⟨_, rfl⟩
  obtain ⟨a5, h5⟩ : ∃ y, x / 33554432 % 128 = y := ⟨_, rfl⟩
  obtain ⟨a6, h6⟩ : ∃ y, x / 256 % 16 = y := ⟨_, rfl⟩
  obtain ⟨a7, h7⟩ : ∃ y, x / 33554432 % 64 = y := ⟨_, rfl⟩
  obtain ⟨a8, h8⟩ : ∃ y, x / 128 % 2 = y := ⟨_, rfl⟩
  obtain ⟨a9, h9⟩ : ∃ y, x / 2147483648 % 2 = y := ⟨_, rfl⟩
  obtain ⟨b1, h10⟩ : ∃ y, x / 2097152 % 1024 = y := ⟨_, rfl⟩
  obtain ⟨b2, h11⟩ : ∃ y, x / 1048576 % 2 = y := ⟨_, rfl⟩
  obtain ⟨b3, h12⟩ : ∃ y, x / 4096 % 256 = y := ⟨_, rfl⟩
  obtain ⟨b4, h13⟩ : ∃ y, x / 4096 % 1048576 = y := ⟨_, rfl⟩
  have c1 : ∀ w, Calls Try.prog 72 #[.int .i64 x, .int .i64 7, .int .i64 5] w fun e w' => e = .returned (.int .i64 a1) ∧ w' = w := fun w => fld x hx0 hx1 7 5 (by decide) (by decide) 128 32 (by decide) (by decide) a1 h1 w
  have c2 : ∀ w, Calls Try.prog 72 #[.int .i64 x, .int .i64 15, .int .i64 5] w fun e w' => e = .returned (.int .i64 a2) ∧ w' = w := fun w => fld x hx0 hx1 15 5 (by decide) (by decide) 32768 32 (by decide) (by decide) a2 h2 w
  have c3 : ∀ w, Calls Try.prog 72 #[.int .i64 x, .int .i64 20, .int .i64 5] w fun e w' => e = .returned (.int .i64 a3) ∧ w' = w := fun w => fld x hx0 hx1 20 5 (by decide) (by decide) 1048576 32 (by decide) (by decide) a3 h3 w
  have c4 : ∀ w, Calls Try.prog 72 #[.int .i64 x, .int .i64 20, .int .i64 12] w fun e w' => e = .returned (.int .i64 a4) ∧ w' = w := fun w => fld x hx0 hx1 20 12 (by decide) (by decide) 1048576 4096 (by decide) (by decide) a4 h4 w
  have c5 : ∀ w, Calls Try.prog 72 #[.int .i64 x, .int .i64 25, .int .i64 7] w fun e w' => e = .returned (.int .i64 a5) ∧ w' = w := fun w => fld x hx0 hx1 25 7 (by decide) (by decide) 33554432 128 (by decide) (by decide) a5 h5 w
  have c6 : ∀ w, Calls Try.prog 72 #[.int .i64 x, .int .i64 8, .int .i64 4] w fun e w' => e = .returned (.int .i64 a6) ∧ w' = w := fun w => fld x hx0 hx1 8 4 (by decide) (by decide) 256 16 (by decide) (by decide) a6 h6 w
  have c7 : ∀ w, Calls Try.prog 72 #[.int .i64 x, .int .i64 25, .int .i64 6] w fun e w' => e = .returned (.int .i64 a7) ∧ w' = w := fun w => fld x hx0 hx1 25 6 (by decide) (by decide) 33554432 64 (by decide) (by decide) a7 h7 w
  have c8 : ∀ w, Calls Try.prog 72 #[.int .i64 x, .int .i64 7, .int .i64 1] w fun e w' => e = .returned (.int .i64 a8) ∧ w' = w := fun w => fld x hx0 hx1 7 1 (by decide) (by decide) 128 2 (by decide) (by decide) a8 h8 w
  have c9 : ∀ w, Calls Try.prog 72 #[.int .i64 x, .int .i64 31, .int .i64 1] w fun e w' => e = .returned (.int .i64 a9) ∧ w' = w := fun w => fld x hx0 hx1 31 1 (by decide) (by decide) 2147483648 2 (by decide) (by decide) a9 h9 w
  have d1 : ∀ w, Calls Try.prog 72 #[.int .i64 x, .int .i64 21, .int .i64 10] w fun e w' => e = .returned (.int .i64 b1) ∧ w' = w := fun w => fld x hx0 hx1 21 10 (by decide) (by decide) 2097152 1024 (by decide) (by decide) b1 h10 w
  have d2 : ∀ w, Calls Try.prog 72 #[.int .i64 x, .int .i64 20, .int .i64 1] w fun e w' => e = .returned (.int .i64 b2) ∧ w' = w := fun w => fld x hx0 hx1 20 1 (by decide) (by decide) 1048576 2 (by decide) (by decide) b2 h11 w
  have d3 : ∀ w, Calls Try.prog 72 #[.int .i64 x, .int .i64 12, .int .i64 8] w fun e w' => e = .returned (.int .i64 b3) ∧ w' = w := fun w => fld x hx0 hx1 12 8 (by decide) (by decide) 4096 256 (by decide) (by decide) b3 h12 w
  have d4 : ∀ w, Calls Try.prog 72 #[.int .i64 x, .int .i64 12, .int .i64 20] w fun e w' => e = .returned (.int .i64 b4) ∧ w' = w := fun w => fld x hx0 hx1 12 20 (by decide) (by decide) 4096 1048576 (by decide) (by decide) b4 h13 w
  have g1 : 0 ≤ a1 ∧ a1 ≤ 31 := by omega
  have g2 : 0 ≤ a2 ∧ a2 ≤ 31 := by omega
  have g3 : 0 ≤ a3 ∧ a3 ≤ 31 := by omega
  have g4 : 0 ≤ a4 ∧ a4 ≤ 4095 := by omega
  have g5 : 0 ≤ a5 ∧ a5 ≤ 127 := by omega
  have g6 : 0 ≤ a6 ∧ a6 ≤ 15 := by omega
  have g7 : 0 ≤ a7 ∧ a7 ≤ 63 := by omega
  have g8 : 0 ≤ a8 ∧ a8 ≤ 1 := by omega
  have g9 : 0 ≤ a9 ∧ a9 ≤ 1 := by omega
  have g10 : 0 ≤ b1 ∧ b1 ≤ 1023 := by omega
  have g11 : 0 ≤ b2 ∧ b2 ≤ 1 := by omega
  have g12 : 0 ≤ b3 ∧ b3 ≤ 255 := by omega
  have g13 : 0 ≤ b4 ∧ b4 ≤ 1048575 := by omega
  have HA := Lib.hid (show x / 128 % 32 = a1 ∧ x / 32768 % 32 = a2 ∧ x / 1048576 % 32 = a3 ∧ x / 1048576 % 4096 = a4 ∧ x / 33554432 % 128 = a5 ∧ x / 256 % 16 = a6 ∧ x / 33554432 % 64 = a7 ∧ x / 128 % 2 = a8 ∧ x / 2147483648 % 2 = a9 ∧ x / 2097152 % 1024 = b1 ∧ x / 1048576 % 2 = b2 ∧ x / 4096 % 256 = b3 ∧ x / 4096 % 1048576 = b4 from ⟨h1, h2, h3, h4, h5, h6, h7, h8, h9, h10, h11, h12, h13⟩)
  clear h1 h2 h3 h4 h5 h6 h7 h8 h9 h10 h11 h12 h13
  obtain ⟨T, hT⟩ : ∃ y, (if a4 ≤ 2047 then a4 else a4 - 4096) = y := ⟨_, rfl⟩
  obtain ⟨S, hS⟩ : ∃ y, (if a1 + 32 * a5 ≤ 2047 then a1 + 32 * a5 else a1 + 32 * a5 - 4096) = y := ⟨_, rfl⟩
  have HT := Lib.hid hT
  have HS := Lib.hid hS
  clear hT hS
  have v1 := IntWalk.i64_in (32 * a5) (by omega)
  have v2 := IntWalk.i64_in (a1 + 32 * a5) (by omega)
  have v3 := IntWalk.i64_in (2 * a6) (by omega)
  have v4 := IntWalk.i64_in (32 * a7) (by omega)
  have v5 := IntWalk.i64_in (2 * a6 + 32 * a7) (by omega)
  have v6 := IntWalk.i64_in (2048 * a8) (by omega)
  have v7 := IntWalk.i64_in (2 * a6 + 32 * a7 + 2048 * a8) (by omega)
  have v8 := IntWalk.i64_in (4096 * a9) (by omega)
  have v9 := IntWalk.i64_in (2 * a6 + 32 * a7 + 2048 * a8 - 4096 * a9) (by omega)
  have u1 := IntWalk.i64_in (2 * b1) (by omega)
  have u2 := IntWalk.i64_in (2048 * b2) (by omega)
  have u3 := IntWalk.i64_in (2 * b1 + 2048 * b2) (by omega)
  have u4 := IntWalk.i64_in (4096 * b3) (by omega)
  have u5 := IntWalk.i64_in (2 * b1 + 2048 * b2 + 4096 * b3) (by omega)
  have u6 := IntWalk.i64_in (1048576 * a9) (by omega)
  have u7 := IntWalk.i64_in (2 * b1 + 2048 * b2 + 4096 * b3 - 1048576 * a9) (by omega)
  go_enter Try.func47, Try.ntmps47
  go_upto_if 28 with (go_at_call 72; (first
    | ((with_reducible refine (c1 _).mono ?_); rintro e w' ⟨rfl, rfl⟩)
    | ((with_reducible refine (c2 _).mono ?_); rintro e w' ⟨rfl, rfl⟩)
    | ((with_reducible refine (c3 _).mono ?_); rintro e w' ⟨rfl, rfl⟩)
    | ((with_reducible refine (c4 _).mono ?_); rintro e w' ⟨rfl, rfl⟩)))
  go_cut [8] from 27 (fun s8 wx => s8 = .int .i64 T ∧ Rd w wx)
  case first =>
    by_cases ht : 2048 ≤ a4
    · have hv : a4 - 4096 = T := by have := HT.out; rw [if_neg (by omega)] at this; exact this
      have HV := Lib.hid hv
      clear hv
      go_wp2
      go_meet
      exact ⟨congrArg _ HV.out, rd0 w⟩
    · have hv : a4 = T := by have := HT.out; rw [if_pos (by omega)] at this; exact this
      have HV := Lib.hid hv
      clear hv
      go_wp2
      go_meet
      exact ⟨congrArg _ HV.out, rd0 w⟩
  case rest =>
  obtain ⟨rfl, hR⟩ := hcut
  go_upto_if 38 with (go_at_call 72; (first
    | ((with_reducible refine (c1 _).mono ?_); rintro e w' ⟨rfl, rfl⟩)
    | ((with_reducible refine (c5 _).mono ?_); rintro e w' ⟨rfl, rfl⟩)))
  go_cut [9] from 27 (fun s9 wx => s9 = .int .i64 S ∧ Rd w wx)
  case first =>
    by_cases ht : 2048 ≤ a1 + 32 * a5
    · have hv : a1 + 32 * a5 - 4096 = S := by have := HS.out; rw [if_neg (by omega)] at this; exact this
      have HV := Lib.hid hv
      clear hv
      go_wp2
      go_meet
      exact ⟨congrArg _ HV.out, hR⟩
    · have hv : a1 + 32 * a5 = S := by have := HS.out; rw [if_pos (by omega)] at this; exact this
      have HV := Lib.hid hv
      clear hv
      go_wp2
      go_meet
      exact ⟨congrArg _ HV.out, hR⟩
  case rest =>
  clear hR
  obtain ⟨rfl, hR⟩ := hcut
  go_wp2_with (go_at_call 72; (first
    | ((with_reducible refine (c6 _).mono ?_); rintro e w' ⟨rfl, rfl⟩)
    | ((with_reducible refine (c7 _).mono ?_); rintro e w' ⟨rfl, rfl⟩)
    | ((with_reducible refine (c8 _).mono ?_); rintro e w' ⟨rfl, rfl⟩)
    | ((with_reducible refine (c9 _).mono ?_); rintro e w' ⟨rfl, rfl⟩)
    | ((with_reducible refine (d1 _).mono ?_); rintro e w' ⟨rfl, rfl⟩)
    | ((with_reducible refine (d2 _).mono ?_); rintro e w' ⟨rfl, rfl⟩)
    | ((with_reducible refine (d3 _).mono ?_); rintro e w' ⟨rfl, rfl⟩)))
  clear v1 v2 v3 v4 v5 v6 v7 v8 v9 u1 u2 u3 u4 u5 u6 u7
  have HB := Lib.hid (show 2 * (x / 256 % 16) + 32 * (x / 33554432 % 64) + 2048 * (x / 128 % 2) - 4096 * (x / 2147483648 % 2) = 2 * a6 + 32 * a7 + 2048 * a8 - 4096 * a9 by obtain ⟨-, -, -, -, -, h6, h7, h8, h9, -⟩ := HA.out; rw [h6, h7, h8, h9])
  have HJ := Lib.hid (show 2 * (x / 2097152 % 1024) + 2048 * (x / 1048576 % 2) + 4096 * (x / 4096 % 256) - 1048576 * (x / 2147483648 % 2) = 2 * b1 + 2048 * b2 + 4096 * b3 - 1048576 * a9 by obtain ⟨-, -, -, -, -, -, -, -, h9, h10, h11, h12, -⟩ := HA.out; rw [h9, h10, h11, h12])
  have HTx := Lib.hid (show (if x / 1048576 % 4096 ≤ 2047 then x / 1048576 % 4096 else x / 1048576 % 4096 - 4096) = T by obtain ⟨-, -, -, h4, -⟩ := HA.out; rw [h4]; exact HT.out)
  have HSx := Lib.hid (show (if x / 128 % 32 + 32 * (x / 33554432 % 128) ≤ 2047 then x / 128 % 32 + 32 * (x / 33554432 % 128) else x / 128 % 32 + 32 * (x / 33554432 % 128) - 4096) = S by obtain ⟨h1, -, -, -, h5, -⟩ := HA.out; rw [h1, h5]; exact HS.out)
  have gT : -2048 ≤ T ∧ T ≤ 2047 := by have := HT.out; split at this <;> omega
  have gS : -2048 ≤ S ∧ S ≤ 2047 := by have := HS.out; split at this <;> omega
  have gB : -4096 ≤ 2 * a6 + 32 * a7 + 2048 * a8 - 4096 * a9 ∧ 2 * a6 + 32 * a7 + 2048 * a8 - 4096 * a9 ≤ 4094 := by omega
  have gJ : -1048576 ≤ 2 * b1 + 2048 * b2 + 4096 * b3 - 1048576 * a9 ∧ 2 * b1 + 2048 * b2 + 4096 * b3 - 1048576 * a9 ≤ 1048574 := by omega
  generalize 2 * a6 + 32 * a7 + 2048 * a8 - 4096 * a9 = B at *
  generalize 2 * b1 + 2048 * b2 + 4096 * b3 - 1048576 * a9 = J at *
  obtain ⟨A1, A2, A3, -, -, -, -, -, -, -, -, -, A4⟩ := HA.out
  have HC := Lib.hid (And.intro A1 (And.intro A2 (And.intro A3 A4)))
  clear HA HT HS A1 A2 A3 A4 c1 c2 c3 c4 c5 c6 c7 c8 c9 d1 d2 d3 g4 g5 g6 g7 g8 g9 g10 g11 g12
  go_loopw [12] (fun p wr => ∃ j : Nat, j ≤ 55 ∧ p = .int .i64 ((j : Int) + 1) ∧ Hid (∀ i : Int, 1 ≤ i → i ≤ j → CM.hit i x = false) ∧ Rd w wr) (fun p _ => (56 - intOf p).toNat)
  case atStart => exact ⟨0, by omega, by simp, Lib.hid (fun i h1 h2 => by omega), hR⟩
  case round =>
    clear hR
    obtain ⟨j, hj, rfl, hh, g⟩ := hrel
    by_cases hlt : j < 55
    · have hop : CM.isOp ((j : Int) + 1) = true := by simp [CM.isOp]; omega
      have hft := CM.ft_row hop
      have cO := fun w => CO.of_ ((j : Int) + 1) w
      have hgood := CM.cand_good hft hx0 hx1
      have hfault := CM.fault_good hgood
      have e0 : encE ((j : Int) + 1) (CM.rdOf (CM.kd ((j : Int) + 1)) x) (CM.rs1Of (CM.kd ((j : Int) + 1)) x) (CM.rs2Of (CM.kd ((j : Int) + 1)) x) (CM.immOf (CM.kd ((j : Int) + 1)) x) = 0 := by rw [encE, hop]; exact hfault
      have w0 : encW ((j : Int) + 1) (CM.rdOf (CM.kd ((j : Int) + 1)) x) (CM.rs1Of (CM.kd ((j : Int) + 1)) x) (CM.rs2Of (CM.kd ((j : Int) + 1)) x) (CM.immOf (CM.kd ((j : Int) + 1)) x) = CM.again ((j : Int) + 1) x := by rw [encW, hop, hfault]; rfl
      have hres := Lib.hid (show CM.hit ((j : Int) + 1) x = true → dOp x = (j : Int) + 1 ∧ dRd x = CM.rdOf (CM.kd ((j : Int) + 1)) x ∧ dRs1 x = CM.rs1Of (CM.kd ((j : Int) + 1)) x ∧ dRs2 x = CM.rs2Of (CM.kd ((j : Int) + 1)) x ∧ dImm x = CM.immOf (CM.kd ((j : Int) + 1)) x ∧ (!(CM.dec x == 0)) = true from fun h => by
        have hd := CM.dec_hit h hx0 hx1
        have hz : ¬ (j : Int) + 1 = 0 := by omega
        simp [dOp, dRd, dRs1, dRs2, dImm, hd, hz])
      have hag : Hid (CM.again ((j : Int) + 1) x = x ↔ CM.hit ((j : Int) + 1) x = true) := Lib.hid ⟨fun h => by simp [CM.hit, hop, h], fun h => (CM.hit_op h).2⟩
      have hnext := Lib.hid (show CM.hit ((j : Int) + 1) x = false → ∀ i : Int, 1 ≤ i → i ≤ ((j + 1 : Nat) : Int) → CM.hit i x = false from fun h i h1 h2 => by
        by_cases e : i = (j : Int) + 1
        · rw [e]; exact h
        · exact hh.out i h1 (by omega))
      unfold rowV at cO
      rw [if_pos hop] at cO
      have hk := CM.kinds hft
      have cE := fun (r1 : (Lit.int .i64 (CM.rdOf (CM.kd ((j : Int) + 1)) x)).wf = true) (r2 : (Lit.int .i64 (CM.rs1Of (CM.kd ((j : Int) + 1)) x)).wf = true) (r3 : (Lit.int .i64 (CM.rs2Of (CM.kd ((j : Int) + 1)) x)).wf = true) (r4 : (Lit.int .i64 (CM.immOf (CM.kd ((j : Int) + 1)) x)).wf = true) w => CJ.encode_ ((j : Int) + 1) (CM.rdOf (CM.kd ((j : Int) + 1)) x) (CM.rs1Of (CM.kd ((j : Int) + 1)) x) (CM.rs2Of (CM.kd ((j : Int) + 1)) x) (CM.immOf (CM.kd ((j : Int) + 1)) x) r1 r2 r3 r4 w
      rw [e0, w0] at cE
      clear e0 w0 hfault hgood hft hop hh
      generalize CM.again ((j : Int) + 1) x = A at *
      generalize CM.kd ((j : Int) + 1) = k at *
      generalize CM.o7 ((j : Int) + 1) = o at *
      generalize CM.f3 ((j : Int) + 1) = a at *
      generalize CM.f7 ((j : Int) + 1) = c at *
      rcases hk with h | h | h | h | h | h | h | h | h | h | h <;> subst h
      · obtain ⟨A1, A2, A3, A4⟩ := HC.out
        rw [show CM.rdOf 0 x = a1 from A1, show CM.rs1Of 0 x = a2 from A2, show CM.rs2Of 0 x = a3 from A3, show CM.immOf 0 x = 0 from rfl] at cE hres
        have cF := cE (by go_wf) (by go_wf) (by go_wf) (by go_wf)
        simp only [show rk 0 = 82 from rfl, show CO.r2 0 = -1 from rfl] at cO
        clear cE A1 A2 A3 A4
        by_cases hA : A = x
        · have hV := Lib.hid (hres.out (hag.out.1 hA))
          have hA' : (A == x) = true := by simp [hA]
          clear hA hres hag hnext
          go_wp2_with (first
            | (go_at_call 71; (with_reducible refine (cO _).mono ?_); rintro e w4 ⟨rfl, hb4⟩; have hi4 := row1 hb4; obtain ⟨p0, p1, p2, p3, p4⟩ := CP.cells5 hi4.1; obtain ⟨z0, z1, z2, z3, z4⟩ := free5 hi4.1; have hl4 := lt_of_get hi4.1; have HI4 := Lib.hid hi4; clear hi4)
            | (go_at_call 72; (with_reducible refine (d4 _).mono ?_); rintro e w' ⟨rfl, rfl⟩)
            | (go_at_call 52; (with_reducible refine (cF _).mono ?_); rintro e w5 ⟨rfl, hb5⟩; have q0 := hb5.cell (p := ⟨wr.heap.size, 0, none⟩) (by (simp; omega)); have q1 := hb5.cell (p := ⟨wr.heap.size, 1, none⟩) (by (simp; omega)); have q2 := hb5.cell (p := ⟨wr.heap.size, 2, none⟩) (by (simp; omega)); have q3 := hb5.cell (p := ⟨wr.heap.size, 3, none⟩) (by (simp; omega)); have q4 := hb5.cell (p := ⟨wr.heap.size, 4, none⟩) (by (simp; omega)); have hw := HI4.out.2; have HG := Lib.hid (p := Rd w w5) (g.trans (tr (al (((hw.setCell (Nat.le_refl _) _).setCell (Nat.le_refl _) _).setCell (Nat.le_refl _) _) _) hb5)); obtain ⟨m0, m1, m2, m3, m4⟩ := CP.cells5 HG.out.hr; obtain ⟨n0, n1, n2, n3, n4⟩ := free5 HG.out.hr; have l5 := lt_of_get HG.out.hr))
          obtain ⟨e1, e2, e3, e4, e5, e6⟩ := hV.out
          exact bodyPost_ret (v := .tuple #[.agg #[.int .i64 ((j : Int) + 1), .int .i64 a1, .int .i64 a2, .int .i64 a3, .int .i64 0], .bool true]) (by simp [results, Try.results47, m0, m1, m2, m3, m4, l5, go_sem]) rfl ⟨by rw [e1, e2, e3, e4, e5, e6]; rfl, sets5 HG.out.below⟩
        · have hN : Hid (CM.hit ((j : Int) + 1) x = false) := Lib.hid (by
            cases hh : CM.hit ((j : Int) + 1) x with
            | true => exact absurd (hag.out.2 hh) hA
            | false => rfl)
          have hA' : (A == x) = false := by simp [hA]
          clear hA hres hag
          go_wp2_with (first
            | (go_at_call 71; (with_reducible refine (cO _).mono ?_); rintro e w4 ⟨rfl, hb4⟩; have hi4 := row1 hb4; obtain ⟨p0, p1, p2, p3, p4⟩ := CP.cells5 hi4.1; obtain ⟨z0, z1, z2, z3, z4⟩ := free5 hi4.1; have hl4 := lt_of_get hi4.1; have HI4 := Lib.hid hi4; clear hi4)
            | (go_at_call 72; (with_reducible refine (d4 _).mono ?_); rintro e w' ⟨rfl, rfl⟩)
            | (go_at_call 52; (with_reducible refine (cF _).mono ?_); rintro e w5 ⟨rfl, hb5⟩; have q0 := hb5.cell (p := ⟨wr.heap.size, 0, none⟩) (by (simp; omega)); have q1 := hb5.cell (p := ⟨wr.heap.size, 1, none⟩) (by (simp; omega)); have q2 := hb5.cell (p := ⟨wr.heap.size, 2, none⟩) (by (simp; omega)); have q3 := hb5.cell (p := ⟨wr.heap.size, 3, none⟩) (by (simp; omega)); have q4 := hb5.cell (p := ⟨wr.heap.size, 4, none⟩) (by (simp; omega)); have hw := HI4.out.2; have HG := Lib.hid (p := Rd w w5) (g.trans (tr (al (((hw.setCell (Nat.le_refl _) _).setCell (Nat.le_refl _) _).setCell (Nat.le_refl _) _) _) hb5)); obtain ⟨m0, m1, m2, m3, m4⟩ := CP.cells5 HG.out.hr; obtain ⟨n0, n1, n2, n3, n4⟩ := free5 HG.out.hr; have l5 := lt_of_get HG.out.hr))
          go_roundw
          case rel => exact ⟨j + 1, by omega, by go_num, Lib.hid (hnext.out hN.out), HG.out⟩
          case measure => simp [intOf]; omega
      · obtain ⟨A1, A2, A3, A4⟩ := HC.out
        rw [show CM.rdOf 1 x = a1 from A1, show CM.rs1Of 1 x = a2 from A2, show CM.rs2Of 1 x = 0 from rfl, show CM.immOf 1 x = T from HTx.out] at cE hres
        have cF := cE (by go_wf) (by go_wf) (by go_wf) (by go_wf)
        simp only [show rk 1 = 73 from rfl, show CO.r2 1 = -1 from rfl] at cO
        clear cE A1 A2 A3 A4
        by_cases hA : A = x
        · have hV := Lib.hid (hres.out (hag.out.1 hA))
          have hA' : (A == x) = true := by simp [hA]
          clear hA hres hag hnext
          go_wp2_with (first
            | (go_at_call 71; (with_reducible refine (cO _).mono ?_); rintro e w4 ⟨rfl, hb4⟩; have hi4 := row1 hb4; obtain ⟨p0, p1, p2, p3, p4⟩ := CP.cells5 hi4.1; obtain ⟨z0, z1, z2, z3, z4⟩ := free5 hi4.1; have hl4 := lt_of_get hi4.1; have HI4 := Lib.hid hi4; clear hi4)
            | (go_at_call 72; (with_reducible refine (d4 _).mono ?_); rintro e w' ⟨rfl, rfl⟩)
            | (go_at_call 52; (with_reducible refine (cF _).mono ?_); rintro e w5 ⟨rfl, hb5⟩; have q0 := hb5.cell (p := ⟨wr.heap.size, 0, none⟩) (by (simp; omega)); have q1 := hb5.cell (p := ⟨wr.heap.size, 1, none⟩) (by (simp; omega)); have q2 := hb5.cell (p := ⟨wr.heap.size, 2, none⟩) (by (simp; omega)); have q3 := hb5.cell (p := ⟨wr.heap.size, 3, none⟩) (by (simp; omega)); have q4 := hb5.cell (p := ⟨wr.heap.size, 4, none⟩) (by (simp; omega)); have hw := HI4.out.2; have HG := Lib.hid (p := Rd w w5) (g.trans (tr (al (((((hw.setCell (Nat.le_refl _) _).setCell (Nat.le_refl _) _).setCell (Nat.le_refl _) _).setCell (Nat.le_refl _) _).setCell (Nat.le_refl _) _) _) hb5)); obtain ⟨m0, m1, m2, m3, m4⟩ := CP.cells5 HG.out.hr; obtain ⟨n0, n1, n2, n3, n4⟩ := free5 HG.out.hr; have l5 := lt_of_get HG.out.hr))
          obtain ⟨e1, e2, e3, e4, e5, e6⟩ := hV.out
          exact bodyPost_ret (v := .tuple #[.agg #[.int .i64 ((j : Int) + 1), .int .i64 a1, .int .i64 a2, .int .i64 0, .int .i64 T], .bool true]) (by simp [results, Try.results47, m0, m1, m2, m3, m4, l5, go_sem]) rfl ⟨by rw [e1, e2, e3, e4, e5, e6]; rfl, sets5 HG.out.below⟩
        · have hN : Hid (CM.hit ((j : Int) + 1) x = false) := Lib.hid (by
            cases hh : CM.hit ((j : Int) + 1) x with
            | true => exact absurd (hag.out.2 hh) hA
            | false => rfl)
          have hA' : (A == x) = false := by simp [hA]
          clear hA hres hag
          go_wp2_with (first
            | (go_at_call 71; (with_reducible refine (cO _).mono ?_); rintro e w4 ⟨rfl, hb4⟩; have hi4 := row1 hb4; obtain ⟨p0, p1, p2, p3, p4⟩ := CP.cells5 hi4.1; obtain ⟨z0, z1, z2, z3, z4⟩ := free5 hi4.1; have hl4 := lt_of_get hi4.1; have HI4 := Lib.hid hi4; clear hi4)
            | (go_at_call 72; (with_reducible refine (d4 _).mono ?_); rintro e w' ⟨rfl, rfl⟩)
            | (go_at_call 52; (with_reducible refine (cF _).mono ?_); rintro e w5 ⟨rfl, hb5⟩; have q0 := hb5.cell (p := ⟨wr.heap.size, 0, none⟩) (by (simp; omega)); have q1 := hb5.cell (p := ⟨wr.heap.size, 1, none⟩) (by (simp; omega)); have q2 := hb5.cell (p := ⟨wr.heap.size, 2, none⟩) (by (simp; omega)); have q3 := hb5.cell (p := ⟨wr.heap.size, 3, none⟩) (by (simp; omega)); have q4 := hb5.cell (p := ⟨wr.heap.size, 4, none⟩) (by (simp; omega)); have hw := HI4.out.2; have HG := Lib.hid (p := Rd w w5) (g.trans (tr (al (((((hw.setCell (Nat.le_refl _) _).setCell (Nat.le_refl _) _).setCell (Nat.le_refl _) _).setCell (Nat.le_refl _) _).setCell (Nat.le_refl _) _) _) hb5)); obtain ⟨m0, m1, m2, m3, m4⟩ := CP.cells5 HG.out.hr; obtain ⟨n0, n1, n2, n3, n4⟩ := free5 HG.out.hr; have l5 := lt_of_get HG.out.hr))
          go_roundw
          case rel => exact ⟨j + 1, by omega, by go_num, Lib.hid (hnext.out hN.out), HG.out⟩
          case measure => simp [intOf]; omega
      · obtain ⟨A1, A2, A3, A4⟩ := HC.out
        rw [show CM.rdOf 2 x = a1 from A1, show CM.rs1Of 2 x = a2 from A2, show CM.rs2Of 2 x = 0 from rfl, show CM.immOf 2 x = a3 from A3] at cE hres
        have cF := cE (by go_wf) (by go_wf) (by go_wf) (by go_wf)
        simp only [show rk 2 = 72 from rfl, show CO.r2 2 = -1 from rfl] at cO
        clear cE A1 A2 A3 A4
        by_cases hA : A = x
        · have hV := Lib.hid (hres.out (hag.out.1 hA))
          have hA' : (A == x) = true := by simp [hA]
          clear hA hres hag hnext
          go_wp2_with (first
            | (go_at_call 71; (with_reducible refine (cO _).mono ?_); rintro e w4 ⟨rfl, hb4⟩; have hi4 := row1 hb4; obtain ⟨p0, p1, p2, p3, p4⟩ := CP.cells5 hi4.1; obtain ⟨z0, z1, z2, z3, z4⟩ := free5 hi4.1; have hl4 := lt_of_get hi4.1; have HI4 := Lib.hid hi4; clear hi4)
            | (go_at_call 72; (with_reducible refine (d4 _).mono ?_); rintro e w' ⟨rfl, rfl⟩)
            | (go_at_call 52; (with_reducible refine (cF _).mono ?_); rintro e w5 ⟨rfl, hb5⟩; have q0 := hb5.cell (p := ⟨wr.heap.size, 0, none⟩) (by (simp; omega)); have q1 := hb5.cell (p := ⟨wr.heap.size, 1, none⟩) (by (simp; omega)); have q2 := hb5.cell (p := ⟨wr.heap.size, 2, none⟩) (by (simp; omega)); have q3 := hb5.cell (p := ⟨wr.heap.size, 3, none⟩) (by (simp; omega)); have q4 := hb5.cell (p := ⟨wr.heap.size, 4, none⟩) (by (simp; omega)); have hw := HI4.out.2; have HG := Lib.hid (p := Rd w w5) (g.trans (tr (al (((((hw.setCell (Nat.le_refl _) _).setCell (Nat.le_refl _) _).setCell (Nat.le_refl _) _).setCell (Nat.le_refl _) _).setCell (Nat.le_refl _) _) _) hb5)); obtain ⟨m0, m1, m2, m3, m4⟩ := CP.cells5 HG.out.hr; obtain ⟨n0, n1, n2, n3, n4⟩ := free5 HG.out.hr; have l5 := lt_of_get HG.out.hr))
          obtain ⟨e1, e2, e3, e4, e5, e6⟩ := hV.out
          exact bodyPost_ret (v := .tuple #[.agg #[.int .i64 ((j : Int) + 1), .int .i64 a1, .int .i64 a2, .int .i64 0, .int .i64 a3], .bool true]) (by simp [results, Try.results47, m0, m1, m2, m3, m4, l5, go_sem]) rfl ⟨by rw [e1, e2, e3, e4, e5, e6]; rfl, sets5 HG.out.below⟩
        · have hN : Hid (CM.hit ((j : Int) + 1) x = false) := Lib.hid (by
            cases hh : CM.hit ((j : Int) + 1) x with
            | true => exact absurd (hag.out.2 hh) hA
            | false => rfl)
          have hA' : (A == x) = false := by simp [hA]
          clear hA hres hag
          go_wp2_with (first
            | (go_at_call 71; (with_reducible refine (cO _).mono ?_); rintro e w4 ⟨rfl, hb4⟩; have hi4 := row1 hb4; obtain ⟨p0, p1, p2, p3, p4⟩ := CP.cells5 hi4.1; obtain ⟨z0, z1, z2, z3, z4⟩ := free5 hi4.1; have hl4 := lt_of_get hi4.1; have HI4 := Lib.hid hi4; clear hi4)
            | (go_at_call 72; (with_reducible refine (d4 _).mono ?_); rintro e w' ⟨rfl, rfl⟩)
            | (go_at_call 52; (with_reducible refine (cF _).mono ?_); rintro e w5 ⟨rfl, hb5⟩; have q0 := hb5.cell (p := ⟨wr.heap.size, 0, none⟩) (by (simp; omega)); have q1 := hb5.cell (p := ⟨wr.heap.size, 1, none⟩) (by (simp; omega)); have q2 := hb5.cell (p := ⟨wr.heap.size, 2, none⟩) (by (simp; omega)); have q3 := hb5.cell (p := ⟨wr.heap.size, 3, none⟩) (by (simp; omega)); have q4 := hb5.cell (p := ⟨wr.heap.size, 4, none⟩) (by (simp; omega)); have hw := HI4.out.2; have HG := Lib.hid (p := Rd w w5) (g.trans (tr (al (((((hw.setCell (Nat.le_refl _) _).setCell (Nat.le_refl _) _).setCell (Nat.le_refl _) _).setCell (Nat.le_refl _) _).setCell (Nat.le_refl _) _) _) hb5)); obtain ⟨m0, m1, m2, m3, m4⟩ := CP.cells5 HG.out.hr; obtain ⟨n0, n1, n2, n3, n4⟩ := free5 HG.out.hr; have l5 := lt_of_get HG.out.hr))
          go_roundw
          case rel => exact ⟨j + 1, by omega, by go_num, Lib.hid (hnext.out hN.out), HG.out⟩
          case measure => simp [intOf]; omega
      · obtain ⟨A1, A2, A3, A4⟩ := HC.out
        rw [show CM.rdOf 3 x = 0 from rfl, show CM.rs1Of 3 x = a2 from A2, show CM.rs2Of 3 x = a3 from A3, show CM.immOf 3 x = S from HSx.out] at cE hres
        have cF := cE (by go_wf) (by go_wf) (by go_wf) (by go_wf)
        simp only [show rk 3 = 83 from rfl, show CO.r2 3 = -1 from rfl] at cO
        clear cE A1 A2 A3 A4
        by_cases hA : A = x
        · have hV := Lib.hid (hres.out (hag.out.1 hA))
          have hA' : (A == x) = true := by simp [hA]
          clear hA hres hag hnext
          go_wp2_with (first
            | (go_at_call 71; (with_reducible refine (cO _).mono ?_); rintro e w4 ⟨rfl, hb4⟩; have hi4 := row1 hb4; obtain ⟨p0, p1, p2, p3, p4⟩ := CP.cells5 hi4.1; obtain ⟨z0, z1, z2, z3, z4⟩ := free5 hi4.1; have hl4 := lt_of_get hi4.1; have HI4 := Lib.hid hi4; clear hi4)
            | (go_at_call 72; (with_reducible refine (d4 _).mono ?_); rintro e w' ⟨rfl, rfl⟩)
            | (go_at_call 52; (with_reducible refine (cF _).mono ?_); rintro e w5 ⟨rfl, hb5⟩; have q0 := hb5.cell (p := ⟨wr.heap.size, 0, none⟩) (by (simp; omega)); have q1 := hb5.cell (p := ⟨wr.heap.size, 1, none⟩) (by (simp; omega)); have q2 := hb5.cell (p := ⟨wr.heap.size, 2, none⟩) (by (simp; omega)); have q3 := hb5.cell (p := ⟨wr.heap.size, 3, none⟩) (by (simp; omega)); have q4 := hb5.cell (p := ⟨wr.heap.size, 4, none⟩) (by (simp; omega)); have hw := HI4.out.2; have HG := Lib.hid (p := Rd w w5) (g.trans (tr (al (((((hw.setCell (Nat.le_refl _) _).setCell (Nat.le_refl _) _).setCell (Nat.le_refl _) _).setCell (Nat.le_refl _) _).setCell (Nat.le_refl _) _) _) hb5)); obtain ⟨m0, m1, m2, m3, m4⟩ := CP.cells5 HG.out.hr; obtain ⟨n0, n1, n2, n3, n4⟩ := free5 HG.out.hr; have l5 := lt_of_get HG.out.hr))
          obtain ⟨e1, e2, e3, e4, e5, e6⟩ := hV.out
          exact bodyPost_ret (v := .tuple #[.agg #[.int .i64 ((j : Int) + 1), .int .i64 0, .int .i64 a2, .int .i64 a3, .int .i64 S], .bool true]) (by simp [results, Try.results47, m0, m1, m2, m3, m4, l5, go_sem]) rfl ⟨by rw [e1, e2, e3, e4, e5, e6]; rfl, sets5 HG.out.below⟩
        · have hN : Hid (CM.hit ((j : Int) + 1) x = false) := Lib.hid (by
            cases hh : CM.hit ((j : Int) + 1) x with
            | true => exact absurd (hag.out.2 hh) hA
            | false => rfl)
          have hA' : (A == x) = false := by simp [hA]
          clear hA hres hag
          go_wp2_with (first
            | (go_at_call 71; (with_reducible refine (cO _).mono ?_); rintro e w4 ⟨rfl, hb4⟩; have hi4 := row1 hb4; obtain ⟨p0, p1, p2, p3, p4⟩ := CP.cells5 hi4.1; obtain ⟨z0, z1, z2, z3, z4⟩ := free5 hi4.1; have hl4 := lt_of_get hi4.1; have HI4 := Lib.hid hi4; clear hi4)
            | (go_at_call 72; (with_reducible refine (d4 _).mono ?_); rintro e w' ⟨rfl, rfl⟩)
            | (go_at_call 52; (with_reducible refine (cF _).mono ?_); rintro e w5 ⟨rfl, hb5⟩; have q0 := hb5.cell (p := ⟨wr.heap.size, 0, none⟩) (by (simp; omega)); have q1 := hb5.cell (p := ⟨wr.heap.size, 1, none⟩) (by (simp; omega)); have q2 := hb5.cell (p := ⟨wr.heap.size, 2, none⟩) (by (simp; omega)); have q3 := hb5.cell (p := ⟨wr.heap.size, 3, none⟩) (by (simp; omega)); have q4 := hb5.cell (p := ⟨wr.heap.size, 4, none⟩) (by (simp; omega)); have hw := HI4.out.2; have HG := Lib.hid (p := Rd w w5) (g.trans (tr (al (((((hw.setCell (Nat.le_refl _) _).setCell (Nat.le_refl _) _).setCell (Nat.le_refl _) _).setCell (Nat.le_refl _) _).setCell (Nat.le_refl _) _) _) hb5)); obtain ⟨m0, m1, m2, m3, m4⟩ := CP.cells5 HG.out.hr; obtain ⟨n0, n1, n2, n3, n4⟩ := free5 HG.out.hr; have l5 := lt_of_get HG.out.hr))
          go_roundw
          case rel => exact ⟨j + 1, by omega, by go_num, Lib.hid (hnext.out hN.out), HG.out⟩
          case measure => simp [intOf]; omega
      · obtain ⟨A1, A2, A3, A4⟩ := HC.out
        rw [show CM.rdOf 4 x = 0 from rfl, show CM.rs1Of 4 x = a2 from A2, show CM.rs2Of 4 x = a3 from A3, show CM.immOf 4 x = B from HB.out] at cE hres
        have cF := cE (by go_wf) (by go_wf) (by go_wf) (by go_wf)
        simp only [show rk 4 = 66 from rfl, show CO.r2 4 = -1 from rfl] at cO
        clear cE A1 A2 A3 A4
        by_cases hA : A = x
        · have hV := Lib.hid (hres.out (hag.out.1 hA))
          have hA' : (A == x) = true := by simp [hA]
          clear hA hres hag hnext
          go_wp2_with (first
            | (go_at_call 71; (with_reducible refine (cO _).mono ?_); rintro e w4 ⟨rfl, hb4⟩; have hi4 := row1 hb4; obtain ⟨p0, p1, p2, p3, p4⟩ := CP.cells5 hi4.1; obtain ⟨z0, z1, z2, z3, z4⟩ := free5 hi4.1; have hl4 := lt_of_get hi4.1; have HI4 := Lib.hid hi4; clear hi4)
            | (go_at_call 72; (with_reducible refine (d4 _).mono ?_); rintro e w' ⟨rfl, rfl⟩)
            | (go_at_call 52; (with_reducible refine (cF _).mono ?_); rintro e w5 ⟨rfl, hb5⟩; have q0 := hb5.cell (p := ⟨wr.heap.size, 0, none⟩) (by (simp; omega)); have q1 := hb5.cell (p := ⟨wr.heap.size, 1, none⟩) (by (simp; omega)); have q2 := hb5.cell (p := ⟨wr.heap.size, 2, none⟩) (by (simp; omega)); have q3 := hb5.cell (p := ⟨wr.heap.size, 3, none⟩) (by (simp; omega)); have q4 := hb5.cell (p := ⟨wr.heap.size, 4, none⟩) (by (simp; omega)); have hw := HI4.out.2; have HG := Lib.hid (p := Rd w w5) (g.trans (tr (al (((((hw.setCell (Nat.le_refl _) _).setCell (Nat.le_refl _) _).setCell (Nat.le_refl _) _).setCell (Nat.le_refl _) _).setCell (Nat.le_refl _) _) _) hb5)); obtain ⟨m0, m1, m2, m3, m4⟩ := CP.cells5 HG.out.hr; obtain ⟨n0, n1, n2, n3, n4⟩ := free5 HG.out.hr; have l5 := lt_of_get HG.out.hr))
          obtain ⟨e1, e2, e3, e4, e5, e6⟩ := hV.out
          exact bodyPost_ret (v := .tuple #[.agg #[.int .i64 ((j : Int) + 1), .int .i64 0, .int .i64 a2, .int .i64 a3, .int .i64 B], .bool true]) (by simp [results, Try.results47, m0, m1, m2, m3, m4, l5, go_sem]) rfl ⟨by rw [e1, e2, e3, e4, e5, e6]; rfl, sets5 HG.out.below⟩
        · have hN : Hid (CM.hit ((j : Int) + 1) x = false) := Lib.hid (by
            cases hh : CM.hit ((j : Int) + 1) x with
            | true => exact absurd (hag.out.2 hh) hA
            | false => rfl)
          have hA' : (A == x) = false := by simp [hA]
          clear hA hres hag
          go_wp2_with (first
            | (go_at_call 71; (with_reducible refine (cO _).mono ?_); rintro e w4 ⟨rfl, hb4⟩; have hi4 := row1 hb4; obtain ⟨p0, p1, p2, p3, p4⟩ := CP.cells5 hi4.1; obtain ⟨z0, z1, z2, z3, z4⟩ := free5 hi4.1; have hl4 := lt_of_get hi4.1; have HI4 := Lib.hid hi4; clear hi4)
            | (go_at_call 72; (with_reducible refine (d4 _).mono ?_); rintro e w' ⟨rfl, rfl⟩)
            | (go_at_call 52; (with_reducible refine (cF _).mono ?_); rintro e w5 ⟨rfl, hb5⟩; have q0 := hb5.cell (p := ⟨wr.heap.size, 0, none⟩) (by (simp; omega)); have q1 := hb5.cell (p := ⟨wr.heap.size, 1, none⟩) (by (simp; omega)); have q2 := hb5.cell (p := ⟨wr.heap.size, 2, none⟩) (by (simp; omega)); have q3 := hb5.cell (p := ⟨wr.heap.size, 3, none⟩) (by (simp; omega)); have q4 := hb5.cell (p := ⟨wr.heap.size, 4, none⟩) (by (simp; omega)); have hw := HI4.out.2; have HG := Lib.hid (p := Rd w w5) (g.trans (tr (al (((((hw.setCell (Nat.le_refl _) _).setCell (Nat.le_refl _) _).setCell (Nat.le_refl _) _).setCell (Nat.le_refl _) _).setCell (Nat.le_refl _) _) _) hb5)); obtain ⟨m0, m1, m2, m3, m4⟩ := CP.cells5 HG.out.hr; obtain ⟨n0, n1, n2, n3, n4⟩ := free5 HG.out.hr; have l5 := lt_of_get HG.out.hr))
          go_roundw
          case rel => exact ⟨j + 1, by omega, by go_num, Lib.hid (hnext.out hN.out), HG.out⟩
          case measure => simp [intOf]; omega
      · obtain ⟨A1, A2, A3, A4⟩ := HC.out
        rw [show CM.rdOf 5 x = a1 from A1, show CM.rs1Of 5 x = 0 from rfl, show CM.rs2Of 5 x = 0 from rfl, show CM.immOf 5 x = b4 from A4] at cE hres
        have cF := cE (by go_wf) (by go_wf) (by go_wf) (by go_wf)
        simp only [show rk 5 = 85 from rfl, show CO.r2 5 = -1 from rfl] at cO
        clear cE A1 A2 A3 A4
        by_cases hA : A = x
        · have hV := Lib.hid (hres.out (hag.out.1 hA))
          have hA' : (A == x) = true := by simp [hA]
          clear hA hres hag hnext
          go_wp2_with (first
            | (go_at_call 71; (with_reducible refine (cO _).mono ?_); rintro e w4 ⟨rfl, hb4⟩; have hi4 := row1 hb4; obtain ⟨p0, p1, p2, p3, p4⟩ := CP.cells5 hi4.1; obtain ⟨z0, z1, z2, z3, z4⟩ := free5 hi4.1; have hl4 := lt_of_get hi4.1; have HI4 := Lib.hid hi4; clear hi4)
            | (go_at_call 72; (with_reducible refine (d4 _).mono ?_); rintro e w' ⟨rfl, rfl⟩)
            | (go_at_call 52; (with_reducible refine (cF _).mono ?_); rintro e w5 ⟨rfl, hb5⟩; have q0 := hb5.cell (p := ⟨wr.heap.size, 0, none⟩) (by (simp; omega)); have q1 := hb5.cell (p := ⟨wr.heap.size, 1, none⟩) (by (simp; omega)); have q2 := hb5.cell (p := ⟨wr.heap.size, 2, none⟩) (by (simp; omega)); have q3 := hb5.cell (p := ⟨wr.heap.size, 3, none⟩) (by (simp; omega)); have q4 := hb5.cell (p := ⟨wr.heap.size, 4, none⟩) (by (simp; omega)); have hw := HI4.out.2; have HG := Lib.hid (p := Rd w w5) (g.trans (tr (al (((((hw.setCell (Nat.le_refl _) _).setCell (Nat.le_refl _) _).setCell (Nat.le_refl _) _).setCell (Nat.le_refl _) _).setCell (Nat.le_refl _) _) _) hb5)); obtain ⟨m0, m1, m2, m3, m4⟩ := CP.cells5 HG.out.hr; obtain ⟨n0, n1, n2, n3, n4⟩ := free5 HG.out.hr; have l5 := lt_of_get HG.out.hr))
          obtain ⟨e1, e2, e3, e4, e5, e6⟩ := hV.out
          exact bodyPost_ret (v := .tuple #[.agg #[.int .i64 ((j : Int) + 1), .int .i64 a1, .int .i64 0, .int .i64 0, .int .i64 b4], .bool true]) (by simp [results, Try.results47, m0, m1, m2, m3, m4, l5, go_sem]) rfl ⟨by rw [e1, e2, e3, e4, e5, e6]; rfl, sets5 HG.out.below⟩
        · have hN : Hid (CM.hit ((j : Int) + 1) x = false) := Lib.hid (by
            cases hh : CM.hit ((j : Int) + 1) x with
            | true => exact absurd (hag.out.2 hh) hA
            | false => rfl)
          have hA' : (A == x) = false := by simp [hA]
          clear hA hres hag
          go_wp2_with (first
            | (go_at_call 71; (with_reducible refine (cO _).mono ?_); rintro e w4 ⟨rfl, hb4⟩; have hi4 := row1 hb4; obtain ⟨p0, p1, p2, p3, p4⟩ := CP.cells5 hi4.1; obtain ⟨z0, z1, z2, z3, z4⟩ := free5 hi4.1; have hl4 := lt_of_get hi4.1; have HI4 := Lib.hid hi4; clear hi4)
            | (go_at_call 72; (with_reducible refine (d4 _).mono ?_); rintro e w' ⟨rfl, rfl⟩)
            | (go_at_call 52; (with_reducible refine (cF _).mono ?_); rintro e w5 ⟨rfl, hb5⟩; have q0 := hb5.cell (p := ⟨wr.heap.size, 0, none⟩) (by (simp; omega)); have q1 := hb5.cell (p := ⟨wr.heap.size, 1, none⟩) (by (simp; omega)); have q2 := hb5.cell (p := ⟨wr.heap.size, 2, none⟩) (by (simp; omega)); have q3 := hb5.cell (p := ⟨wr.heap.size, 3, none⟩) (by (simp; omega)); have q4 := hb5.cell (p := ⟨wr.heap.size, 4, none⟩) (by (simp; omega)); have hw := HI4.out.2; have HG := Lib.hid (p := Rd w w5) (g.trans (tr (al (((((hw.setCell (Nat.le_refl _) _).setCell (Nat.le_refl _) _).setCell (Nat.le_refl _) _).setCell (Nat.le_refl _) _).setCell (Nat.le_refl _) _) _) hb5)); obtain ⟨m0, m1, m2, m3, m4⟩ := CP.cells5 HG.out.hr; obtain ⟨n0, n1, n2, n3, n4⟩ := free5 HG.out.hr; have l5 := lt_of_get HG.out.hr))
          go_roundw
          case rel => exact ⟨j + 1, by omega, by go_num, Lib.hid (hnext.out hN.out), HG.out⟩
          case measure => simp [intOf]; omega
      · obtain ⟨A1, A2, A3, A4⟩ := HC.out
        rw [show CM.rdOf 6 x = a1 from A1, show CM.rs1Of 6 x = 0 from rfl, show CM.rs2Of 6 x = 0 from rfl, show CM.immOf 6 x = J from HJ.out] at cE hres
        have cF := cE (by go_wf) (by go_wf) (by go_wf) (by go_wf)
        simp only [show rk 6 = 74 from rfl, show CO.r2 6 = -1 from rfl] at cO
        clear cE A1 A2 A3 A4
        by_cases hA : A = x
        · have hV := Lib.hid (hres.out (hag.out.1 hA))
          have hA' : (A == x) = true := by simp [hA]
          clear hA hres hag hnext
          go_wp2_with (first
            | (go_at_call 71; (with_reducible refine (cO _).mono ?_); rintro e w4 ⟨rfl, hb4⟩; have hi4 := row1 hb4; obtain ⟨p0, p1, p2, p3, p4⟩ := CP.cells5 hi4.1; obtain ⟨z0, z1, z2, z3, z4⟩ := free5 hi4.1; have hl4 := lt_of_get hi4.1; have HI4 := Lib.hid hi4; clear hi4)
            | (go_at_call 72; (with_reducible refine (d4 _).mono ?_); rintro e w' ⟨rfl, rfl⟩)
            | (go_at_call 52; (with_reducible refine (cF _).mono ?_); rintro e w5 ⟨rfl, hb5⟩; have q0 := hb5.cell (p := ⟨wr.heap.size, 0, none⟩) (by (simp; omega)); have q1 := hb5.cell (p := ⟨wr.heap.size, 1, none⟩) (by (simp; omega)); have q2 := hb5.cell (p := ⟨wr.heap.size, 2, none⟩) (by (simp; omega)); have q3 := hb5.cell (p := ⟨wr.heap.size, 3, none⟩) (by (simp; omega)); have q4 := hb5.cell (p := ⟨wr.heap.size, 4, none⟩) (by (simp; omega)); have hw := HI4.out.2; have HG := Lib.hid (p := Rd w w5) (g.trans (tr (al (((((hw.setCell (Nat.le_refl _) _).setCell (Nat.le_refl _) _).setCell (Nat.le_refl _) _).setCell (Nat.le_refl _) _).setCell (Nat.le_refl _) _) _) hb5)); obtain ⟨m0, m1, m2, m3, m4⟩ := CP.cells5 HG.out.hr; obtain ⟨n0, n1, n2, n3, n4⟩ := free5 HG.out.hr; have l5 := lt_of_get HG.out.hr))
          obtain ⟨e1, e2, e3, e4, e5, e6⟩ := hV.out
          exact bodyPost_ret (v := .tuple #[.agg #[.int .i64 ((j : Int) + 1), .int .i64 a1, .int .i64 0, .int .i64 0, .int .i64 J], .bool true]) (by simp [results, Try.results47, m0, m1, m2, m3, m4, l5, go_sem]) rfl ⟨by rw [e1, e2, e3, e4, e5, e6]; rfl, sets5 HG.out.below⟩
        · have hN : Hid (CM.hit ((j : Int) + 1) x = false) := Lib.hid (by
            cases hh : CM.hit ((j : Int) + 1) x with
            | true => exact absurd (hag.out.2 hh) hA
            | false => rfl)
          have hA' : (A == x) = false := by simp [hA]
          clear hA hres hag
          go_wp2_with (first
            | (go_at_call 71; (with_reducible refine (cO _).mono ?_); rintro e w4 ⟨rfl, hb4⟩; have hi4 := row1 hb4; obtain ⟨p0, p1, p2, p3, p4⟩ := CP.cells5 hi4.1; obtain ⟨z0, z1, z2, z3, z4⟩ := free5 hi4.1; have hl4 := lt_of_get hi4.1; have HI4 := Lib.hid hi4; clear hi4)
            | (go_at_call 72; (with_reducible refine (d4 _).mono ?_); rintro e w' ⟨rfl, rfl⟩)
            | (go_at_call 52; (with_reducible refine (cF _).mono ?_); rintro e w5 ⟨rfl, hb5⟩; have q0 := hb5.cell (p := ⟨wr.heap.size, 0, none⟩) (by (simp; omega)); have q1 := hb5.cell (p := ⟨wr.heap.size, 1, none⟩) (by (simp; omega)); have q2 := hb5.cell (p := ⟨wr.heap.size, 2, none⟩) (by (simp; omega)); have q3 := hb5.cell (p := ⟨wr.heap.size, 3, none⟩) (by (simp; omega)); have q4 := hb5.cell (p := ⟨wr.heap.size, 4, none⟩) (by (simp; omega)); have hw := HI4.out.2; have HG := Lib.hid (p := Rd w w5) (g.trans (tr (al (((((hw.setCell (Nat.le_refl _) _).setCell (Nat.le_refl _) _).setCell (Nat.le_refl _) _).setCell (Nat.le_refl _) _).setCell (Nat.le_refl _) _) _) hb5)); obtain ⟨m0, m1, m2, m3, m4⟩ := CP.cells5 HG.out.hr; obtain ⟨n0, n1, n2, n3, n4⟩ := free5 HG.out.hr; have l5 := lt_of_get HG.out.hr))
          go_roundw
          case rel => exact ⟨j + 1, by omega, by go_num, Lib.hid (hnext.out hN.out), HG.out⟩
          case measure => simp [intOf]; omega
      · obtain ⟨A1, A2, A3, A4⟩ := HC.out
        rw [show CM.rdOf 7 x = 0 from rfl, show CM.rs1Of 7 x = 0 from rfl, show CM.rs2Of 7 x = 0 from rfl, show CM.immOf 7 x = 0 from rfl] at cE hres
        have cF := cE (by go_wf) (by go_wf) (by go_wf) (by go_wf)
        simp only [show rk 7 = 69 from rfl, show CO.r2 7 = 0 from rfl] at cO
        clear cE A1 A2 A3 A4
        by_cases hA : A = x
        · have hV := Lib.hid (hres.out (hag.out.1 hA))
          have hA' : (A == x) = true := by simp [hA]
          clear hA hres hag hnext
          go_wp2_with (first
            | (go_at_call 71; (with_reducible refine (cO _).mono ?_); rintro e w4 ⟨rfl, hb4⟩; have hi4 := row1 hb4; obtain ⟨p0, p1, p2, p3, p4⟩ := CP.cells5 hi4.1; obtain ⟨z0, z1, z2, z3, z4⟩ := free5 hi4.1; have hl4 := lt_of_get hi4.1; have HI4 := Lib.hid hi4; clear hi4)
            | (go_at_call 72; (with_reducible refine (d4 _).mono ?_); rintro e w' ⟨rfl, rfl⟩)
            | (go_at_call 52; (with_reducible refine (cF _).mono ?_); rintro e w5 ⟨rfl, hb5⟩; have q0 := hb5.cell (p := ⟨wr.heap.size, 0, none⟩) (by (simp; omega)); have q1 := hb5.cell (p := ⟨wr.heap.size, 1, none⟩) (by (simp; omega)); have q2 := hb5.cell (p := ⟨wr.heap.size, 2, none⟩) (by (simp; omega)); have q3 := hb5.cell (p := ⟨wr.heap.size, 3, none⟩) (by (simp; omega)); have q4 := hb5.cell (p := ⟨wr.heap.size, 4, none⟩) (by (simp; omega)); have hw := HI4.out.2; have HG := Lib.hid (p := Rd w w5) (g.trans (tr (al hw _) hb5)); obtain ⟨m0, m1, m2, m3, m4⟩ := CP.cells5 HG.out.hr; obtain ⟨n0, n1, n2, n3, n4⟩ := free5 HG.out.hr; have l5 := lt_of_get HG.out.hr))
          obtain ⟨e1, e2, e3, e4, e5, e6⟩ := hV.out
          exact bodyPost_ret (v := .tuple #[.agg #[.int .i64 ((j : Int) + 1), .int .i64 0, .int .i64 0, .int .i64 0, .int .i64 0], .bool true]) (by simp [results, Try.results47, m0, m1, m2, m3, m4, l5, go_sem]) rfl ⟨by rw [e1, e2, e3, e4, e5, e6]; rfl, sets5 HG.out.below⟩
        · have hN : Hid (CM.hit ((j : Int) + 1) x = false) := Lib.hid (by
            cases hh : CM.hit ((j : Int) + 1) x with
            | true => exact absurd (hag.out.2 hh) hA
            | false => rfl)
          have hA' : (A == x) = false := by simp [hA]
          clear hA hres hag
          go_wp2_with (first
            | (go_at_call 71; (with_reducible refine (cO _).mono ?_); rintro e w4 ⟨rfl, hb4⟩; have hi4 := row1 hb4; obtain ⟨p0, p1, p2, p3, p4⟩ := CP.cells5 hi4.1; obtain ⟨z0, z1, z2, z3, z4⟩ := free5 hi4.1; have hl4 := lt_of_get hi4.1; have HI4 := Lib.hid hi4; clear hi4)
            | (go_at_call 72; (with_reducible refine (d4 _).mono ?_); rintro e w' ⟨rfl, rfl⟩)
            | (go_at_call 52; (with_reducible refine (cF _).mono ?_); rintro e w5 ⟨rfl, hb5⟩; have q0 := hb5.cell (p := ⟨wr.heap.size, 0, none⟩) (by (simp; omega)); have q1 := hb5.cell (p := ⟨wr.heap.size, 1, none⟩) (by (simp; omega)); have q2 := hb5.cell (p := ⟨wr.heap.size, 2, none⟩) (by (simp; omega)); have q3 := hb5.cell (p := ⟨wr.heap.size, 3, none⟩) (by (simp; omega)); have q4 := hb5.cell (p := ⟨wr.heap.size, 4, none⟩) (by (simp; omega)); have hw := HI4.out.2; have HG := Lib.hid (p := Rd w w5) (g.trans (tr (al hw _) hb5)); obtain ⟨m0, m1, m2, m3, m4⟩ := CP.cells5 HG.out.hr; obtain ⟨n0, n1, n2, n3, n4⟩ := free5 HG.out.hr; have l5 := lt_of_get HG.out.hr))
          go_roundw
          case rel => exact ⟨j + 1, by omega, by go_num, Lib.hid (hnext.out hN.out), HG.out⟩
          case measure => simp [intOf]; omega
      · obtain ⟨A1, A2, A3, A4⟩ := HC.out
        rw [show CM.rdOf 8 x = a1 from A1, show CM.rs1Of 8 x = a2 from A2, show CM.rs2Of 8 x = a3 from A3, show CM.immOf 8 x = 0 from rfl] at cE hres
        have cF := cE (by go_wf) (by go_wf) (by go_wf) (by go_wf)
        simp only [show rk 8 = 82 from rfl, show CO.r2 8 = -1 from rfl] at cO
        clear cE A1 A2 A3 A4
        by_cases hA : A = x
        · have hV := Lib.hid (hres.out (hag.out.1 hA))
          have hA' : (A == x) = true := by simp [hA]
          clear hA hres hag hnext
          go_wp2_with (first
            | (go_at_call 71; (with_reducible refine (cO _).mono ?_); rintro e w4 ⟨rfl, hb4⟩; have hi4 := row1 hb4; obtain ⟨p0, p1, p2, p3, p4⟩ := CP.cells5 hi4.1; obtain ⟨z0, z1, z2, z3, z4⟩ := free5 hi4.1; have hl4 := lt_of_get hi4.1; have HI4 := Lib.hid hi4; clear hi4)
            | (go_at_call 72; (with_reducible refine (d4 _).mono ?_); rintro e w' ⟨rfl, rfl⟩)
            | (go_at_call 52; (with_reducible refine (cF _).mono ?_); rintro e w5 ⟨rfl, hb5⟩; have q0 := hb5.cell (p := ⟨wr.heap.size, 0, none⟩) (by (simp; omega)); have q1 := hb5.cell (p := ⟨wr.heap.size, 1, none⟩) (by (simp; omega)); have q2 := hb5.cell (p := ⟨wr.heap.size, 2, none⟩) (by (simp; omega)); have q3 := hb5.cell (p := ⟨wr.heap.size, 3, none⟩) (by (simp; omega)); have q4 := hb5.cell (p := ⟨wr.heap.size, 4, none⟩) (by (simp; omega)); have hw := HI4.out.2; have HG := Lib.hid (p := Rd w w5) (g.trans (tr (al (((hw.setCell (Nat.le_refl _) _).setCell (Nat.le_refl _) _).setCell (Nat.le_refl _) _) _) hb5)); obtain ⟨m0, m1, m2, m3, m4⟩ := CP.cells5 HG.out.hr; obtain ⟨n0, n1, n2, n3, n4⟩ := free5 HG.out.hr; have l5 := lt_of_get HG.out.hr))
          obtain ⟨e1, e2, e3, e4, e5, e6⟩ := hV.out
          exact bodyPost_ret (v := .tuple #[.agg #[.int .i64 ((j : Int) + 1), .int .i64 a1, .int .i64 a2, .int .i64 a3, .int .i64 0], .bool true]) (by simp [results, Try.results47, m0, m1, m2, m3, m4, l5, go_sem]) rfl ⟨by rw [e1, e2, e3, e4, e5, e6]; rfl, sets5 HG.out.below⟩
        · have hN : Hid (CM.hit ((j : Int) + 1) x = false) := Lib.hid (by
            cases hh : CM.hit ((j : Int) + 1) x with
            | true => exact absurd (hag.out.2 hh) hA
            | false => rfl)
          have hA' : (A == x) = false := by simp [hA]
          clear hA hres hag
          go_wp2_with (first
            | (go_at_call 71; (with_reducible refine (cO _).mono ?_); rintro e w4 ⟨rfl, hb4⟩; have hi4 := row1 hb4; obtain ⟨p0, p1, p2, p3, p4⟩ := CP.cells5 hi4.1; obtain ⟨z0, z1, z2, z3, z4⟩ := free5 hi4.1; have hl4 := lt_of_get hi4.1; have HI4 := Lib.hid hi4; clear hi4)
            | (go_at_call 72; (with_reducible refine (d4 _).mono ?_); rintro e w' ⟨rfl, rfl⟩)
            | (go_at_call 52; (with_reducible refine (cF _).mono ?_); rintro e w5 ⟨rfl, hb5⟩; have q0 := hb5.cell (p := ⟨wr.heap.size, 0, none⟩) (by (simp; omega)); have q1 := hb5.cell (p := ⟨wr.heap.size, 1, none⟩) (by (simp; omega)); have q2 := hb5.cell (p := ⟨wr.heap.size, 2, none⟩) (by (simp; omega)); have q3 := hb5.cell (p := ⟨wr.heap.size, 3, none⟩) (by (simp; omega)); have q4 := hb5.cell (p := ⟨wr.heap.size, 4, none⟩) (by (simp; omega)); have hw := HI4.out.2; have HG := Lib.hid (p := Rd w w5) (g.trans (tr (al (((hw.setCell (Nat.le_refl _) _).setCell (Nat.le_refl _) _).setCell (Nat.le_refl _) _) _) hb5)); obtain ⟨m0, m1, m2, m3, m4⟩ := CP.cells5 HG.out.hr; obtain ⟨n0, n1, n2, n3, n4⟩ := free5 HG.out.hr; have l5 := lt_of_get HG.out.hr))
          go_roundw
          case rel => exact ⟨j + 1, by omega, by go_num, Lib.hid (hnext.out hN.out), HG.out⟩
          case measure => simp [intOf]; omega
      · obtain ⟨A1, A2, A3, A4⟩ := HC.out
        rw [show CM.rdOf 9 x = a1 from A1, show CM.rs1Of 9 x = a2 from A2, show CM.rs2Of 9 x = 0 from rfl, show CM.immOf 9 x = 0 from rfl] at cE hres
        have cF := cE (by go_wf) (by go_wf) (by go_wf) (by go_wf)
        simp only [show rk 9 = 82 from rfl, show CO.r2 9 = 32 from rfl] at cO
        clear cE A1 A2 A3 A4
        by_cases hA : A = x
        · have hV := Lib.hid (hres.out (hag.out.1 hA))
          have hA' : (A == x) = true := by simp [hA]
          clear hA hres hag hnext
          go_wp2_with (first
            | (go_at_call 71; (with_reducible refine (cO _).mono ?_); rintro e w4 ⟨rfl, hb4⟩; have hi4 := row1 hb4; obtain ⟨p0, p1, p2, p3, p4⟩ := CP.cells5 hi4.1; obtain ⟨z0, z1, z2, z3, z4⟩ := free5 hi4.1; have hl4 := lt_of_get hi4.1; have HI4 := Lib.hid hi4; clear hi4)
            | (go_at_call 72; (with_reducible refine (d4 _).mono ?_); rintro e w' ⟨rfl, rfl⟩)
            | (go_at_call 52; (with_reducible refine (cF _).mono ?_); rintro e w5 ⟨rfl, hb5⟩; have q0 := hb5.cell (p := ⟨wr.heap.size, 0, none⟩) (by (simp; omega)); have q1 := hb5.cell (p := ⟨wr.heap.size, 1, none⟩) (by (simp; omega)); have q2 := hb5.cell (p := ⟨wr.heap.size, 2, none⟩) (by (simp; omega)); have q3 := hb5.cell (p := ⟨wr.heap.size, 3, none⟩) (by (simp; omega)); have q4 := hb5.cell (p := ⟨wr.heap.size, 4, none⟩) (by (simp; omega)); have hw := HI4.out.2; have HG := Lib.hid (p := Rd w w5) (g.trans (tr (al ((hw.setCell (Nat.le_refl _) _).setCell (Nat.le_refl _) _) _) hb5)); obtain ⟨m0, m1, m2, m3, m4⟩ := CP.cells5 HG.out.hr; obtain ⟨n0, n1, n2, n3, n4⟩ := free5 HG.out.hr; have l5 := lt_of_get HG.out.hr))
          obtain ⟨e1, e2, e3, e4, e5, e6⟩ := hV.out
          exact bodyPost_ret (v := .tuple #[.agg #[.int .i64 ((j : Int) + 1), .int .i64 a1, .int .i64 a2, .int .i64 0, .int .i64 0], .bool true]) (by simp [results, Try.results47, m0, m1, m2, m3, m4, l5, go_sem]) rfl ⟨by rw [e1, e2, e3, e4, e5, e6]; rfl, sets5 HG.out.below⟩
        · have hN : Hid (CM.hit ((j : Int) + 1) x = false) := Lib.hid (by
            cases hh : CM.hit ((j : Int) + 1) x with
            | true => exact absurd (hag.out.2 hh) hA
            | false => rfl)
          have hA' : (A == x) = false := by simp [hA]
          clear hA hres hag
          go_wp2_with (first
            | (go_at_call 71; (with_reducible refine (cO _).mono ?_); rintro e w4 ⟨rfl, hb4⟩; have hi4 := row1 hb4; obtain ⟨p0, p1, p2, p3, p4⟩ := CP.cells5 hi4.1; obtain ⟨z0, z1, z2, z3, z4⟩ := free5 hi4.1; have hl4 := lt_of_get hi4.1; have HI4 := Lib.hid hi4; clear hi4)
            | (go_at_call 72; (with_reducible refine (d4 _).mono ?_); rintro e w' ⟨rfl, rfl⟩)
            | (go_at_call 52; (with_reducible refine (cF _).mono ?_); rintro e w5 ⟨rfl, hb5⟩; have q0 := hb5.cell (p := ⟨wr.heap.size, 0, none⟩) (by (simp; omega)); have q1 := hb5.cell (p := ⟨wr.heap.size, 1, none⟩) (by (simp; omega)); have q2 := hb5.cell (p := ⟨wr.heap.size, 2, none⟩) (by (simp; omega)); have q3 := hb5.cell (p := ⟨wr.heap.size, 3, none⟩) (by (simp; omega)); have q4 := hb5.cell (p := ⟨wr.heap.size, 4, none⟩) (by (simp; omega)); have hw := HI4.out.2; have HG := Lib.hid (p := Rd w w5) (g.trans (tr (al ((hw.setCell (Nat.le_refl _) _).setCell (Nat.le_refl _) _) _) hb5)); obtain ⟨m0, m1, m2, m3, m4⟩ := CP.cells5 HG.out.hr; obtain ⟨n0, n1, n2, n3, n4⟩ := free5 HG.out.hr; have l5 := lt_of_get HG.out.hr))
          go_roundw
          case rel => exact ⟨j + 1, by omega, by go_num, Lib.hid (hnext.out hN.out), HG.out⟩
          case measure => simp [intOf]; omega
      · obtain ⟨A1, A2, A3, A4⟩ := HC.out
        rw [show CM.rdOf 10 x = a1 from A1, show CM.rs1Of 10 x = a2 from A2, show CM.rs2Of 10 x = 0 from rfl, show CM.immOf 10 x = 0 from rfl] at cE hres
        have cF := cE (by go_wf) (by go_wf) (by go_wf) (by go_wf)
        simp only [show rk 10 = 82 from rfl, show CO.r2 10 = 0 from rfl] at cO
        clear cE A1 A2 A3 A4
        by_cases hA : A = x
        · have hV := Lib.hid (hres.out (hag.out.1 hA))
          have hA' : (A == x) = true := by simp [hA]
          clear hA hres hag hnext
          go_wp2_with (first
            | (go_at_call 71; (with_reducible refine (cO _).mono ?_); rintro e w4 ⟨rfl, hb4⟩; have hi4 := row1 hb4; obtain ⟨p0, p1, p2, p3, p4⟩ := CP.cells5 hi4.1; obtain ⟨z0, z1, z2, z3, z4⟩ := free5 hi4.1; have hl4 := lt_of_get hi4.1; have HI4 := Lib.hid hi4; clear hi4)
            | (go_at_call 72; (with_reducible refine (d4 _).mono ?_); rintro e w' ⟨rfl, rfl⟩)
            | (go_at_call 52; (with_reducible refine (cF _).mono ?_); rintro e w5 ⟨rfl, hb5⟩; have q0 := hb5.cell (p := ⟨wr.heap.size, 0, none⟩) (by (simp; omega)); have q1 := hb5.cell (p := ⟨wr.heap.size, 1, none⟩) (by (simp; omega)); have q2 := hb5.cell (p := ⟨wr.heap.size, 2, none⟩) (by (simp; omega)); have q3 := hb5.cell (p := ⟨wr.heap.size, 3, none⟩) (by (simp; omega)); have q4 := hb5.cell (p := ⟨wr.heap.size, 4, none⟩) (by (simp; omega)); have hw := HI4.out.2; have HG := Lib.hid (p := Rd w w5) (g.trans (tr (al ((hw.setCell (Nat.le_refl _) _).setCell (Nat.le_refl _) _) _) hb5)); obtain ⟨m0, m1, m2, m3, m4⟩ := CP.cells5 HG.out.hr; obtain ⟨n0, n1, n2, n3, n4⟩ := free5 HG.out.hr; have l5 := lt_of_get HG.out.hr))
          obtain ⟨e1, e2, e3, e4, e5, e6⟩ := hV.out
          exact bodyPost_ret (v := .tuple #[.agg #[.int .i64 ((j : Int) + 1), .int .i64 a1, .int .i64 a2, .int .i64 0, .int .i64 0], .bool true]) (by simp [results, Try.results47, m0, m1, m2, m3, m4, l5, go_sem]) rfl ⟨by rw [e1, e2, e3, e4, e5, e6]; rfl, sets5 HG.out.below⟩
        · have hN : Hid (CM.hit ((j : Int) + 1) x = false) := Lib.hid (by
            cases hh : CM.hit ((j : Int) + 1) x with
            | true => exact absurd (hag.out.2 hh) hA
            | false => rfl)
          have hA' : (A == x) = false := by simp [hA]
          clear hA hres hag
          go_wp2_with (first
            | (go_at_call 71; (with_reducible refine (cO _).mono ?_); rintro e w4 ⟨rfl, hb4⟩; have hi4 := row1 hb4; obtain ⟨p0, p1, p2, p3, p4⟩ := CP.cells5 hi4.1; obtain ⟨z0, z1, z2, z3, z4⟩ := free5 hi4.1; have hl4 := lt_of_get hi4.1; have HI4 := Lib.hid hi4; clear hi4)
            | (go_at_call 72; (with_reducible refine (d4 _).mono ?_); rintro e w' ⟨rfl, rfl⟩)
            | (go_at_call 52; (with_reducible refine (cF _).mono ?_); rintro e w5 ⟨rfl, hb5⟩; have q0 := hb5.cell (p := ⟨wr.heap.size, 0, none⟩) (by (simp; omega)); have q1 := hb5.cell (p := ⟨wr.heap.size, 1, none⟩) (by (simp; omega)); have q2 := hb5.cell (p := ⟨wr.heap.size, 2, none⟩) (by (simp; omega)); have q3 := hb5.cell (p := ⟨wr.heap.size, 3, none⟩) (by (simp; omega)); have q4 := hb5.cell (p := ⟨wr.heap.size, 4, none⟩) (by (simp; omega)); have hw := HI4.out.2; have HG := Lib.hid (p := Rd w w5) (g.trans (tr (al ((hw.setCell (Nat.le_refl _) _).setCell (Nat.le_refl _) _) _) hb5)); obtain ⟨m0, m1, m2, m3, m4⟩ := CP.cells5 HG.out.hr; obtain ⟨n0, n1, n2, n3, n4⟩ := free5 HG.out.hr; have l5 := lt_of_get HG.out.hr))
          go_roundw
          case rel => exact ⟨j + 1, by omega, by go_num, Lib.hid (hnext.out hN.out), HG.out⟩
          case measure => simp [intOf]; omega
    · obtain rfl : j = 55 := by omega
      have H0 := CM.dec_none (w := x) (fun op => by
        cases h : CM.isOp op with
        | true => have := CM.isOp_yes h; exact hh.out op this.1 (by omega)
        | false => simp [CM.hit, h])
      have HV : Hid (iv (dOp x) (dRd x) (dRs1 x) (dRs2 x) (dImm x) = #[.int .i64 0, .int .i64 0, .int .i64 0, .int .i64 0, .int .i64 0] ∧ (!(CM.dec x == 0)) = false) := Lib.hid ⟨by simp [dOp, dRd, dRs1, dRs2, dImm, H0, iv], by simp [H0]⟩
      clear H0 hh
      obtain ⟨m0, m1, m2, m3, m4⟩ := CP.cells5 g.hr
      obtain ⟨n0, n1, n2, n3, n4⟩ := free5 g.hr
      have l5 := lt_of_get g.hr
      go_wp2
      exact bodyPost_ret (v := .tuple #[.agg #[.int .i64 0, .int .i64 0, .int .i64 0, .int .i64 0, .int .i64 0], .bool false]) (by simp [results, Try.results47, m0, m1, m2, m3, m4, l5, go_sem]) rfl ⟨by rw [HV.out.1, HV.out.2], sets5 g.below⟩
end CT
end Go.Proofs.Ytieehjkmfmkfjaa
