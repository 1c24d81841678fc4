/-
  What package code finds wrong with an instruction's parts, a contract. Conditions: the kind is one of the eleven.
-/
import Derived.Test.YtlmblfkcmhgdaaaGreatCodeQi
namespace Go.Proofs.YtlmblfkcmhgdaaaGreat
open Go.RowKit
set_option linter.unusedVariables false
set_option linter.unusedSimpArgs false
namespace CV
open CC CW
/-- is part n not used, and not 0? -/
def bad (u p : Nat → Int) (n : Nat) : Bool := u (15 * n + 2) == 0 && p n != 0
/-- is it used, and outside? -/
def out (u p : Nat → Int) (n : Nat) : Bool := u (15 * n + 2) != 0 && !CG.holds (u (15 * n)) (u (15 * n + 1)) (u (15 * n + 2)) (p n)
def st (u p : Nat → Int) : Nat → Int
  | 0 => 0
  | n + 1 => if out u p n then 1 else st u p n
def faultG (u p : Nat → Int) : Int := if bad u p 0 || bad u p 1 || bad u p 2 || bad u p 3 then 2 else st u p 4
theorem faultG_bad {u p : Nat → Int} {n : Nat} (hn : n < 4) (h : bad u p n = true) : faultG u p = 2 := by
  unfold faultG
  rcases (show n = 0 ∨ n = 1 ∨ n = 2 ∨ n = 3 by omega) with e | e | e | e <;> subst e <;> simp [h]
theorem faultG_st {u p : Nat → Int} (h : ∀ n, n < 4 → bad u p n = false) : faultG u p = st u p 4 := by
  unfold faultG
  rw [h 0 (by omega), h 1 (by omega), h 2 (by omega), h 3 (by omega)]; rfl
theorem st_out {u p : Nat → Int} {n : Nat} (h : out u p n = true) : st u p (n + 1) = 1 := by rw [st, if_pos h]
theorem st_in {u p : Nat → Int} {n : Nat} (h : out u p n = false) : st u p (n + 1) = st u p n := by rw [st, h]; rfl
theorem grdrew {w wr : World} {bi bu : Nat} {k : Int} {I : Array Value} (g : Gr w wr bi bu k I) : Gr w wr.drew bi bu k I := ⟨g.hi, g.hu, ⟨g.below.os, g.below.tape, g.below.output, g.below.size, g.below.block⟩⟩
theorem gr_box (w w2 : World) (k : Int) (I : Array Value) (hb : Below ((w.alloc (.cells (CM.uA k) 211)).alloc (.cells I 54)).heap.size ((w.alloc (.cells (CM.uA k) 211)).alloc (.cells I 54)) w2) : Gr w w2 (w.heap.size + 1) w.heap.size k I := by
  refine ⟨?_, ?_, ?_⟩
  · rw [hb.block _ (by simp only [World.size_alloc]; omega)]
    exact newAt _ _ _ (by simp)
  · rw [hb.block _ (by simp only [World.size_alloc]; omega), Below.heap_alloc _ _ _ (by simp only [World.size_alloc]; omega)]
    exact newAt _ _ _ rfl
  · exact (((Below.refl _ _).alloc (Nat.le_refl _) _).alloc (by simp) _).trans (hb.mono (by simp; omega))
/-- a use's cells, its least, most and step by name -/
def cs15 (L M S k : Int) (n : Nat) : Array Value := #[.int .i64 L, .int .i64 M, .int .i64 S, .int .i64 (CM.uv k (15 * n + 3)), .int .i64 (CM.uv k (15 * n + 4)), .int .i64 (CM.uv k (15 * n + 5)), .int .i64 (CM.uv k (15 * n + 6)), .int .i64 (CM.uv k (15 * n + 7)), .int .i64 (CM.uv k (15 * n + 8)), .int .i64 (CM.uv k (15 * n + 9)), .int .i64 (CM.uv k (15 * n + 10)), .int .i64 (CM.uv k (15 * n + 11)), .int .i64 (CM.uv k (15 * n + 12)), .int .i64 (CM.uv k (15 * n + 13)), .int .i64 (CM.uv k (15 * n + 14))]
set_option maxHeartbeats 8000000 in
theorem fault_ (k op rd rs1 rs2 imm : Int) (h0 : 0 ≤ k) (h1 : k ≤ 10) (hl : Hid ((CM.ul k.toNat).length = 60)) (w : World) :
    Calls Tryz.prog 120 #[.agg (CM.uA k), .agg (iv op rd rs1 rs2 imm)] w fun e w' =>
      e = .returned (.int .i64 (faultG (CM.uv k) (CW.part rd rs1 rs2 imm))) ∧ Below w.heap.size w w' := by
  go_enter Tryz.func120, Tryz.ntmps120
  go_wp2_with (go_at_call 143; refine (CG.fields_ _ _).mono ?_; rintro e w2 ⟨rfl, hb2⟩)
  have g := gr_box w w2 k _ hb2
  clear hb2
  obtain ⟨bi, hbi⟩ : ∃ bi, bi = w.heap.size + 1 := ⟨_, rfl⟩
  rw [← hbi] at g
  rw [← hbi]
  clear hbi
  go_loopw [5, 9] (fun s5 s9 wr => ∃ n : Nat, n ≤ 4 ∧ s9 = .int .i64 n ∧ s5 = .int .i64 (st (CM.uv k) (CW.part rd rs1 rs2 imm) n) ∧ Hid (∀ m, m < n → bad (CM.uv k) (CW.part rd rs1 rs2 imm) m = false) ∧ Gr w wr bi w.heap.size k (iv op rd rs1 rs2 imm)) (fun _ s9 _ => 4 - (intOf s9).toNat)
  case atStart => exact ⟨0, by omega, rfl, rfl, Lib.hid (fun m h => absurd h (by omega)), g⟩
  case round =>
    clear g
    obtain ⟨n, hn, rfl, rfl, hb, g⟩ := hrel
    by_cases hlt : n < 4
    · have hix : ∀ w, (Instr.index 233 (.agg #[.pointer (some ⟨bi, 1, none⟩), .pointer (some ⟨bi, 2, none⟩), .pointer (some ⟨bi, 3, none⟩), .pointer (some ⟨bi, 4, none⟩)]) (.int .i64 n)).run Tryz.prog w = .ok (.pointer (some ⟨bi, n + 1, none⟩)) w := by
        rcases (show n = 0 ∨ n = 1 ∨ n = 2 ∨ n = 3 by omega) with h | h | h | h <;> subst h <;> intro w <;> kernel_rfl
      have hc := part_cell g n hlt
      have hbi := lt_of_get g.hi
      have hbuz := lt_of_get g.hu
      have u0 := CI.use_cell hl.out g.hu n hlt 0 (by omega)
      have u1 := CI.use_cell hl.out g.hu n hlt 1 (by omega)
      have u2 := CI.use_cell hl.out g.hu n hlt 2 (by omega)
      have u3 := CI.use_cell hl.out g.hu n hlt 3 (by omega)
      have u4 := CI.use_cell hl.out g.hu n hlt 4 (by omega)
      have u5 := CI.use_cell hl.out g.hu n hlt 5 (by omega)
      have u6 := CI.use_cell hl.out g.hu n hlt 6 (by omega)
      have u7 := CI.use_cell hl.out g.hu n hlt 7 (by omega)
      have u8 := CI.use_cell hl.out g.hu n hlt 8 (by omega)
      have u9 := CI.use_cell hl.out g.hu n hlt 9 (by omega)
      have u10 := CI.use_cell hl.out g.hu n hlt 10 (by omega)
      have u11 := CI.use_cell hl.out g.hu n hlt 11 (by omega)
      have u12 := CI.use_cell hl.out g.hu n hlt 12 (by omega)
      have u13 := CI.use_cell hl.out g.hu n hlt 13 (by omega)
      have u14 := CI.use_cell hl.out g.hu n hlt 14 (by omega)
      simp only [Nat.add_zero] at u0
      obtain ⟨s0, s1, -⟩ := CI.use_bd h0 h1 n hlt
      have HB := Lib.hid (show bad (CM.uv k) (CW.part rd rs1 rs2 imm) n = (CM.uv k (15 * n + 2) == 0 && CW.part rd rs1 rs2 imm n != 0) from rfl)
      have HO := Lib.hid (show out (CM.uv k) (CW.part rd rs1 rs2 imm) n = (CM.uv k (15 * n + 2) != 0 && !CG.holds (CM.uv k (15 * n)) (CM.uv k (15 * n + 1)) (CM.uv k (15 * n + 2)) (CW.part rd rs1 rs2 imm n)) from rfl)
      generalize CM.uv k (15 * n) = L at *
      generalize CM.uv k (15 * n + 1) = M at *
      generalize CM.uv k (15 * n + 2) = S at *
      generalize CW.part rd rs1 rs2 imm n = X at *
      by_cases c0 : S = 0
      · subst c0
        have ci := fun w => CG.is' (cs15 L M 0 k n) 0 rfl w
        rw [show ((0 : Int) != 0) = false from rfl] at ci
        by_cases cx : X = 0
        · subst cx
          have HB' : Hid (∀ m, m < n + 1 → bad (CM.uv k) (CW.part rd rs1 rs2 imm) m = false) := Lib.hid (fun m hm => by
            rcases (show m < n ∨ m = n by omega) with h | h
            · exact hb.out m h
            · subst h; rw [HB.out]; rfl)
          have HS := Lib.hid (st_in (u := CM.uv k) (p := CW.part rd rs1 rs2 imm) (n := n) (by rw [HO.out]; rfl))
          go_wp2_with (go_at_call 144; refine (ci _).mono ?_; rintro e w' ⟨rfl, rfl⟩)
          first
            | (go_region_with (go_at_call 144; refine (ci _).mono ?_; rintro e w' ⟨rfl, rfl⟩))
            | fail "the region"
          all_goals
            go_wp2
            go_roundw
            case rel => exact ⟨n + 1, by omega, by go_num, by rw [HS.out], HB', grdrew ((g.alloc _).alloc _)⟩
            case measure => simp [intOf]; omega
        · have HF := Lib.hid (faultG_bad (u := CM.uv k) (p := CW.part rd rs1 rs2 imm) hlt (by rw [HB.out]; simp [cx]))
          go_wp2_with (go_at_call 144; refine (ci _).mono ?_; rintro e w' ⟨rfl, rfl⟩)
          go_ret
          exact ⟨ret_int HF.out.symm, (g.alloc _).below⟩
      · have c0' : (S != 0) = true := by simp [c0]
        have ci := fun w => CG.is' (cs15 L M S k n) S rfl w
        rw [c0'] at ci
        have ch := fun w => CG.holds_ (cs15 L M S k n) rfl L M S X rfl rfl rfl (by omega) w
        have HB' : Hid (∀ m, m < n + 1 → bad (CM.uv k) (CW.part rd rs1 rs2 imm) m = false) := Lib.hid (fun m hm => by
          rcases (show m < n ∨ m = n by omega) with h | h
          · exact hb.out m h
          · subst h; rw [HB.out]; simp [c0])
        rw [c0'] at HO
        cases hh : CG.holds L M S X with
        | true =>
          rw [hh] at ch HO
          have HS := Lib.hid (st_in (u := CM.uv k) (p := CW.part rd rs1 rs2 imm) (n := n) (by rw [HO.out]; rfl))
          clear hh c0'
          go_wp2_with (go_at_call 144; refine (ci _).mono ?_; rintro e w' ⟨rfl, rfl⟩)
          go_region_with (first | (go_at_call 144; refine (ci _).mono ?_; rintro e w' ⟨rfl, rfl⟩) | (go_at_call 145; refine (ch _).mono ?_; rintro e w' ⟨rfl, rfl⟩))
          all_goals
            go_wp2
            go_roundw
            case rel => exact ⟨n + 1, by omega, by go_num, by rw [HS.out], HB', grdrew ((((g.alloc _).alloc _).alloc _).alloc _)⟩
            case measure => simp [intOf]; omega
        | false =>
          rw [hh] at ch HO
          have HS := Lib.hid (st_out (u := CM.uv k) (p := CW.part rd rs1 rs2 imm) (n := n) (by rw [HO.out]; rfl))
          clear hh c0'
          go_wp2_with (go_at_call 144; refine (ci _).mono ?_; rintro e w' ⟨rfl, rfl⟩)
          go_region_with (first | (go_at_call 144; refine (ci _).mono ?_; rintro e w' ⟨rfl, rfl⟩) | (go_at_call 145; refine (ch _).mono ?_; rintro e w' ⟨rfl, rfl⟩))
          all_goals
            go_wp2
            go_roundw
            case rel => exact ⟨n + 1, by omega, by go_num, by rw [HS.out], HB', grdrew ((((g.alloc _).alloc _).alloc _).alloc _)⟩
            case measure => simp [intOf]; omega
    · obtain rfl : n = 4 := by omega
      have HF := Lib.hid (faultG_st (u := CM.uv k) (p := CW.part rd rs1 rs2 imm) (fun m h => hb.out m h))
      go_wp2
      go_ret
      exact ⟨ret_int HF.out.symm, g.below⟩
end CV
end Go.Proofs.YtlmblfkcmhgdaaaGreat
