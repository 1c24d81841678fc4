/-
  Decimals in memory, moved to the left. Condition: Go's own table lies.
-/
import Derived.Test.YtldglmehchkbeaaGreatDoorLexBi
import Derived.Deep.LoopGhost
import Derived.Deep.DeepMust
namespace Go.Proofs.YtldglmehchkbeaaGreatDoor
open Go.RowKit
set_option linter.unusedVariables false
set_option linter.unusedSimpArgs false
namespace LxC
open Lx
theorem arr800 : Tryz.prog.arrayLen 180 = 800 := by kernel_rfl
theorem und800 : Tryz.prog.underlying 180 = some (TypeDesc.array (Tryz.prog.arrayLen 180) (Tryz.prog.elem 180)) := by kernel_rfl
theorem slice_ (G nd : Nat) (h : nd ≤ 800) (w : World) : (Instr.sliceAt 180 (.pointer (some ⟨G, 0, none⟩)) (some (.int .i64 0)) (some (.int .i64 (nd : Int))) none).run Tryz.prog w = .ok (.slice (some ⟨G, 0, none⟩) nd 800) w := by
  have hz : (Go.sizeOf (Tryz.prog.elem 180)).run Tryz.prog w = .ok 1 w := by kernel_rfl
  have h2 : (nd : Int) ≤ Tryz.prog.arrayLen 180 := by rw [arr800]; exact_mod_cast h
  rw [run_sliceAt_array_lh w 180 _ und800 .i64 .i64 0 (nd : Int) (Int.le_refl 0) (by omega) h2]
  rw [hz]
  unfold slicedAt
  rw [arr800]
  show Result.ok (Value.slice (some (if 800 = 0 then _ else _)) _ _) w = _
  simp [Addr.add]
/-- what is put down, from the place r + e on -/
structure LMid (c c1 : Nat → Nat) (r e nd : Nat) : Prop where
  old : ∀ i, i < r → c1 i = c i
  lo : ∀ i, r + e ≤ i → i < nd + e → i < 800 → 48 ≤ c1 i
  hi : ∀ i, r + e ≤ i → i < nd + e → i < 800 → c1 i ≤ 57
  top : r = 0 → e = 0 → 49 ≤ c1 0 ∧ 2 * (c 0 - 48) ≤ c1 0 - 48
theorem LMid.set {c c1 : Nat → Nat} {j e nd n : Nat} (h : LMid c c1 (j + 1) e nd) (ht : j = 0 → e = 0 → n < 10 ∧ 1 ≤ n ∧ 2 * (c 0 - 48) ≤ n) : LMid c (upd c1 (j + e) (n % 10 + 48)) j e nd := by
  have hx := Nat.mod_lt n (show 0 < 10 by omega)
  refine ⟨fun i hi => ?_, fun i h1 h2 h3 => ?_, fun i h1 h2 h3 => ?_, fun h1 h2 => ?_⟩
  · rw [upd_ne _ _ (by omega)]; exact h.old i (by omega)
  · by_cases hij : i = j + e
    · subst hij; rw [upd_same]; omega
    · rw [upd_ne _ _ hij]; exact h.lo i (by omega) h2 h3
  · by_cases hij : i = j + e
    · subst hij; rw [upd_same]; omega
    · rw [upd_ne _ _ hij]; exact h.hi i (by omega) h2 h3
  · obtain ⟨a1, a2, a3⟩ := ht h1 h2
    subst h1 h2
    rw [upd_same, Nat.mod_eq_of_lt a1]
    omega
theorem LMid.skip {c c1 : Nat → Nat} {j e nd : Nat} (h : LMid c c1 (j + 1) e nd) (h8 : 800 ≤ j + e) : LMid c c1 j e nd :=
  ⟨fun i hi => h.old i (by omega), fun i h1 h2 h3 => by omega, fun i h1 h2 h3 => by omega, fun h1 h2 => by omega⟩
theorem u64w (x : Int) (h0 : 0 ≤ x) (h1 : x < 18446744073709551616) : IntKind.u64.wrap x = x := by
  simp [IntKind.wrap, IntKind.bits, IntKind.signed]; omega
/-- what is put down of what is carried over ahead of all -/
structure LEnd (c c1 : Nat → Nat) (x e nd : Nat) : Prop where
  lo : ∀ i, x ≤ i → i < nd + e → i < 800 → 48 ≤ c1 i
  hi : ∀ i, x ≤ i → i < nd + e → i < 800 → c1 i ≤ 57
  top : x = 0 → 49 ≤ c1 0 ∧ (e = 0 → 2 * (c 0 - 48) ≤ c1 0 - 48)
theorem LMid.last {c c1 : Nat → Nat} {e nd : Nat} (h : LMid c c1 0 e nd) : LEnd c c1 e e nd :=
  ⟨fun i h1 h2 h3 => h.lo i (by omega) h2 h3, fun i h1 h2 h3 => h.hi i (by omega) h2 h3, fun h1 => ⟨(h.top rfl h1).1, fun _ => (h.top rfl h1).2⟩⟩
theorem LEnd.set {c c1 : Nat → Nat} {y e nd n : Nat} (h : LEnd c c1 (y + 1) e nd) (hye : y + 1 ≤ e) (h1 : n < 10 ^ (y + 1)) (h2 : 10 ^ y ≤ n) : LEnd c (upd c1 y (n % 10 + 48)) y e nd := by
  have hx := Nat.mod_lt n (show 0 < 10 by omega)
  refine ⟨fun i a1 a2 a3 => ?_, fun i a1 a2 a3 => ?_, fun a1 => ⟨?_, fun a2 => by omega⟩⟩
  · by_cases hij : i = y
    · subst hij; rw [upd_same]; omega
    · rw [upd_ne _ _ hij]; exact h.lo i (by omega) a2 a3
  · by_cases hij : i = y
    · subst hij; rw [upd_same]; omega
    · rw [upd_ne _ _ hij]; exact h.hi i (by omega) a2 a3
  · subst a1
    rw [upd_same, Nat.mod_eq_of_lt (by omega)]
    have : 10 ^ 0 = 1 := rfl
    omega
theorem div10 {y n : Nat} (h1 : n < 10 ^ (y + 1)) (h2 : 10 ^ y ≤ n) : n / 10 < 10 ^ y ∧ (1 ≤ y → 10 ^ (y - 1) ≤ n / 10) := by
  rw [Nat.pow_succ] at h1
  refine ⟨by omega, fun hy => ?_⟩
  obtain ⟨z, rfl⟩ : ∃ z, y = z + 1 := ⟨y - 1, by omega⟩
  rw [Nat.pow_succ] at h2
  rw [Nat.add_sub_cancel]
  omega
def LeftPost (G nd : Nat) (c : Nat → Nat) (dp : Int) (ng : Bool) (w : World) (e : Ending) (w' : World) : Prop := e = .returned (.tuple #[]) ∧ (∃ (c' : Nat → Nat) (nd' δ : Nat) (tr' : Bool), DcAt w' G c' nd' (dp + (δ : Int)) ng tr' ∧ Vd c' nd' ∧ δ ≤ 19 ∧ (δ = 0 → 2 * (c 0 - 48) ≤ c' 0 - 48)) ∧ Below G w w'
set_option maxRecDepth 100000 in
set_option maxHeartbeats 8000000 in
theorem left_ (w : World) (G nd k : Nat) (c : Nat → Nat) (dp : Int) (ng tr : Bool) (h : DcAt w G c nd dp ng tr) (hv : Vd c nd) (hk1 : 1 ≤ k) (hk2 : k ≤ 60) (hC : Cheats w) (hdp1 : -1000000000 ≤ dp) (hdp2 : dp ≤ 1000000000) :
    Calls Tryz.prog 177 #[.pointer (some ⟨G, 0, none⟩), .int .u64 (k : Int)] w (LeftPost G nd c dp ng w) := by
  obtain ⟨p, o, cp, hg, hall⟩ := hC
  obtain ⟨d, S, hd, hS, hd19, hS50, hS48, hch⟩ := hall k (by omega)
  obtain ⟨hch, hd1⟩ := hch hk1
  have hlf := Dc.left_facts (k := k) (d := fun i => c i - 48) (N := nd) (nd := nd) hch (fun i hi => by have := hv.hi i hi; show c i - 48 ≤ 9; omega) hv.one (Nat.le_refl _) (by have := hv.top; show 1 ≤ c 0 - 48; omega) hk1
  have HLF := Lib.hid hlf
  have cl := fun n => less_ (w.drewN n) G nd c dp ng tr S (h.draws n) hv hS48 (by omega)
  have cl2 : ∀ n, Calls Tryz.prog 182 #[.slice (some ⟨G, 0, none⟩) nd 800, .string S] (w.drewN n) fun e w' => e = .returned (.bool (Dc.less (bytesOf c nd) (digsOf S))) ∧ ∃ m, w' = (w.drewN n).drewN m := cl
  have H0 := Lib.hid h
  have HV := Lib.hid hv
  have hnd1 := hv.one
  have hnd8 := hv.most
  have hp : 2 ^ k ≤ 2 ^ 60 := Nat.pow_le_pow_right (by omega) hk2
  have k0 := h.nd_
  have hS0 : w.cell? ⟨p, o + k * 2 + 1, none⟩ = some (.string S) := by rw [Nat.add_assoc]; exact hS
  clear cl h hv hlf hch hall hS
  have hsl := fun n => slice_ G nd hnd8 (w.drewN n)
  have kk1 : (k : Int) < 61 := by omega
  have kk0 : (0 : Int) ≤ (k : Int) := by omega
  cases hl : Dc.less (bytesOf c nd) (digsOf S)
  · rw [hl] at cl2
    obtain ⟨e, he⟩ : ∃ e, e = d := ⟨d, rfl⟩
    have HL2 : Hid (Dc.delta d (Dc.dl (fun i => c i - 48) 0 nd) (digsOf S) = e) := by
      show Dc.delta d (Dc.dl (fun i => c i - 48) 0 nd) (digsOf S) = e
      have hl' : Dc.less (Dc.dl (fun i => c i - 48) 0 nd) (digsOf S) = false := hl
      unfold Dc.delta; rw [hl', he]; rfl
    clear hl
    go_enter Tryz.func177, Tryz.ntmps177
    go_wp2
    go_quiet ((go_at_call 182; exact Calls.quiet_of (cl2 _)))
    go_wp2
    subst he
    clear cl2 hsl hg hd hS0 k0
    obtain ⟨N, hN⟩ : ∃ N : Nat → Nat, N = Dc.cy (fun i => c i - 48) k nd := ⟨_, rfl⟩
    have HNs : Hid (∀ j, j < nd → N j = (N (j + 1) + (c j - 48) * 2 ^ k) / 10) := fun j hj => by rw [hN]; exact Dc.cy_step _ k nd j hj
    have HNl : Hid (∀ j, j ≤ nd → N j < 2 ^ k) := fun j hj => by rw [hN]; exact Dc.cy_lt (d := fun i => c i - 48) (N := nd) (fun i hi => by have := HV.out.hi i hi; show c i - 48 ≤ 9; omega) k nd j hj (Nat.le_refl _)
    have HN0 : Hid (N nd = 0) := by rw [hN]; exact Dc.cy_end _ k nd
    have HN1 : Hid (N 1 = Dc.cy (fun i => c i - 48) k nd 1) := by rw [hN]; exact rfl
    have HN2 : Hid (N 0 = Dc.cy (fun i => c i - 48) k nd 0) := by rw [hN]; exact rfl
    clear hN
    have hp2 : 2 ^ k ≤ 1152921504606846976 := hp
    have HP := Lib.hid hp2
    clear hp hp2
    go_loopg [5, 6, 7] nd (fun gg v5 v6 v7 wr => ∃ (r : Nat) (c1 : Nat → Nat) (t1 : Bool), r ≤ gg ∧ r ≤ nd ∧ v5 = .int .i64 ((r : Int) - 1) ∧ v6 = .int .i64 ((r : Int) + (e : Int)) ∧ v7 = .int .u64 (N r : Int) ∧ Aside (DcAt wr G c1 nd dp ng t1) ∧ Aside (Below G w wr) ∧ Aside (LMid c c1 r e nd))
    case atStart => exact ⟨nd, c, tr, by omega, by omega, by go_num, by go_num, by rw [HN0.out]; rfl, H0.out.draws nq, below_draws (Below.refl _ _) nq, fun i hi => rfl, fun i _ _ _ => by omega, fun i _ _ _ => by omega, fun h _ => by omega⟩
    case round =>
      obtain ⟨r, c1, t1, hgg, hr, rfl, rfl, rfl, A1, A2, A3⟩ := hrel
      by_cases hr0 : r = 0
      · have hr1 : (r : Int) < 1 := by omega
        have hr2 : ¬ ((0 : Int) ≤ (r : Int) - 1) := by omega
        have he19 : e ≤ 19 := hd19
        have hN0a : N r < 10 ^ e := by rw [hr0, HN2.out, ← HL2.out]; exact HLF.out.1
        have hN0b : 1 ≤ e → 10 ^ (e - 1) ≤ N r := fun h => by rw [hr0, HN2.out, ← HL2.out]; exact HLF.out.2.1 (by rw [HL2.out]; exact h)
        have A4 : Aside (LEnd c c1 e e nd) := by
          subst hr0
          exact A3.out.last
        have HA := Lib.hid hN0a
        have HB := Lib.hid hN0b
        clear hN0a hN0b A3 HNs HNl HN0 HN1 HN2 HP HLF
        go_wp2
        go_loopg [6, 7] e (fun gg v6 v7 wr => ∃ (x n : Nat) (c1 : Nat → Nat) (t1 : Bool), x ≤ gg ∧ x ≤ e ∧ v6 = .int .i64 (x : Int) ∧ v7 = .int .u64 (n : Int) ∧ Aside (n < 10 ^ x) ∧ Aside (1 ≤ x → 10 ^ (x - 1) ≤ n) ∧ Aside (DcAt wr G c1 nd dp ng t1) ∧ Aside (Below G w wr) ∧ Aside (LEnd c c1 x e nd))
        case atStart => exact ⟨e, N r, c1, t1, by omega, by omega, by go_num, by rw [hr0], HA.out, HB.out, A1.out, A2.out, A4.out⟩
        case round =>
          obtain ⟨x, n, c1, t1, hgg, hxe, rfl, rfl, B1, B2, A1, A2, A4⟩ := hrel
          by_cases hn0 : n = 0
          · have hx0 : x = 0 := by
              rcases Nat.eq_zero_or_pos x with h | h
              · exact h
              · have h1 : 10 ^ (x - 1) ≤ n := B2.out h
                have h2 : 0 < 10 ^ (x - 1) := Nat.pow_pos (by omega)
                omega
            have hx19 : 49 ≤ c1 0 ∧ (e = 0 → 2 * (c 0 - 48) ≤ c1 0 - 48) := A4.out.top hx0
            have hng : ¬ ((n : Int) > 0) := by omega
            have HTp := Lib.hid hx19
            clear hx19
            have k0 := A1.out.nd_
            have f0 := A1.out.free 800
            have hee : (0 : Int) ≤ (e : Int) := by omega
            have D1 : Aside (DcAt (wr.setCell ⟨G, 800, none⟩ (.int .i64 ((nd : Int) + (e : Int)))) G c1 (nd + e) dp ng t1) := by
              have := A1.out.ndSet (nd + e)
              rwa [show (((nd + e : Nat)) : Int) = (nd : Int) + (e : Int) by push_cast; rfl] at this
            have E1 : Aside (Below G w (wr.setCell ⟨G, 800, none⟩ (.int .i64 ((nd : Int) + (e : Int))))) := A2.out.setCell (p := ⟨G, 800, none⟩) (Nat.le_refl _) _
            have k1 := A1.out.dp_
            have f1 := D1.out.free 800
            have f2 := D1.out.free 801
            have HL4 : Hid (∀ i, i < nd + e → i < 800 → 48 ≤ c1 i ∧ c1 i ≤ 57) := fun i h1 h2 => ⟨A4.out.lo i (by omega) h1 h2, A4.out.hi i (by omega) h1 h2⟩
            have hw : IntKind.i64.wrap (dp + (e : Int)) = dp + (e : Int) := by rw [IntKind.wrap_i64]; omega
            by_cases h8 : 800 ≤ nd + e
            · have h81 : ((nd : Int) + (e : Int) ≥ 800) := by omega
              have D2 : Aside (DcAt ((wr.setCell ⟨G, 800, none⟩ (.int .i64 ((nd : Int) + (e : Int)))).setCell ⟨G, 800, none⟩ (.int .i64 800)) G c1 800 dp ng t1) := D1.out.ndSet 800
              have f3 := D2.out.free 801
              have D3 : Aside (DcAt (((wr.setCell ⟨G, 800, none⟩ (.int .i64 ((nd : Int) + (e : Int)))).setCell ⟨G, 800, none⟩ (.int .i64 800)).setCell ⟨G, 801, none⟩ (.int .i64 (dp + (e : Int)))) G c1 800 (dp + (e : Int)) ng t1) := D2.out.dpSet _
              have E3 : Aside (Below G w (((wr.setCell ⟨G, 800, none⟩ (.int .i64 ((nd : Int) + (e : Int)))).setCell ⟨G, 800, none⟩ (.int .i64 800)).setCell ⟨G, 801, none⟩ (.int .i64 (dp + (e : Int))))) := (E1.out.setCell (p := ⟨G, 800, none⟩) (Nat.le_refl _) _).setCell (p := ⟨G, 801, none⟩) (Nat.le_refl _) _
              have ct := trim_ _ G 800 c1 (dp + (e : Int)) ng t1 D3.out ⟨by omega, by omega, fun i hi => (HL4.out i (by omega) hi).1, fun i hi => (HL4.out i (by omega) hi).2, HTp.out.1⟩
              clear h8 hn0 hx0 hr0
              go_wp2_with ((with_reducible refine ct.mono ?_); rintro e' w' ⟨rfl, hD, hB⟩; have HD := Lib.hid hD; have HB := Lib.hid hB; clear hD hB)
              go_end0
              obtain ⟨nd', d1, d2⟩ := HD.out
              exact ⟨rfl, ⟨c1, nd', e, t1, d1, d2, he19, HTp.out.2⟩, E3.out.trans HB.out⟩
            · have h81 : ¬ ((nd : Int) + (e : Int) ≥ 800) := by omega
              have D3 : Aside (DcAt ((wr.setCell ⟨G, 800, none⟩ (.int .i64 ((nd : Int) + (e : Int)))).setCell ⟨G, 801, none⟩ (.int .i64 (dp + (e : Int)))) G c1 (nd + e) (dp + (e : Int)) ng t1) := D1.out.dpSet _
              have E3 : Aside (Below G w ((wr.setCell ⟨G, 800, none⟩ (.int .i64 ((nd : Int) + (e : Int)))).setCell ⟨G, 801, none⟩ (.int .i64 (dp + (e : Int))))) := E1.out.setCell (p := ⟨G, 801, none⟩) (Nat.le_refl _) _
              have ct := trim_ _ G (nd + e) c1 (dp + (e : Int)) ng t1 D3.out ⟨by omega, by omega, fun i hi => (HL4.out i hi (by omega)).1, fun i hi => (HL4.out i hi (by omega)).2, HTp.out.1⟩
              clear h8 hn0 hx0 hr0
              go_wp2_with ((with_reducible refine ct.mono ?_); rintro e' w' ⟨rfl, hD, hB⟩; have HD := Lib.hid hD; have HB := Lib.hid hB; clear hD hB)
              go_end0
              obtain ⟨nd', d1, d2⟩ := HD.out
              exact ⟨rfl, ⟨c1, nd', e, t1, d1, d2, he19, HTp.out.2⟩, E3.out.trans HB.out⟩
          · obtain ⟨y, rfl⟩ : ∃ y, x = y + 1 := by
              rcases x with _ | y
              · have h1 : n < 10 ^ 0 := B1.out
                have : (10 : Nat) ^ 0 = 1 := rfl
                omega
              · exact ⟨y, rfl⟩
            have hb1 : n < 10 ^ (y + 1) := B1.out
            have hb2 : 10 ^ y ≤ n := B2.out (by omega)
            have hdv := div10 hb1 hb2
            have h19 : 10 ^ (y + 1) ≤ 10 ^ 19 := Nat.pow_le_pow_right (by omega) (by omega)
            have hn64 : n < 10000000000000000000 := Nat.lt_of_lt_of_le hb1 h19
            clear h19
            have hset := A4.out.set hxe hb1 hb2
            obtain ⟨q, hq⟩ : ∃ q, q = n / 10 := ⟨_, rfl⟩
            obtain ⟨z, hz⟩ : ∃ z, z = n % 10 := ⟨_, rfl⟩
            rw [← hq] at hdv
            rw [← hz] at hset
            have HD := Lib.hid hdv
            have A5 : Aside (LEnd c (upd c1 y (z + 48)) y e nd) := hset
            have w3 : IntKind.u64.wrap ((n : Int) / 10) = (q : Int) := by rw [u64w _ (by omega) (by omega)]; omega
            have w4 : IntKind.u64.wrap (10 * (q : Int)) = 10 * (q : Int) := u64w _ (by omega) (by omega)
            have w5 : IntKind.u64.wrap ((n : Int) - 10 * (q : Int)) = (z : Int) := by rw [u64w _ (by omega) (by omega)]; omega
            have w6 : IntKind.u64.wrap ((z : Int) + 48) % 256 = ((z + 48 : Nat) : Int) := by rw [u64w _ (by omega) (by omega)]; omega
            have hng : ((n : Int) > 0) := by omega
            have hy8 : (y : Int) < 800 := by omega
            obtain ⟨v0, hv0⟩ : ∃ v, wr.cell? ⟨G, y, none⟩ = some v := ⟨_, A1.out.byte (by omega)⟩
            have hf := A1.out.free y
            have A6 : Aside (DcAt (wr.setCell ⟨G, y, none⟩ (.int .u8 ((z + 48 : Nat) : Int))) G (upd c1 y (z + 48)) nd dp ng t1) := A1.out.byteSet (by omega) _
            have A7 : Aside (Below G w (wr.setCell ⟨G, y, none⟩ (.int .u8 ((z + 48 : Nat) : Int)))) := A2.out.setCell (p := ⟨G, y, none⟩) (Nat.le_refl _) _
            clear hb1 hb2 hdv hn64 hset hq hz hn0 B1 B2 A4
            go_wp2
            go_roundg y
            case measure => omega
            case rel => exact ⟨y, q, _, t1, by omega, by omega, by go_num, rfl, HD.out.1, HD.out.2, A6.out, A7.out, A5.out⟩
      · obtain ⟨j, rfl⟩ : ∃ j, r = j + 1 := ⟨r - 1, by omega⟩
        obtain ⟨dj, hdj, hdj9⟩ : ∃ dj, c j = dj + 48 ∧ dj ≤ 9 := ⟨c j - 48, by have := HV.out.lo j (by omega); omega, by have := HV.out.hi j (by omega); omega⟩
        have k1 : wr.cell? ⟨G, j, none⟩ = some (.int .u8 (((dj + 48 : Nat)) : Int)) := by rw [A1.out.byte (by omega), A3.out.old j (by omega), hdj]
        have hj8 : j < 800 := by omega
        have hs := HNs.out j (by omega)
        have hb := HNl.out (j + 1) (by omega)
        rw [show c j - 48 = dj by omega] at hs
        obtain ⟨M, hM⟩ : ∃ M, M = N (j + 1) := ⟨_, rfl⟩
        obtain ⟨Q, hQ⟩ : ∃ Q, Q = dj * 2 ^ k := ⟨_, rfl⟩
        obtain ⟨n, hn⟩ : ∃ n, n = M + Q := ⟨_, rfl⟩
        obtain ⟨q, hq⟩ : ∃ q, q = n / 10 := ⟨_, rfl⟩
        obtain ⟨x, hx⟩ : ∃ x, x = n % 10 := ⟨_, rfl⟩
        have hQ9 : Q ≤ 9 * 2 ^ k := by rw [hQ]; exact Nat.mul_le_mul_right _ hdj9
        have hP := HP.out
        rw [← hM] at hb hs
        rw [← hQ, ← hn, ← hq] at hs
        have hn64 : n < 18446744073709551616 := by omega
        have w1 : IntKind.u64.wrap ((dj : Int) * 2 ^ k) = (Q : Int) := by
          rw [show ((dj : Int) * 2 ^ k) = ((dj * 2 ^ k : Nat) : Int) by push_cast; rfl, ← hQ]; exact u64w _ (by omega) (by omega)
        have w2 : IntKind.u64.wrap ((M : Int) + (Q : Int)) = (n : Int) := by rw [u64w _ (by omega) (by omega)]; omega
        have w3 : IntKind.u64.wrap ((n : Int) / 10) = (q : Int) := by rw [u64w _ (by omega) (by omega)]; omega
        have w4 : IntKind.u64.wrap (10 * (q : Int)) = 10 * (q : Int) := u64w _ (by omega) (by omega)
        have w5 : IntKind.u64.wrap ((n : Int) - 10 * (q : Int)) = (x : Int) := by rw [u64w _ (by omega) (by omega)]; omega
        have w6 : IntKind.u64.wrap ((x : Int) + 48) % 256 = ((x + 48 : Nat) : Int) := by rw [u64w _ (by omega) (by omega)]; omega
        have hT : Hid (j = 0 → e = 0 → n < 10 ∧ 1 ≤ n ∧ 2 * (c 0 - 48) ≤ n) := fun h1 h2 => by
          have ht := HLF.out.2.2 (HL2.out.trans h2)
          rw [← HN1.out] at ht
          have htop := HV.out.top
          subst h1
          rw [← hM, show c 0 - 48 = dj by omega, ← hQ, ← hn] at ht
          exact ⟨ht.1, by omega, by rw [show c 0 - 48 = dj by omega]; exact ht.2⟩
        have HS := Lib.hid hs
        have HX := Lib.hid hx
        rw [← hM] at *
        clear hdj hs hM hQ hn hq hx hP hb hQ9 hn64
        by_cases h8 : j + e < 800
        · have h81 : ((j : Int) + 1 + (e : Int) - 1 < 800) := by omega
          obtain ⟨y, hy⟩ : ∃ y, wr.cell? ⟨G, j + e, none⟩ = some y := ⟨_, A1.out.byte h8⟩
          have hf := A1.out.free (j + e)
          have A4 : Aside (DcAt (wr.setCell ⟨G, j + e, none⟩ (.int .u8 ((x + 48 : Nat) : Int))) G (upd c1 (j + e) (x + 48)) nd dp ng t1) := A1.out.byteSet h8 _
          have A5 : Aside (Below G w (wr.setCell ⟨G, j + e, none⟩ (.int .u8 ((x + 48 : Nat) : Int)))) := A2.out.setCell (p := ⟨G, j + e, none⟩) (Nat.le_refl _) _
          have A6 : Aside (LMid c (upd c1 (j + e) (x + 48)) j e nd) := by rw [HX.out]; exact A3.out.set hT.out
          go_wp2
          go_roundg j
          case measure => omega
          case rel => exact ⟨j, _, t1, by omega, by omega, by go_num, by go_num, by rw [HS.out], A4.out, A5.out, A6.out⟩
        · have h81 : ¬ ((j : Int) + 1 + (e : Int) - 1 < 800) := by omega
          have A6 : Aside (LMid c c1 j e nd) := A3.out.skip (by omega)
          by_cases hx0 : x = 0
          · have B0 : ((x : Int) != 0) = false := by rw [bne_eq_false_iff_eq]; omega
            clear hx0
            go_wp2
            go_roundg j
            case measure => omega
            case rel => exact ⟨j, _, t1, by omega, by omega, by go_num, by go_num, by rw [HS.out], A1.out, A2.out, A6.out⟩
          · have B0 : ((x : Int) != 0) = true := by rw [bne_iff_ne]; omega
            have hk3 := A1.out.tr_
            have hf := A1.out.free 803
            have A4 : Aside (DcAt (wr.setCell ⟨G, 803, none⟩ (.bool true)) G c1 nd dp ng true) := A1.out.trSet true
            have A5 : Aside (Below G w (wr.setCell ⟨G, 803, none⟩ (.bool true))) := A2.out.setCell (p := ⟨G, 803, none⟩) (Nat.le_refl _) _
            go_wp2
            go_roundg j
            case measure => omega
            case rel => exact ⟨j, _, true, by omega, by omega, by go_num, by go_num, by rw [HS.out], A4.out, A5.out, A6.out⟩
  · rw [hl] at cl2
    obtain ⟨e, rfl⟩ : ∃ e, d = e + 1 := ⟨d - 1, by omega⟩
    have HL2 : Hid (Dc.delta (e + 1) (Dc.dl (fun i => c i - 48) 0 nd) (digsOf S) = e) := by
      show Dc.delta (e + 1) (Dc.dl (fun i => c i - 48) 0 nd) (digsOf S) = e
      have hl' : Dc.less (Dc.dl (fun i => c i - 48) 0 nd) (digsOf S) = true := hl
      unfold Dc.delta; rw [hl']; rfl
    clear hl
    go_enter Tryz.func177, Tryz.ntmps177
    go_wp2
    go_quiet ((go_at_call 182; exact Calls.quiet_of (cl2 _)))
    go_wp2
    clear cl2 hsl hg hd hS0 k0
    obtain ⟨N, hN⟩ : ∃ N : Nat → Nat, N = Dc.cy (fun i => c i - 48) k nd := ⟨_, rfl⟩
    have HNs : Hid (∀ j, j < nd → N j = (N (j + 1) + (c j - 48) * 2 ^ k) / 10) := fun j hj => by rw [hN]; exact Dc.cy_step _ k nd j hj
    have HNl : Hid (∀ j, j ≤ nd → N j < 2 ^ k) := fun j hj => by rw [hN]; exact Dc.cy_lt (d := fun i => c i - 48) (N := nd) (fun i hi => by have := HV.out.hi i hi; show c i - 48 ≤ 9; omega) k nd j hj (Nat.le_refl _)
    have HN0 : Hid (N nd = 0) := by rw [hN]; exact Dc.cy_end _ k nd
    have HN1 : Hid (N 1 = Dc.cy (fun i => c i - 48) k nd 1) := by rw [hN]; exact rfl
    have HN2 : Hid (N 0 = Dc.cy (fun i => c i - 48) k nd 0) := by rw [hN]; exact rfl
    clear hN
    have hp2 : 2 ^ k ≤ 1152921504606846976 := hp
    have HP := Lib.hid hp2
    clear hp hp2
    go_loopg [5, 6, 7] nd (fun gg v5 v6 v7 wr => ∃ (r : Nat) (c1 : Nat → Nat) (t1 : Bool), r ≤ gg ∧ r ≤ nd ∧ v5 = .int .i64 ((r : Int) - 1) ∧ v6 = .int .i64 ((r : Int) + (e : Int)) ∧ v7 = .int .u64 (N r : Int) ∧ Aside (DcAt wr G c1 nd dp ng t1) ∧ Aside (Below G w wr) ∧ Aside (LMid c c1 r e nd))
    case atStart => exact ⟨nd, c, tr, by omega, by omega, by go_num, by go_num, by rw [HN0.out]; rfl, H0.out.draws nq, below_draws (Below.refl _ _) nq, fun i hi => rfl, fun i _ _ _ => by omega, fun i _ _ _ => by omega, fun h _ => by omega⟩
    case round =>
      obtain ⟨r, c1, t1, hgg, hr, rfl, rfl, rfl, A1, A2, A3⟩ := hrel
      by_cases hr0 : r = 0
      · have hr1 : (r : Int) < 1 := by omega
        have hr2 : ¬ ((0 : Int) ≤ (r : Int) - 1) := by omega
        have he19 : e ≤ 19 := by omega
        have hN0a : N r < 10 ^ e := by rw [hr0, HN2.out, ← HL2.out]; exact HLF.out.1
        have hN0b : 1 ≤ e → 10 ^ (e - 1) ≤ N r := fun h => by rw [hr0, HN2.out, ← HL2.out]; exact HLF.out.2.1 (by rw [HL2.out]; exact h)
        have A4 : Aside (LEnd c c1 e e nd) := by
          subst hr0
          exact A3.out.last
        have HA := Lib.hid hN0a
        have HB := Lib.hid hN0b
        clear hN0a hN0b A3 HNs HNl HN0 HN1 HN2 HP HLF
        go_wp2
        go_loopg [6, 7] e (fun gg v6 v7 wr => ∃ (x n : Nat) (c1 : Nat → Nat) (t1 : Bool), x ≤ gg ∧ x ≤ e ∧ v6 = .int .i64 (x : Int) ∧ v7 = .int .u64 (n : Int) ∧ Aside (n < 10 ^ x) ∧ Aside (1 ≤ x → 10 ^ (x - 1) ≤ n) ∧ Aside (DcAt wr G c1 nd dp ng t1) ∧ Aside (Below G w wr) ∧ Aside (LEnd c c1 x e nd))
        case atStart => exact ⟨e, N r, c1, t1, by omega, by omega, by go_num, by rw [hr0], HA.out, HB.out, A1.out, A2.out, A4.out⟩
        case round =>
          obtain ⟨x, n, c1, t1, hgg, hxe, rfl, rfl, B1, B2, A1, A2, A4⟩ := hrel
          by_cases hn0 : n = 0
          · have hx0 : x = 0 := by
              rcases Nat.eq_zero_or_pos x with h | h
              · exact h
              · have h1 : 10 ^ (x - 1) ≤ n := B2.out h
                have h2 : 0 < 10 ^ (x - 1) := Nat.pow_pos (by omega)
                omega
            have hx19 : 49 ≤ c1 0 ∧ (e = 0 → 2 * (c 0 - 48) ≤ c1 0 - 48) := A4.out.top hx0
            have hng : ¬ ((n : Int) > 0) := by omega
            have HTp := Lib.hid hx19
            clear hx19
            have k0 := A1.out.nd_
            have f0 := A1.out.free 800
            have hee : (0 : Int) ≤ (e : Int) := by omega
            have D1 : Aside (DcAt (wr.setCell ⟨G, 800, none⟩ (.int .i64 ((nd : Int) + (e : Int)))) G c1 (nd + e) dp ng t1) := by
              have := A1.out.ndSet (nd + e)
              rwa [show (((nd + e : Nat)) : Int) = (nd : Int) + (e : Int) by push_cast; rfl] at this
            have E1 : Aside (Below G w (wr.setCell ⟨G, 800, none⟩ (.int .i64 ((nd : Int) + (e : Int))))) := A2.out.setCell (p := ⟨G, 800, none⟩) (Nat.le_refl _) _
            have k1 := A1.out.dp_
            have f1 := D1.out.free 800
            have f2 := D1.out.free 801
            have HL4 : Hid (∀ i, i < nd + e → i < 800 → 48 ≤ c1 i ∧ c1 i ≤ 57) := fun i h1 h2 => ⟨A4.out.lo i (by omega) h1 h2, A4.out.hi i (by omega) h1 h2⟩
            have hw : IntKind.i64.wrap (dp + (e : Int)) = dp + (e : Int) := by rw [IntKind.wrap_i64]; omega
            by_cases h8 : 800 ≤ nd + e
            · have h81 : ((nd : Int) + (e : Int) ≥ 800) := by omega
              have D2 : Aside (DcAt ((wr.setCell ⟨G, 800, none⟩ (.int .i64 ((nd : Int) + (e : Int)))).setCell ⟨G, 800, none⟩ (.int .i64 800)) G c1 800 dp ng t1) := D1.out.ndSet 800
              have f3 := D2.out.free 801
              have D3 : Aside (DcAt (((wr.setCell ⟨G, 800, none⟩ (.int .i64 ((nd : Int) + (e : Int)))).setCell ⟨G, 800, none⟩ (.int .i64 800)).setCell ⟨G, 801, none⟩ (.int .i64 (dp + (e : Int)))) G c1 800 (dp + (e : Int)) ng t1) := D2.out.dpSet _
              have E3 : Aside (Below G w (((wr.setCell ⟨G, 800, none⟩ (.int .i64 ((nd : Int) + (e : Int)))).setCell ⟨G, 800, none⟩ (.int .i64 800)).setCell ⟨G, 801, none⟩ (.int .i64 (dp + (e : Int))))) := (E1.out.setCell (p := ⟨G, 800, none⟩) (Nat.le_refl _) _).setCell (p := ⟨G, 801, none⟩) (Nat.le_refl _) _
              have ct := trim_ _ G 800 c1 (dp + (e : Int)) ng t1 D3.out ⟨by omega, by omega, fun i hi => (HL4.out i (by omega) hi).1, fun i hi => (HL4.out i (by omega) hi).2, HTp.out.1⟩
              clear h8 hn0 hx0 hr0
              go_wp2_with ((with_reducible refine ct.mono ?_); rintro e' w' ⟨rfl, hD, hB⟩; have HD := Lib.hid hD; have HB := Lib.hid hB; clear hD hB)
              go_end0
              obtain ⟨nd', d1, d2⟩ := HD.out
              exact ⟨rfl, ⟨c1, nd', e, t1, d1, d2, he19, HTp.out.2⟩, E3.out.trans HB.out⟩
            · have h81 : ¬ ((nd : Int) + (e : Int) ≥ 800) := by omega
              have D3 : Aside (DcAt ((wr.setCell ⟨G, 800, none⟩ (.int .i64 ((nd : Int) + (e : Int)))).setCell ⟨G, 801, none⟩ (.int .i64 (dp + (e : Int)))) G c1 (nd + e) (dp + (e : Int)) ng t1) := D1.out.dpSet _
              have E3 : Aside (Below G w ((wr.setCell ⟨G, 800, none⟩ (.int .i64 ((nd : Int) + (e : Int)))).setCell ⟨G, 801, none⟩ (.int .i64 (dp + (e : Int))))) := E1.out.setCell (p := ⟨G, 801, none⟩) (Nat.le_refl _) _
              have ct := trim_ _ G (nd + e) c1 (dp + (e : Int)) ng t1 D3.out ⟨by omega, by omega, fun i hi => (HL4.out i hi (by omega)).1, fun i hi => (HL4.out i hi (by omega)).2, HTp.out.1⟩
              clear h8 hn0 hx0 hr0
              go_wp2_with ((with_reducible refine ct.mono ?_); rintro e' w' ⟨rfl, hD, hB⟩; have HD := Lib.hid hD; have HB := Lib.hid hB; clear hD hB)
              go_end0
              obtain ⟨nd', d1, d2⟩ := HD.out
              exact ⟨rfl, ⟨c1, nd', e, t1, d1, d2, he19, HTp.out.2⟩, E3.out.trans HB.out⟩
          · obtain ⟨y, rfl⟩ : ∃ y, x = y + 1 := by
              rcases x with _ | y
              · have h1 : n < 10 ^ 0 := B1.out
                have : (10 : Nat) ^ 0 = 1 := rfl
                omega
              · exact ⟨y, rfl⟩
            have hb1 : n < 10 ^ (y + 1) := B1.out
            have hb2 : 10 ^ y ≤ n := B2.out (by omega)
            have hdv := div10 hb1 hb2
            have h19 : 10 ^ (y + 1) ≤ 10 ^ 19 := Nat.pow_le_pow_right (by omega) (by omega)
            have hn64 : n < 10000000000000000000 := Nat.lt_of_lt_of_le hb1 h19
            clear h19
            have hset := A4.out.set hxe hb1 hb2
            obtain ⟨q, hq⟩ : ∃ q, q = n / 10 := ⟨_, rfl⟩
            obtain ⟨z, hz⟩ : ∃ z, z = n % 10 := ⟨_, rfl⟩
            rw [← hq] at hdv
            rw [← hz] at hset
            have HD := Lib.hid hdv
            have A5 : Aside (LEnd c (upd c1 y (z + 48)) y e nd) := hset
            have w3 : IntKind.u64.wrap ((n : Int) / 10) = (q : Int) := by rw [u64w _ (by omega) (by omega)]; omega
            have w4 : IntKind.u64.wrap (10 * (q : Int)) = 10 * (q : Int) := u64w _ (by omega) (by omega)
            have w5 : IntKind.u64.wrap ((n : Int) - 10 * (q : Int)) = (z : Int) := by rw [u64w _ (by omega) (by omega)]; omega
            have w6 : IntKind.u64.wrap ((z : Int) + 48) % 256 = ((z + 48 : Nat) : Int) := by rw [u64w _ (by omega) (by omega)]; omega
            have hng : ((n : Int) > 0) := by omega
            have hy8 : (y : Int) < 800 := by omega
            obtain ⟨v0, hv0⟩ : ∃ v, wr.cell? ⟨G, y, none⟩ = some v := ⟨_, A1.out.byte (by omega)⟩
            have hf := A1.out.free y
            have A6 : Aside (DcAt (wr.setCell ⟨G, y, none⟩ (.int .u8 ((z + 48 : Nat) : Int))) G (upd c1 y (z + 48)) nd dp ng t1) := A1.out.byteSet (by omega) _
            have A7 : Aside (Below G w (wr.setCell ⟨G, y, none⟩ (.int .u8 ((z + 48 : Nat) : Int)))) := A2.out.setCell (p := ⟨G, y, none⟩) (Nat.le_refl _) _
            clear hb1 hb2 hdv hn64 hset hq hz hn0 B1 B2 A4
            go_wp2
            go_roundg y
            case measure => omega
            case rel => exact ⟨y, q, _, t1, by omega, by omega, by go_num, rfl, HD.out.1, HD.out.2, A6.out, A7.out, A5.out⟩
      · obtain ⟨j, rfl⟩ : ∃ j, r = j + 1 := ⟨r - 1, by omega⟩
        obtain ⟨dj, hdj, hdj9⟩ : ∃ dj, c j = dj + 48 ∧ dj ≤ 9 := ⟨c j - 48, by have := HV.out.lo j (by omega); omega, by have := HV.out.hi j (by omega); omega⟩
        have k1 : wr.cell? ⟨G, j, none⟩ = some (.int .u8 (((dj + 48 : Nat)) : Int)) := by rw [A1.out.byte (by omega), A3.out.old j (by omega), hdj]
        have hj8 : j < 800 := by omega
        have hs := HNs.out j (by omega)
        have hb := HNl.out (j + 1) (by omega)
        rw [show c j - 48 = dj by omega] at hs
        obtain ⟨M, hM⟩ : ∃ M, M = N (j + 1) := ⟨_, rfl⟩
        obtain ⟨Q, hQ⟩ : ∃ Q, Q = dj * 2 ^ k := ⟨_, rfl⟩
        obtain ⟨n, hn⟩ : ∃ n, n = M + Q := ⟨_, rfl⟩
        obtain ⟨q, hq⟩ : ∃ q, q = n / 10 := ⟨_, rfl⟩
        obtain ⟨x, hx⟩ : ∃ x, x = n % 10 := ⟨_, rfl⟩
        have hQ9 : Q ≤ 9 * 2 ^ k := by rw [hQ]; exact Nat.mul_le_mul_right _ hdj9
        have hP := HP.out
        rw [← hM] at hb hs
        rw [← hQ, ← hn, ← hq] at hs
        have hn64 : n < 18446744073709551616 := by omega
        have w1 : IntKind.u64.wrap ((dj : Int) * 2 ^ k) = (Q : Int) := by
          rw [show ((dj : Int) * 2 ^ k) = ((dj * 2 ^ k : Nat) : Int) by push_cast; rfl, ← hQ]; exact u64w _ (by omega) (by omega)
        have w2 : IntKind.u64.wrap ((M : Int) + (Q : Int)) = (n : Int) := by rw [u64w _ (by omega) (by omega)]; omega
        have w3 : IntKind.u64.wrap ((n : Int) / 10) = (q : Int) := by rw [u64w _ (by omega) (by omega)]; omega
        have w4 : IntKind.u64.wrap (10 * (q : Int)) = 10 * (q : Int) := u64w _ (by omega) (by omega)
        have w5 : IntKind.u64.wrap ((n : Int) - 10 * (q : Int)) = (x : Int) := by rw [u64w _ (by omega) (by omega)]; omega
        have w6 : IntKind.u64.wrap ((x : Int) + 48) % 256 = ((x + 48 : Nat) : Int) := by rw [u64w _ (by omega) (by omega)]; omega
        have hT : Hid (j = 0 → e = 0 → n < 10 ∧ 1 ≤ n ∧ 2 * (c 0 - 48) ≤ n) := fun h1 h2 => by
          have ht := HLF.out.2.2 (HL2.out.trans h2)
          rw [← HN1.out] at ht
          have htop := HV.out.top
          subst h1
          rw [← hM, show c 0 - 48 = dj by omega, ← hQ, ← hn] at ht
          exact ⟨ht.1, by omega, by rw [show c 0 - 48 = dj by omega]; exact ht.2⟩
        have HS := Lib.hid hs
        have HX := Lib.hid hx
        rw [← hM] at *
        clear hdj hs hM hQ hn hq hx hP hb hQ9 hn64
        by_cases h8 : j + e < 800
        · have h81 : ((j : Int) + 1 + (e : Int) - 1 < 800) := by omega
          obtain ⟨y, hy⟩ : ∃ y, wr.cell? ⟨G, j + e, none⟩ = some y := ⟨_, A1.out.byte h8⟩
          have hf := A1.out.free (j + e)
          have A4 : Aside (DcAt (wr.setCell ⟨G, j + e, none⟩ (.int .u8 ((x + 48 : Nat) : Int))) G (upd c1 (j + e) (x + 48)) nd dp ng t1) := A1.out.byteSet h8 _
          have A5 : Aside (Below G w (wr.setCell ⟨G, j + e, none⟩ (.int .u8 ((x + 48 : Nat) : Int)))) := A2.out.setCell (p := ⟨G, j + e, none⟩) (Nat.le_refl _) _
          have A6 : Aside (LMid c (upd c1 (j + e) (x + 48)) j e nd) := by rw [HX.out]; exact A3.out.set hT.out
          go_wp2
          go_roundg j
          case measure => omega
          case rel => exact ⟨j, _, t1, by omega, by omega, by go_num, by go_num, by rw [HS.out], A4.out, A5.out, A6.out⟩
        · have h81 : ¬ ((j : Int) + 1 + (e : Int) - 1 < 800) := by omega
          have A6 : Aside (LMid c c1 j e nd) := A3.out.skip (by omega)
          by_cases hx0 : x = 0
          · have B0 : ((x : Int) != 0) = false := by rw [bne_eq_false_iff_eq]; omega
            clear hx0
            go_wp2
            go_roundg j
            case measure => omega
            case rel => exact ⟨j, _, t1, by omega, by omega, by go_num, by go_num, by rw [HS.out], A1.out, A2.out, A6.out⟩
          · have B0 : ((x : Int) != 0) = true := by rw [bne_iff_ne]; omega
            have hk3 := A1.out.tr_
            have hf := A1.out.free 803
            have A4 : Aside (DcAt (wr.setCell ⟨G, 803, none⟩ (.bool true)) G c1 nd dp ng true) := A1.out.trSet true
            have A5 : Aside (Below G w (wr.setCell ⟨G, 803, none⟩ (.bool true))) := A2.out.setCell (p := ⟨G, 803, none⟩) (Nat.le_refl _) _
            go_wp2
            go_roundg j
            case measure => omega
            case rel => exact ⟨j, _, true, by omega, by omega, by go_num, by go_num, by rw [HS.out], A4.out, A5.out, A6.out⟩
end LxC
end Go.Proofs.YtldglmehchkbeaaGreatDoor
