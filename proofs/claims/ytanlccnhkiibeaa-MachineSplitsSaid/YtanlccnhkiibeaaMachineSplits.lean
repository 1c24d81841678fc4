/-
  Of every image, input and two numbers the law MachineSplits returns true: a run may be cut in two.
  Conditions: none beyond those of the given statement.
-/
import Derived.Test.YtanlccnhkiibeaaRows
import Derived.Test.YtanlccnhkiibeaaMachCq
import Derived.Test.YtanlccnhkiibeaaMachCr
import Derived.Test.YtanlccnhkiibeaaMachK
import Derived.Deep.AppendLies
import Derived.Deep.DeepCutAuto
import Derived.Deep.RegionLaw
import Derived.WalkKit
import Derived.ProofKit
import Derived.OpenShut
namespace Go.Proofs.Ytanlccnhkiibeaa.machineSplits
open Go.ChangeShapes Go.WideShapes Go.ChangeAt Go.RowKit
set_option linter.unusedVariables false
set_option linter.unusedSimpArgs false

theorem own : ownKnob Try.prog.godebug = none := by kernel_rfl
open MM MC MB MP MK MR MCp
theorem Own_mono {B B' b bm : Nat} {w w' : World} (h : Own B b bm w w') (hB : B' ≤ B) : Own B' b bm w w' := ⟨h.os, h.tape, h.output, h.size, fun k hk => h.block k (by omega)⟩
/-- what stands at the beginning -/
theorem beg_bd {xs : List Int} (h : ∀ x ∈ xs, (Lit.int .u8 x).wf = true) : ∀ k, 0 ≤ xs.getD k 0 ∧ xs.getD k 0 ≤ 255 := getD_bd (fun x hx => bounds_u8 (h x hx))
theorem room (n : Nat) (h : n ≤ 2000) : ∃ N : Nat, MW.up (MW.up n + 256) = (N : Int) ∧ N ≤ 2097152 ∧ 0 ≤ MW.up n ∧ MW.up n ≤ 4294967295 ∧ 256 + MW.up n ≤ 2097152 ∧ 256 ≤ N := by
  refine ⟨(MW.up (MW.up n + 256)).toNat, ?_⟩
  unfold MW.up
  omega
/-- the two numbers, in their box -/
def boxed (w : World) (x y : Int) : World := w.alloc (.cells #[.int .u8 x, .int .u8 y] 24)
structure Far (w : World) (x y : Int) (w' : World) : Prop where
  below : Below w.heap.size w w'
  n0 : w'.cell? ⟨w.heap.size, 0, none⟩ = some (.int .u8 x)
  n1 : w'.cell? ⟨w.heap.size, 1, none⟩ = some (.int .u8 y)
  lt : w.heap.size + 1 ≤ w'.heap.size
theorem far0 {w w' : World} {x y : Int} (hb : Below (w.alloc (.cells #[.int .u8 x, .int .u8 y] 24)).heap.size (w.alloc (.cells #[.int .u8 x, .int .u8 y] 24)) w') : Far w x y w' := by
  have hg := heap_alloc_new w (.cells #[.int .u8 x, .int .u8 y] 24)
  have hs := hb.size
  simp only [World.size_alloc] at hs
  have hl : w.heap.size < (w.alloc (.cells #[.int .u8 x, .int .u8 y] 24)).heap.size := by simp only [World.size_alloc]; omega
  exact ⟨((Below.refl _ _).alloc (Nat.le_refl _) _).trans (hb.mono (by omega)), (hb.cell (p := ⟨w.heap.size, 0, none⟩) hl).trans (cell_of_row _ w.heap.size 0 _ _ _ hg), (hb.cell (p := ⟨w.heap.size, 1, none⟩) hl).trans (cell_of_row _ w.heap.size 1 _ _ _ hg), hs⟩
theorem Far.on {w w1 w2 : World} {x y : Int} (h : Far w x y w1) (hb : Below (w.heap.size + 1) w1 w2) : Far w x y w2 :=
  ⟨h.below.trans (hb.mono (by omega)), (hb.cell (p := ⟨w.heap.size, 0, none⟩) (by show w.heap.size < _; omega)).trans h.n0, (hb.cell (p := ⟨w.heap.size, 1, none⟩) (by show w.heap.size < _; omega)).trans h.n1, Nat.le_trans h.lt hb.size⟩
theorem Far.next {w w1 w2 : World} {x y : Int} (h : Far w x y w1) (hb : Below w1.heap.size w1 w2) : Far w x y w2 := h.on (hb.mono h.lt)
theorem run_two {w w3 : World} {x y : Int} {v : Value} {xs : List Int} {b bm N : Nat} {s : St} {T : Rn} (H : Far w x y w3) (hA : MO.Arg .u32 w v xs) (A : At w3 b bm N s) (hb : w.heap.size ≤ b) (hbm : w.heap.size ≤ bm) (hF : Fine s) (hX : ∀ x ∈ xs, 0 ≤ x ∧ x ≤ 4294967295) (hN : N ≤ 2097152) (hx : 0 ≤ x ∧ x ≤ 255) (hT : MM.run N x.toNat s xs = T) :
    Calls Try.prog 10 #[.pointer (some ⟨b, 0, none⟩), v, .int .i64 x] w3 (MV.RunPost b bm N w3 T) := by
  have h := MCo.run_le N x.toNat s xs
  rw [hT] at h
  exact MV.run_ A (MO.inp_of hA H.below H.below.size hb hbm) hF hX hN x (by omega) T hT (by omega)

set_option maxRecDepth 100000 in
set_option maxHeartbeats 8000000 in
theorem walk (v0 : Value) (xs0 : List Int) (v1 : Value) (xs1 : List Int) (a2 b2 : Int) (wa2 : (Lit.int .u8 a2).wf = true) (wb2 : (Lit.int .u8 b2).wf = true) (w : World) (ha0 : MO.Arg .u8 w v0 xs0) (hx0 : ∀ x ∈ xs0, (Lit.int .u8 x).wf = true) (ha1 : MO.Arg .u32 w v1 xs1) (hx1 : ∀ x ∈ xs1, (Lit.int .u32 x).wf = true) :
    Calls Try.prog 3 #[v0, v1, .agg #[.int .u8 a2, .int .u8 b2]] w fun e w' => e = .returned (.bool true) ∧ Below w.heap.size w w' := by
  have ha := bounds_u8 wa2
  have hbb := bounds_u8 wb2
  have hB := beg_bd hx0
  have hX : ∀ x ∈ xs1, 0 ≤ x ∧ x ≤ 4294967295 := fun x h => bounds_u32 (hx1 x h)
  by_cases hl0 : xs0.length ≤ 2000
  case neg =>
    obtain ⟨p0, c0, rfl, -⟩ := ha0
    obtain ⟨p1, c1, rfl, -⟩ := ha1
    clear hx0 hx1 hB hX
    go_enter Try.func3, Try.ntmps3
    go_wp2_with (first
      | (go_at_call 8; (with_reducible refine (awake_ w1).mono ?_); rintro e w2 ⟨rfl, hb1⟩; have H1 := Lib.hid hb1; clear hb1)
      | (go_at_call 8; (with_reducible refine (awake_ _).mono ?_); rintro e w1 ⟨rfl, hb0⟩; have H0 := Lib.hid hb0; clear hb0))
    go_ret
    exact ⟨rfl, (((Below.refl _ _).alloc (Nat.le_refl _) _).trans (H0.out.mono (by simp only [World.size_alloc]; omega))).trans (H1.out.mono (by have := H0.out.size; simp only [World.size_alloc] at this; omega))⟩
  case pos =>
    by_cases hl1 : xs1.length ≤ 100
    case neg =>
      obtain ⟨p0, c0, rfl, -⟩ := ha0
      obtain ⟨p1, c1, rfl, -⟩ := ha1
      clear hx0 hx1 hB hX
      go_enter Try.func3, Try.ntmps3
      go_wp2_with (first
        | (go_at_call 8; (with_reducible refine (awake_ w1).mono ?_); rintro e w2 ⟨rfl, hb1⟩; have H1 := Lib.hid hb1; clear hb1)
        | (go_at_call 8; (with_reducible refine (awake_ _).mono ?_); rintro e w1 ⟨rfl, hb0⟩; have H0 := Lib.hid hb0; clear hb0))
      go_ret
      exact ⟨rfl, (((Below.refl _ _).alloc (Nat.le_refl _) _).trans (H0.out.mono (by simp only [World.size_alloc]; omega))).trans (H1.out.mono (by have := H0.out.size; simp only [World.size_alloc] at this; omega))⟩
    case pos =>
      obtain ⟨N, hN, hN1, hN2, hN3, hN4, hN5⟩ := room xs0.length hl0
      have cl : ∀ wx, Below w.heap.size w wx → _ := fun wx hb => MCn.load_arg ha0 hb (by omega) 0 (by omega) 256 (by omega) hN4 N hN
      obtain ⟨s0, hs0⟩ : ∃ s0, s0 = MW.loaded (fun k => xs0.getD k 0) xs0.length (MW.up xs0.length) N 0 := ⟨_, rfl⟩
      rw [← hs0] at cl
      have hF : Fine s0 := by rw [hs0]; exact fine_loaded hB _ _ _ _ ⟨hN2, hN3⟩ hN1 (by omega)
      clear hs0 hB hx0 hx1 hN hN2 hN3 hN4
      obtain ⟨T, hT⟩ : ∃ T, MM.run N a2.toNat s0 xs1 = T := ⟨_, rfl⟩
      have hTn := MCo.run_le N a2.toNat s0 xs1
      rw [hT] at hTn
      have HA1 := Lib.hid ha1
      have HX := Lib.hid hX
      have HCL := Lib.hid cl
      have HF := Lib.hid hF
      have HT := Lib.hid hT
      obtain ⟨p0, c0, rfl, -⟩ := ha0
      obtain ⟨p1, c1, rfl, -⟩ := ha1
      clear hX cl hF hT
      go_enter Try.func3, Try.ntmps3
      go_wp2_with (first
        | (go_at_call 8; (with_reducible refine (awake_ _).mono ?_); rintro e w1 ⟨rfl, hb0⟩; have hb1 := far0 hb0; have H1 := Lib.hid hb1; clear hb0 hb1)
        | (go_at_call 10; (with_reducible refine (run_two H3.out HA1.out HA2.out (by omega) (by omega) HF.out HX.out hN1 ha HT.out).mono ?_); rintro e w4 ⟨p4, l4, c4, rfl, R⟩; obtain ⟨rfl, -⟩ := evs_of R.ev; have hf4 := H3.out.on (R.own.below (by omega) (by omega) (by omega)); have HA4 := Lib.hid (HA1b.out.kept (R.own.block ba (by omega) (by omega) (by omega)) (R.own.block bam (by omega) (by omega) (by omega))); have HR4 := Lib.hid R; have hf4s := hf4.lt; have H4 := Lib.hid hf4; clear R hf4)
        | (go_at_call 9; (with_reducible refine (HCL.out _ (H4.out.below.alloc H4.out.below.size _)).mono ?_); rintro e w5 ⟨bc, bcm, rfl, A3, z3, zm3, hb5⟩; have f5s := hb5.size; have H5 := Lib.hid hb5; have HA3 := Lib.hid A3; clear hb5 A3)
        | (go_at_call 9; (with_reducible refine (HCL.out w2 H2.out.below).mono ?_); rintro e w3 ⟨bb, bbm, rfl, A2, z2, zm2, hb3⟩; have hf3 := H2.out.next hb3; have f3 := hf3.n0; have f3s := hf3.lt; have f3t := hb3.size; have H3 := Lib.hid hf3; have HA2 := Lib.hid A2; have q1 := lt_of_get HA0.out.head; have q2 := lt_of_get HA0.out.mem; have HA1b := Lib.hid (HA0.out.kept (hb3.block ba q1) (hb3.block bam q2)); clear hb3 A2 hf3)
        | (go_at_call 9; (with_reducible refine (HCL.out w1 H1.out.below).mono ?_); rintro e w2 ⟨ba, bam, rfl, A1, z1, zm1, hb2⟩; have hf2 := H1.out.next hb2; have f2s := hf2.lt; have f1s := H1.out.lt; have H2 := Lib.hid hf2; have HA0 := Lib.hid A1; clear hb2 hf2 A1))
      simp only [World.size_alloc] at f5s z3 zm3
      have HW0 := Lib.hid (show MO.Arg .u32 w (.slice p1 xs1.length c1) (MM.run N 0 s0 xs1).inp from HA1.out)
      go_loopw [14, 15] (fun s14 s15 wr => ∃ k : Nat, k ≤ T.n ∧ s15 = .int .i64 k ∧ MO.Arg .u32 w s14 (MM.run N k s0 xs1).inp ∧ At wr bc bcm N (MM.run N k s0 xs1).s ∧ Own w5.heap.size bc bcm w5 wr) (fun _ i _ => T.n - (intOf i).toNat)
      case atStart => exact ⟨0, Nat.zero_le _, rfl, HW0.out, HA3.out, Own.refl _ _ _ _⟩
      case round =>
        obtain ⟨k, hk, rfl, hw, A, O⟩ := hrel
        have gR := heap_alloc_new w4 (.cells #[.int .i64 T.s.state, .int .u32 (MV.codeOf T.s), .slice p4 T.out.length c4, .int .i64 ((T.n : Nat) : Int)] 35)
        have b5 := H5.out.block w4.heap.size (by simp only [World.size_alloc]; omega)
        have bO := O.block w4.heap.size (by omega) (by omega) (by omega)
        have q3 := cell_of_row _ w4.heap.size 3 _ _ _ (bO.trans (b5.trans gR))
        by_cases hlt : k < T.n
        · obtain ⟨hst, hok, hr1, hnx⟩ := MCo.run_next N a2.toNat k s0 xs1 (by rw [HT.out]; exact hlt)
          have hff := MCr.fine_run N k s0 xs1 HF.out HX.out
          rw [MCn.step_inp] at hnx
          obtain ⟨U, hU⟩ : ∃ U, MM.run N k s0 xs1 = U := ⟨_, rfl⟩
          rw [hU] at hw A hst hok hr1 hnx hff
          have hfit := MCr.ok_fit _ _ _ hok
          rw [hfit] at hnx
          have hle := MCr.fit_le hfit
          have hs8 := MCr.str_is U.s.mem U.s.pc.toNat hff.1.mem
          have hpcb := hff.1.pc
          have hxb := hff.1.x 17
          have hbw : Below w.heap.size w wr := (H4.out.below.trans (((Below.refl _ _).alloc (Nat.le_refl _) _).mono H4.out.below.size)).trans ((H5.out.mono (by have := H4.out.below.size; simp only [World.size_alloc]; omega)).trans (O.below (by have := H4.out.below.size; omega) (by have := H4.out.below.size; omega) (by have := H4.out.below.size; omega)))
          have hsw := hbw.size
          have hsw5 := O.size
          have hsw4 := H4.out.below.size
          have hbc := lt_of_get A.head
          have hbcm := lt_of_get A.mem
          have hwc : w.heap.size ≤ bc := by omega
          have hwcm : w.heap.size ≤ bcm := by omega
          have cp : Calls Try.prog 12 #[.pointer (some ⟨bc, 0, none⟩)] wr (fun e w' => e = .returned (.int .u32 U.s.pc) ∧ wr = w') := MR.place_ A
          obtain ⟨pn, hpn⟩ : ∃ pn : Nat, U.s.pc = pn := ⟨U.s.pc.toNat, by omega⟩
          rw [hpn] at cp hle hpcb
          have cb : Calls Try.prog 11 #[.pointer (some ⟨bc, 0, none⟩), .int .i64 (pn : Int), .int .i64 4] wr _ := MCl.bytes_in A hN1 pn 4 (by omega) (by omega)
          rw [hpn, Int.toNat_natCast] at hs8 hnx
          obtain ⟨st, hst8⟩ : ∃ st, MCr.strOf (MCl.part U.s.mem pn 4) = st := ⟨_, rfl⟩
          rw [hst8] at hs8
          have HS := Lib.hid hst8
          obtain ⟨x17, hx17⟩ : ∃ x, U.s.x 17 = x := ⟨_, rfl⟩
          rw [hx17] at hnx hxb
          have HX17 := Lib.hid hx17
          obtain ⟨V, hV⟩ : ∃ V, MM.run N (k + 1) s0 xs1 = V := ⟨_, rfl⟩
          rw [hV] at hr1 hnx
          have HV := Lib.hid hV
          obtain ⟨L, hL⟩ : ∃ L, U.inp = L := ⟨_, rfl⟩
          rw [hL] at hw hr1 hnx hff
          have HA := Lib.hid A
          have HF := Lib.hid hff
          have HR1 := Lib.hid hr1
          have HBW := Lib.hid hbw
          have HO := Lib.hid O
          obtain ⟨num4, hnum4⟩ : ∃ z, num U.s.mem pn 4 = z := ⟨_, rfl⟩
          rw [hnum4] at hs8 hnx
          clear hst hok hr1 hff hU hV hpn hx17 hst8 hbw A O hfit hL hnum4
          by_cases hn : num4 = 115
          case neg =>
            have HVI := Lib.hid (show V.inp = L by rw [hnx, if_neg (fun h => hn h.2.1)])
            have hne : st ≠ ⟨#[115, 0, 0, 0]⟩ := fun h => hn (hs8.1 h)
            have hne3 : decide (st = ⟨#[115, 0, 0, 0]⟩) = false := by simp [hne]
            have hne4 : ¬ st.toList = [115, 0, 0, 0] := fun h => hne (by rw [ByteArray.toList_eq] at h; exact ByteArray.ext (Array.ext' h))
            have HW := Lib.hid hw
            obtain ⟨pl, cl, rfl, -⟩ := hw
            clear hs8 hnx hn
            go_wp2_with (first
              | (go_at_call 12; (with_reducible refine cp.mono ?_); rintro e w6 ⟨rfl, rfl⟩)
              | (go_at_call 11; (with_reducible refine cb.mono ?_); rintro e w7 ⟨gb, cap, rfl, ho, hb7⟩; have hcv := MCr.conv_row ho; rw [HS.out] at hcv; have A7 := HA.out.kept (hb7.block bc hbc) (hb7.block bcm hbcm); have cw : Calls Try.prog 13 #[.pointer (some ⟨bc, 0, none⟩), .int .i64 17] w7 (fun e w' => e = .returned (.int .u32 x17) ∧ w7 = w') := (MR.word_ A7 17 (by omega)).mono (fun e w' h => ⟨by rw [h.1]; exact congrArg (fun z => Ending.returned (.int .u32 z)) HX17.out, h.2⟩); have I7 := MO.inp_of HW.out (HBW.out.trans (hb7.mono hsw)) (Nat.le_trans hsw hb7.size) hwc hwcm; have cr := MV.run_ A7 I7 HF.out.1 HF.out.2 hN1 1 (by omega) _ HR1.out (by show 1 ≤ 4000; omega); have H7 := Lib.hid hb7; clear A7 I7 ho hb7)
              | (go_at_call 10; (with_reducible refine cr.mono ?_); rintro e w9 ⟨p9, l9, c9, rfl, R⟩; have HR9 := Lib.hid R; clear R cr cw hcv))
            refine ⟨⟨k + 1, by omega, by go_num, ?_, ?_, ?_⟩, by first | (simp [intOf]; omega) | omega⟩
            · rw [HV.out, HVI.out]
              exact HW.out
            · rw [HV.out]
              exact HR9.out.at_
            · exact HO.out.trans ((Own.of_below H7.out hsw5).trans (Own_mono HR9.out.own (Nat.le_trans hsw5 H7.out.size)))
          case pos =>
            obtain rfl := hs8.2 hn
            clear hs8
            by_cases h17 : x17 = 2
            case neg =>
              have HVI := Lib.hid (show V.inp = L by rw [hnx, if_neg (fun h => h17 h.2.2)])
              have hne2 : (x17 == 2) = false := by simp [h17]
              have HW := Lib.hid hw
              obtain ⟨pl, cl, rfl, -⟩ := hw
              clear hnx hn
              go_wp2_with (first
                | (go_at_call 12; (with_reducible refine cp.mono ?_); rintro e w6 ⟨rfl, rfl⟩)
                | (go_at_call 11; (with_reducible refine cb.mono ?_); rintro e w7 ⟨gb, cap, rfl, ho, hb7⟩; have hcv := MCr.conv_row ho; rw [HS.out] at hcv; have A7 := HA.out.kept (hb7.block bc hbc) (hb7.block bcm hbcm); have cw : Calls Try.prog 13 #[.pointer (some ⟨bc, 0, none⟩), .int .i64 17] w7 (fun e w' => e = .returned (.int .u32 x17) ∧ w7 = w') := (MR.word_ A7 17 (by omega)).mono (fun e w' h => ⟨by rw [h.1]; exact congrArg (fun z => Ending.returned (.int .u32 z)) HX17.out, h.2⟩); have I7 := MO.inp_of HW.out (HBW.out.trans (hb7.mono hsw)) (Nat.le_trans hsw hb7.size) hwc hwcm; have cr := MV.run_ A7 I7 HF.out.1 HF.out.2 hN1 1 (by omega) _ HR1.out (by show 1 ≤ 4000; omega); have H7 := Lib.hid hb7; clear A7 I7 ho hb7)
                | (go_at_call 13; (with_reducible refine cw.mono ?_); rintro e w8 ⟨rfl, rfl⟩)
                | (go_at_call 10; (with_reducible refine cr.mono ?_); rintro e w9 ⟨p9, l9, c9, rfl, R⟩; have HR9 := Lib.hid R; clear R cr cw hcv))
              refine ⟨⟨k + 1, by omega, by go_num, ?_, ?_, ?_⟩, by first | (simp [intOf]; omega) | omega⟩
              · rw [HV.out, HVI.out]
                exact HW.out
              · rw [HV.out]
                exact HR9.out.at_
              · exact HO.out.trans ((Own.of_below H7.out hsw5).trans (Own_mono HR9.out.own (Nat.le_trans hsw5 H7.out.size)))
            case pos =>
              rw [if_pos ⟨rfl, hn, h17⟩] at hnx
              have he2 : (x17 == 2) = true := by simp [h17]
              clear h17
              have HVI := Lib.hid hnx
              have HW := Lib.hid hw
              clear hnx hn
              cases L with
              | nil =>
                obtain ⟨pl, cl, rfl, -⟩ := hw
                simp only [List.length_nil] at *
                go_wp2_with (first
                  | (go_at_call 12; (with_reducible refine cp.mono ?_); rintro e w6 ⟨rfl, rfl⟩)
                  | (go_at_call 11; (with_reducible refine cb.mono ?_); rintro e w7 ⟨gb, cap, rfl, ho, hb7⟩; have hcv := MCr.conv_row ho; rw [HS.out] at hcv; have A7 := HA.out.kept (hb7.block bc hbc) (hb7.block bcm hbcm); have cw : Calls Try.prog 13 #[.pointer (some ⟨bc, 0, none⟩), .int .i64 17] w7 (fun e w' => e = .returned (.int .u32 x17) ∧ w7 = w') := (MR.word_ A7 17 (by omega)).mono (fun e w' h => ⟨by rw [h.1]; exact congrArg (fun z => Ending.returned (.int .u32 z)) HX17.out, h.2⟩); have I7 := MO.inp_of HW.out (HBW.out.trans (hb7.mono hsw)) (Nat.le_trans hsw hb7.size) hwc hwcm; have cr := MV.run_ A7 I7 HF.out.1 HF.out.2 hN1 1 (by omega) _ HR1.out (by show 1 ≤ 4000; omega); have H7 := Lib.hid hb7; clear A7 I7 ho hb7)
                  | (go_at_call 13; (with_reducible refine cw.mono ?_); rintro e w8 ⟨rfl, rfl⟩)
                  | (go_at_call 10; (with_reducible refine cr.mono ?_); rintro e w9 ⟨p9, l9, c9, rfl, R⟩; have HR9 := Lib.hid R; clear R cr cw hcv))
                refine ⟨⟨k + 1, by omega, by go_num, ?_, ?_, ?_⟩, by first | (simp [intOf]; omega) | omega⟩
                · rw [HV.out, HVI.out]
                  exact HW.out
                · rw [HV.out]
                  exact HR9.out.at_
                · exact HO.out.trans ((Own.of_below H7.out hsw5).trans (Own_mono HR9.out.own (Nat.le_trans hsw5 H7.out.size)))
              | cons x l =>
                obtain ⟨pl, cl, rfl, hwl⟩ := hw
                obtain ⟨g, o, rfl, q1, q2, q3', q4⟩ := hwl (by simp)
                have HQ := Lib.hid q4
                clear q4 hwl
                unfold maxLen at q2
                simp only [List.length_cons] at q1 HW
                have hne : decide (0 < l.length + 1) = true := by simp
                by_cases hcc : cl = 1
                · subst hcc
                  go_wp2_with (first
                    | (go_at_call 12; (with_reducible refine cp.mono ?_); rintro e w6 ⟨rfl, rfl⟩)
                    | (go_at_call 11; (with_reducible refine cb.mono ?_); rintro e w7 ⟨gb, cap, rfl, ho, hb7⟩; have hcv := MCr.conv_row ho; rw [HS.out] at hcv; have A7 := HA.out.kept (hb7.block bc hbc) (hb7.block bcm hbcm); have cw : Calls Try.prog 13 #[.pointer (some ⟨bc, 0, none⟩), .int .i64 17] w7 (fun e w' => e = .returned (.int .u32 x17) ∧ w7 = w') := (MR.word_ A7 17 (by omega)).mono (fun e w' h => ⟨by rw [h.1]; exact congrArg (fun z => Ending.returned (.int .u32 z)) HX17.out, h.2⟩); have I7 := MO.inp_of HW.out (HBW.out.trans (hb7.mono hsw)) (Nat.le_trans hsw hb7.size) hwc hwcm; have cr := MV.run_ A7 I7 HF.out.1 HF.out.2 hN1 1 (by omega) _ HR1.out (by show 1 ≤ 4000; omega); have H7 := Lib.hid hb7; clear A7 I7 ho hb7)
                    | (go_at_call 13; (with_reducible refine cw.mono ?_); rintro e w8 ⟨rfl, rfl⟩)
                    | (go_at_call 10; (with_reducible refine cr.mono ?_); rintro e w9 ⟨p9, l9, c9, rfl, R⟩; have HR9 := Lib.hid R; clear R cr cw hcv))
                  refine ⟨⟨k + 1, by omega, by go_num, ?_, ?_, ?_⟩, by first | (simp [intOf]; omega) | omega⟩
                  · rw [HV.out, HVI.out]
                    exact (by have hl : l = [] := List.eq_nil_of_length_eq_zero (by omega); subst hl; exact ⟨_, _, rfl, fun h => absurd rfl h⟩)
                  · rw [HV.out]
                    exact HR9.out.at_
                  · exact HO.out.trans ((Own.of_below H7.out hsw5).trans (Own_mono HR9.out.own (Nat.le_trans hsw5 H7.out.size)))
                · go_wp2_with (first
                    | (go_at_call 12; (with_reducible refine cp.mono ?_); rintro e w6 ⟨rfl, rfl⟩)
                    | (go_at_call 11; (with_reducible refine cb.mono ?_); rintro e w7 ⟨gb, cap, rfl, ho, hb7⟩; have hcv := MCr.conv_row ho; rw [HS.out] at hcv; have A7 := HA.out.kept (hb7.block bc hbc) (hb7.block bcm hbcm); have cw : Calls Try.prog 13 #[.pointer (some ⟨bc, 0, none⟩), .int .i64 17] w7 (fun e w' => e = .returned (.int .u32 x17) ∧ w7 = w') := (MR.word_ A7 17 (by omega)).mono (fun e w' h => ⟨by rw [h.1]; exact congrArg (fun z => Ending.returned (.int .u32 z)) HX17.out, h.2⟩); have I7 := MO.inp_of HW.out (HBW.out.trans (hb7.mono hsw)) (Nat.le_trans hsw hb7.size) hwc hwcm; have cr := MV.run_ A7 I7 HF.out.1 HF.out.2 hN1 1 (by omega) _ HR1.out (by show 1 ≤ 4000; omega); have H7 := Lib.hid hb7; clear A7 I7 ho hb7)
                    | (go_at_call 13; (with_reducible refine cw.mono ?_); rintro e w8 ⟨rfl, rfl⟩)
                    | (go_at_call 10; (with_reducible refine cr.mono ?_); rintro e w9 ⟨p9, l9, c9, rfl, R⟩; have HR9 := Lib.hid R; clear R cr cw hcv))
                  refine ⟨⟨k + 1, by omega, by go_num, ?_, ?_, ?_⟩, by first | (simp [intOf]; omega) | omega⟩
                  · rw [HV.out, HVI.out]
                    exact ⟨_, _, rfl, fun h => ⟨g, o + 1, rfl, by show l.length ≤ cl - 1; omega, by unfold maxLen; omega, q3', fun j y hj => by
                                  have := HQ.out (j + 1) y (by simpa using hj)
                                  rwa [show o + (j + 1) = o + 1 + j by omega] at this⟩⟩
                  · rw [HV.out]
                    exact HR9.out.at_
                  · exact HO.out.trans ((Own.of_below H7.out hsw5).trans (Own_mono HR9.out.own (Nat.le_trans hsw5 H7.out.size)))
        · have hkn : k = T.n := by omega
          subst hkn
          have hin := MCo.run_inp N a2.toNat s0 xs1
          rw [HT.out] at hin
          rw [hin] at hw
          have hbw : Below w.heap.size w wr := (H4.out.below.trans (((Below.refl _ _).alloc (Nat.le_refl _) _).mono H4.out.below.size)).trans ((H5.out.mono (by have := H4.out.below.size; simp only [World.size_alloc]; omega)).trans (O.below (by have := H4.out.below.size; omega) (by have := H4.out.below.size; omega) (by have := H4.out.below.size; omega)))
          have hsw := hbw.size
          have hsw5 := O.size
          have hsw4 := H4.out.below.size
          have hold : ∀ j, j < w4.heap.size → wr.heap[j]? = w4.heap[j]? := fun j hj => (O.block j (by omega) (by omega) (by omega)).trans ((H5.out.block j (by simp only [World.size_alloc]; omega)).trans (Below.heap_alloc _ _ _ hj))
          have F6 : Far w a2 b2 wr := ⟨hbw, (World.cell?_of_block (w := w4) (a := ⟨w.heap.size, 0, none⟩) (hold _ (by show w.heap.size < _; omega))).trans H4.out.n0, (World.cell?_of_block (w := w4) (a := ⟨w.heap.size, 1, none⟩) (hold _ (by show w.heap.size < _; omega))).trans H4.out.n1, by omega⟩
          have n0 := F6.n0
          have n1 := F6.n1
          have hxb := lt_of_get HR4.out.at_.head
          have hxbm := lt_of_get HR4.out.at_.mem
          have hxa := lt_of_get HA4.out.head
          have hxam := lt_of_get HA4.out.mem
          have AB := HR4.out.at_.kept (hold bb hxb) (hold bbm hxbm)
          have AA := HA4.out.kept (hold ba hxa) (hold bam hxam)
          obtain ⟨T2, hT2⟩ : ∃ T2, MM.run N b2.toNat T.s T.inp = T2 := ⟨_, rfl⟩
          have hn2 := MCo.run_le N b2.toNat T.s T.inp
          have ho1 := MCr.run_out N a2.toNat s0 xs1
          have ho2 := MCr.run_out N b2.toNat T.s T.inp
          rw [hT2] at hn2 ho2
          rw [HT.out] at ho1
          have hT3 := MM.run_add N a2.toNat b2.toNat s0 xs1
          rw [HT.out, hT2, show a2.toNat + b2.toNat = (a2 + b2).toNat by omega] at hT3
          obtain ⟨T3, hT3'⟩ : ∃ T3, MM.run N (a2 + b2).toNat s0 xs1 = T3 := ⟨_, rfl⟩
          rw [hT3'] at hT3
          have H3s := Lib.hid (show T3.s = T2.s by rw [hT3])
          have H3n := Lib.hid (show T3.n = T.n + T2.n by rw [hT3])
          have H3o := Lib.hid (show T3.out = T.out ++ T2.out by rw [hT3])
          have HT3 := Lib.hid hT3'
          have hn3 : T3.n ≤ 4000 := by rw [H3n.out]; omega
          have I2 := MO.inp_of hw hbw hsw (show w.heap.size ≤ bb by omega) (show w.heap.size ≤ bbm by omega)
          have cg2 := MV.run_ AB I2 HR4.out.fine HR4.out.inb hN1 b2 (by omega) T2 hT2 (by omega)
          have HAA := Lib.hid AA
          have HBW := Lib.hid hbw
          have hbx : bb < w3.heap.size := lt_of_get HA2.out.head
          have hbmx : bbm < w3.heap.size := lt_of_get HA2.out.mem
          have hEa := MCr.row_kept (w' := wr) HR4.out.ev (fun k _ hk => hold k hk)
          have HEa := Lib.hid hEa
          have hqa : wr.heap[w4.heap.size]? = some (.cells #[.int .i64 T.s.state, .int .u32 (MV.codeOf T.s), .slice p4 T.out.length c4, .int .i64 ((T.n : Nat) : Int)] 35 (0, 0)) := bO.trans (b5.trans gR)
          have HQA := Lib.hid hqa
          have hr4 : w4.heap.size < wr.heap.size := by omega
          obtain ⟨pl, cl, rfl, -⟩ := hw
          clear hin hbw F6 AB AA hT2 hT3 hT3' I2 O A HW0 HCL HA2 HA0 HA1b H1 H2 H3 H5 HA3 hold hEa hqa bO b5 gR
          go_upto_region 21 with (go_at_call 10; (with_reducible refine cg2.mono ?_); rintro e w6 ⟨p6, l6, c6, rfl, R⟩; obtain ⟨rfl, -⟩ := evs_of R.ev; have HR6 := Lib.hid R; clear R cg2)
          have h6s := HR6.out.own.size
          have hm6 : w.heap.size < w6.heap.size := by omega
          have m0 := (World.cell?_of_block (w := wr) (w' := w6) (a := ⟨w.heap.size, 0, none⟩) (HR6.out.own.block w.heap.size (by omega) (by omega) (by omega))).trans n0
          have m1 := (World.cell?_of_block (w := wr) (w' := w6) (a := ⟨w.heap.size, 1, none⟩) (HR6.out.own.block w.heap.size (by omega) (by omega) (by omega))).trans n1
          have hb6 := HBW.out.trans (HR6.out.own.below hsw (by omega) (by omega))
          have A3 := HAA.out.kept (w' := w6) (HR6.out.own.block ba (by omega) (by omega) (by omega)) (HR6.out.own.block bam (by omega) (by omega) (by omega))
          have cg3 := fun o => MV.run_ (w := w6.alloc o) (A3.kept (Below.heap_alloc w6 o _ (by omega)) (Below.heap_alloc w6 o _ (by omega))) (MO.inp_of HA1.out (hb6.alloc hb6.size o) (Nat.le_trans hb6.size (by simp)) (by omega) (by omega)) HF.out HX.out hN1 (a2 + b2) (by omega) T3 HT3.out hn3
          have HEa6 := Lib.hid (MCr.row_kept (w' := w6) HEa.out (fun k hk1 hk2 => HR6.out.own.block k hk2 (by omega) (by omega)))
          have HQA6 := Lib.hid ((HR6.out.own.block w4.heap.size hr4 (by omega) (by omega)).trans HQA.out)
          have H6 := Lib.hid hb6
          clear hb6 A3 HEa HQA n0 n1
          go_upto_region 22 with (go_at_call 10; (with_reducible refine (cg3 _).mono ?_); rintro e w7 ⟨p7, l7, c7, he, R⟩; obtain ⟨rfl, -⟩ := evs_of R.ev; rw [H3s.out] at he; subst he; have h7s := R.own.size; simp only [World.size_alloc] at h7s; have HR7 := Lib.hid R; clear R cg3)
          have hc6 : w7.heap[w6.heap.size]? = some (.cells #[.int .i64 T2.s.state, .int .u32 (MV.codeOf T2.s), .slice p6 T2.out.length c6, .int .i64 ((T2.n : Nat) : Int)] 35 (0, 0)) := (HR7.out.own.block w6.heap.size (by simp only [World.size_alloc]; omega) (by omega) (by omega)).trans (heap_alloc_new w6 _)
          have hc4 := (HR7.out.own.block w4.heap.size (by simp only [World.size_alloc]; omega) (by omega) (by omega)).trans ((Below.heap_alloc w6 _ _ (by omega)).trans HQA6.out)
          have hE1 := MCr.row_kept (w' := w7) HEa6.out (fun k hk1 hk2 => (HR7.out.own.block k (by simp only [World.size_alloc]; omega) (by omega) (by omega)).trans (Below.heap_alloc w6 _ _ hk2))
          have hE2 := MCr.row_kept (w' := w7) HR6.out.ev (fun k hk1 hk2 => (HR7.out.own.block k (by simp only [World.size_alloc]; omega) (by omega) (by omega)).trans (Below.heap_alloc w6 _ _ hk2))
          have hE3 := es_of HR7.out.ev
          have hAa := HR7.out.at_
          have hAb := HR6.out.at_
          have hxb6 := lt_of_get hAb.head
          have hxbm6 := lt_of_get hAb.mem
          have hxa7 := lt_of_get hAa.head
          have hxam7 := lt_of_get hAa.mem
          have hAb7 := hAb.kept (w' := w7) ((HR7.out.own.block bb (by simp only [World.size_alloc]; omega) (by omega) (by omega)).trans (Below.heap_alloc w6 _ _ hxb6)) ((HR7.out.own.block bbm (by simp only [World.size_alloc]; omega) (by omega) (by omega)).trans (Below.heap_alloc w6 _ _ hxbm6))
          rw [H3s.out] at hAa
          have hB7 : Below w.heap.size w w7 := (H6.out.alloc H6.out.size _).trans (HR7.out.own.below (by simp only [World.size_alloc]; omega) (by omega) (by omega))
          generalize hW8 : w7.alloc _ = W8
          have g7 : W8.heap[w7.heap.size]? = some (.cells #[.int .i64 T2.s.state, .int .u32 (MV.codeOf T2.s), .slice p7 T3.out.length c7, .int .i64 ((T3.n : Nat) : Int)] 35 (0, 0)) := by rw [← hW8]; exact heap_alloc_new w7 _
          have hb8 : Below w7.heap.size w7 W8 := by rw [← hW8]; exact (Below.refl _ _).alloc (Nat.le_refl _) _
          have hs8 : w7.heap.size < W8.heap.size := by rw [← hW8]; simp
          have g6 := (hb8.block w6.heap.size (by omega)).trans hc6
          have g4 := (hb8.block w4.heap.size (by omega)).trans hc4
          have hE1' := MCr.row_kept (w' := W8) hE1 (fun k _ hk => hb8.block k hk)
          have hE2' := MCr.row_kept (w' := W8) hE2 (fun k _ hk => hb8.block k hk)
          have hE3' := hE3.below hb8
          have hAa8 := hAa.kept (hb8.block ba hxa7) (hb8.block bam hxam7)
          have hAb8 := hAb7.kept (hb8.block bb (by omega)) (hb8.block bbm (by omega))
          have HB8 := Lib.hid (hB7.trans (hb8.mono hB7.size))
          have G7 := Lib.hid g7
          have G6 := Lib.hid g6
          have G4 := Lib.hid g4
          have E1 := Lib.hid hE1'
          have E2 := Lib.hid hE2'
          have E3 := Lib.hid hE3'
          have Aa := Lib.hid hAa8
          have Ab := Lib.hid hAb8
          have hlen : T.out.length + T2.out.length ≤ 600 := by omega
          clear hW8 hb8 g7 g6 g4 hE1 hE2 hE3 hE1' hE2' hE3' hAa hAb hAb7 hAa8 hAb8 hc6 hc4 hB7 HR6 HR7 H6 HQA6 HEa6 m0 m1 HBW HAA HA4 HR4 H4
          generalize hst : T2.s.state = st at *
          generalize hcd : MV.codeOf T2.s = cd at *
          have HPC := Lib.hid (show T2.s.pc = T2.s.pc from rfl)
          have e1 : IntKind.i64.wrap ((T.n : Int) + T2.n) = (T3.n : Int) := by rw [H3n.out, IntKind.wrap_i64]; omega
          clear hst hcd
          have hS : ∀ w', Below W8.heap.size W8 w' → (w'.cell? ⟨w7.heap.size, 0, none⟩ = some (.int .i64 st) ∧ w'.cell? ⟨w7.heap.size, 1, none⟩ = some (.int .u32 cd) ∧ w'.cell? ⟨w7.heap.size, 2, none⟩ = some (.slice p7 T3.out.length c7) ∧ w'.cell? ⟨w7.heap.size, 3, none⟩ = some (.int .i64 (T3.n : Int)) ∧ w'.cell? ⟨w6.heap.size, 0, none⟩ = some (.int .i64 st) ∧ w'.cell? ⟨w6.heap.size, 1, none⟩ = some (.int .u32 cd) ∧ w'.cell? ⟨w6.heap.size, 2, none⟩ = some (.slice p6 T2.out.length c6) ∧ w'.cell? ⟨w6.heap.size, 3, none⟩ = some (.int .i64 (T2.n : Int)) ∧ w'.cell? ⟨w4.heap.size, 2, none⟩ = some (.slice p4 T.out.length c4) ∧ w'.cell? ⟨w4.heap.size, 3, none⟩ = some (.int .i64 (T.n : Int))) := fun w' hb => ⟨(hb.cell (p := ⟨w7.heap.size, 0, none⟩) (by show w7.heap.size < _; omega)).trans ((cell_of_row _ w7.heap.size 0 _ _ _ G7.out).trans rfl), (hb.cell (p := ⟨w7.heap.size, 1, none⟩) (by show w7.heap.size < _; omega)).trans ((cell_of_row _ w7.heap.size 1 _ _ _ G7.out).trans rfl), (hb.cell (p := ⟨w7.heap.size, 2, none⟩) (by show w7.heap.size < _; omega)).trans ((cell_of_row _ w7.heap.size 2 _ _ _ G7.out).trans rfl), (hb.cell (p := ⟨w7.heap.size, 3, none⟩) (by show w7.heap.size < _; omega)).trans ((cell_of_row _ w7.heap.size 3 _ _ _ G7.out).trans rfl), (hb.cell (p := ⟨w6.heap.size, 0, none⟩) (by show w6.heap.size < _; omega)).trans ((cell_of_row _ w6.heap.size 0 _ _ _ G6.out).trans rfl), (hb.cell (p := ⟨w6.heap.size, 1, none⟩) (by show w6.heap.size < _; omega)).trans ((cell_of_row _ w6.heap.size 1 _ _ _ G6.out).trans rfl), (hb.cell (p := ⟨w6.heap.size, 2, none⟩) (by show w6.heap.size < _; omega)).trans ((cell_of_row _ w6.heap.size 2 _ _ _ G6.out).trans rfl), (hb.cell (p := ⟨w6.heap.size, 3, none⟩) (by show w6.heap.size < _; omega)).trans ((cell_of_row _ w6.heap.size 3 _ _ _ G6.out).trans rfl), (hb.cell (p := ⟨w4.heap.size, 2, none⟩) (by show w4.heap.size < _; omega)).trans ((cell_of_row _ w4.heap.size 2 _ _ _ G4.out).trans rfl), (hb.cell (p := ⟨w4.heap.size, 3, none⟩) (by show w4.heap.size < _; omega)).trans ((cell_of_row _ w4.heap.size 3 _ _ _ G4.out).trans rfl)⟩
          have HSS := Lib.hid hS
          have hS0 := hS W8 (Below.refl _ _)
          obtain ⟨s0', s1', s2', s3', s4', s5', s6', s7', s8', s9'⟩ := hS0
          obtain ⟨i0, hi, hz0, hz1, hz2⟩ := info_parts ME.info_ev
          have hlen3 : T3.out.length ≤ 100000 := by rw [H3o.out, List.length_append]; omega
          have hxa8 : ba < W8.heap.size := by omega
          have hxam8 : bam < W8.heap.size := by omega
          have hxb8 : bb < W8.heap.size := by omega
          have hxbm8 : bbm < W8.heap.size := by omega
          have hB0 : Below W8.heap.size W8 (W8.alloc (.cells #[] 60)) := (Below.refl _ _).alloc (Nat.le_refl _) _
          have hown1 := World.ownsRow_lit (base := W8.heap.size) (e := 60) (size := 3) W8 #[] 0 (Nat.le_refl _) (Nat.zero_le _) rfl
          have hE1n := MCr.row_kept (w' := W8.alloc (.cells #[] 60)) E1.out (fun k _ hk => hB0.block k hk)
          have hEs10 : ∀ {w : World} {p : Option Addr} {l c : Nat}, w.ownsRow W8.heap.size 60 3 (.slice p l c) (0 + T.out.length + T2.out.length) ([] ++ MD.evs T.out ++ MD.evs T2.out) → Es w (.slice p l c) T3.out := fun h => by
            refine es_of (B := W8.heap.size) ?_
            rw [H3o.out, ← MCr.evs_app, List.length_append]
            simpa only [Nat.zero_add, List.nil_append] using h
          clear hS
          go_region_held3 (fun w' => w'.cell? ⟨w7.heap.size, 0, none⟩ = some (.int .i64 st) ∧ w'.cell? ⟨w7.heap.size, 1, none⟩ = some (.int .u32 cd) ∧ w'.cell? ⟨w7.heap.size, 2, none⟩ = some (.slice p7 T3.out.length c7) ∧ w'.cell? ⟨w7.heap.size, 3, none⟩ = some (.int .i64 (T3.n : Int)) ∧ w'.cell? ⟨w6.heap.size, 0, none⟩ = some (.int .i64 st) ∧ w'.cell? ⟨w6.heap.size, 1, none⟩ = some (.int .u32 cd) ∧ w'.cell? ⟨w6.heap.size, 2, none⟩ = some (.slice p6 T2.out.length c6) ∧ w'.cell? ⟨w6.heap.size, 3, none⟩ = some (.int .i64 (T2.n : Int)) ∧ w'.cell? ⟨w4.heap.size, 2, none⟩ = some (.slice p4 T.out.length c4) ∧ w'.cell? ⟨w4.heap.size, 3, none⟩ = some (.int .i64 (T.n : Int))) (first | go_keep | exact HSS.out _ hB0 | exact HSS.out _ hb9 | exact HSS.out _ hb10 | exact HSS.out _ hb11)
            ((first
              | (go_at_call 14; (with_reducible refine (MCp.events_ _ _ _ T3.out (E3.out.below hb10) (hEs10 HO10.out) hlen3).mono ?_); rintro e w11 ⟨rfl, hb11'⟩; have hb11 := hb10.trans (hb11'.mono hb10.size); clear hb11')
              | (refine MCr.step_append_row _ (by first | rfl | (simp [Region.wanted, yielded]; done) | (simp [go_sem]; done)) _ _ _ (by rfl) W8.heap.size 60 i0 (.agg #[.int .i64 0, .int .u32 0, .int .u64 0]) 3 24 Try.underlying33 hi hz0 hz1 hz2 rfl (by decide) (.slice p9 l9 c9) (0 + T.out.length) ([] ++ MD.evs T.out) (by rfl) ho9 (wr.heap.size + 3) (.slice p6 T2.out.length c6) T2.out.length (MD.evs T2.out) (by rfl) hE2n (MCr.evs_one _) (by unfold maxLen; omega) (by omega) hb9.size ?_; intro p10 l10 c10 w10 ho10 hg10 hat10; have hb10 := hb9.grown hg10 hb9.size (fun g hg => (ho9.lt g hg).1); have HO10 := Lib.hid ho10; have HAT10 := Lib.hid hat10; clear ho10 hat10 hg10)
              | (refine MCr.step_append_row _ (by first | rfl | (simp [Region.wanted, yielded]; done) | (simp [go_sem]; done)) _ _ _ (by rfl) W8.heap.size 60 i0 (.agg #[.int .i64 0, .int .u32 0, .int .u64 0]) 3 24 Try.underlying33 hi hz0 hz1 hz2 rfl (by decide) (.slice (some ⟨W8.heap.size, 0, none⟩) 0 0) 0 [] (by rfl) hown1 (w3.heap.size + 3) (.slice p4 T.out.length c4) T.out.length (MD.evs T.out) (by rfl) hE1n (MCr.evs_one _) (by unfold maxLen; omega) (by omega) (by simp) ?_; intro p9 l9 c9 w9 ho9 hg9 hat9; have hb9 := hB0.drew.grown hg9 (by simp) (fun g hg => by cases hg; exact Nat.le_refl _); have hE2n := MCr.row_kept E2.out (fun k _ hk => hb9.block k hk); have HAT9 := Lib.hid hat9; clear hat9 hown1)
              | (go_at_call 12; (with_reducible refine (MR.place_ (Aa.out.kept (hb11.block ba hxa8) (hb11.block bam hxam8))).mono ?_); rintro e w12 ⟨rfl, rfl⟩)
              | (go_at_call 12; (with_reducible refine (MR.place_ (Ab.out.kept (hb11.block bb hxb8) (hb11.block bbm hxbm8))).mono ?_); rintro e w12 ⟨rfl, rfl⟩)))
          all_goals (go_wp2; go_ret; exact ⟨rfl, HB8.out.trans (hb11.mono HB8.out.size)⟩)

set_option maxRecDepth 100000 in
theorem lifted (os : Os) (started : os.Started) (H : Type) (enc : TypeId × Value → H) :
    ReturnsInHanded {} Try.checked os 3 .any (Rows.machineSplitsSpec.pre6 enc Try.prog Try.f3 Rows.machineSplitsRow.domain false) (Rows.machineSplitsSpec.post enc Try.prog Try.f3 false true false false) := by
  refine returnsInHanded_of_change (C := Try.checked) own started (by kernel_rfl) Try.func3
    (ChangeSpec.witness6 (enc := enc) (C := Try.checked) false ⟨#[], #[.slice none 0 0, .slice none 0 0, .agg #[.int .u8 0, .int .u8 0]], []⟩ 8 (by kernel_rfl) (by kernel_rfl) (by kernel_rfl) (by kernel_rfl)) ?_
  intro W base args ds gs before hval0 hW hcnd _
  have hval : ∀ (j : Nat) t v, Try.f3.params[j]? = some t → args[j]? = some v → Value.okWide Try.prog W .any base t v := hval0
  have hW' := hW
  obtain ⟨p, q, hA0, hV, rfl, hfz, hnd⟩ := hW
  have hA : DataW.TrodAll enc Try.prog W 0 (fun _ => true) true Try.f3.params.toList args.toList ds p := hA0
  rw [Try.params3] at hA hval
  obtain ⟨v0, vs0, d0, ds0, p0, q0, hargs, rfl, rfl, h0, r0⟩ := trodAll_cons hA
  obtain ⟨v1, vs1, d1, ds1, p1, q1, rfl, rfl, rfl, h1, r1⟩ := trodAll_cons r0
  obtain ⟨v2, vs2, d2, ds2, p2, q2, rfl, rfl, rfl, h2, r2⟩ := trodAll_cons r1
  obtain ⟨rfl, rfl, rfl⟩ := trodAll_nil r2
  obtain rfl : args = #[v0, v1, v2] := by cases args; simp_all
  obtain ⟨rfl, rfl⟩ := trodVars_none hV
  obtain ⟨xs0, ha0, hx0, sh0⟩ := MO.open_nums Try.underlying22 Try.underlying5 (by kernel_rfl) (hval 0 22 v0 rfl rfl) h0
  obtain ⟨xs1, ha1, hx1, sh1⟩ := MO.open_nums Try.underlying23 Try.underlying32 (by kernel_rfl) (hval 1 23 v1 rfl rfl) h1
  obtain ⟨a2, b2, rfl, rfl, rfl, wa2, wb2⟩ := CP.open_two (hval 2 24 v2 rfl rfl) h2
  clear hA0 hval0
  simp only [List.append_nil] at hW'
  refine (walk v0 xs0 v1 xs1 a2 b2 wa2 wb2 W ha0 hx0 ha1 hx1).mono fun e W' ⟨he, hg⟩ => ?_
  subst he
  exact ⟨_, rfl, _, _, _, [], _, _, hW', (trodAll_cons_mk (shut_bool Try.underlying4 _) trodAll_mk0), (trodAll_cons_mk (sh0 _ _ (fun b hb => decide_eq_true hb) hg) (trodAll_cons_mk (sh1 _ _ (fun b hb => decide_eq_true hb) hg) (trodAll_cons_mk (CP.shut_two wa2 wb2) trodAll_mk0))), rfl, hg.frame _, fun h => by cases h⟩

theorem over : Rows.machineSplitsRow.holds Try.pinned (OpenSpec.ofChange Rows.machineSplitsSpec) :=
  OpenClaim.holds_of_wide 3 Try.f3 rfl rfl rfl rfl rfl rfl rfl ⟨rfl, rfl, rfl, rfl, rfl⟩ rfl rfl rfl rfl rfl (by kernel_rfl) Try.func3 (by kernel_rfl)
    (of_decide_eq_true (by kernel_rfl)) (by unfold Func.isWrapper; first | (rw [if_pos (by decide +kernel)]; kernel_rfl) | (rw [if_neg (by decide +kernel)]; exact ⟨rfl, rfl⟩))
    (fun os started H enc _ => lifted os started H enc)

/-- The statement. -/
theorem proved : Rows.MachineSplitsSaid :=
  over
end Go.Proofs.Ytanlccnhkiibeaa.machineSplits
