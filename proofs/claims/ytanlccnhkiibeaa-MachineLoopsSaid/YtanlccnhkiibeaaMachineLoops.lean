/-
  For every n the law MachineLoops returns true: the program counts down from it, prints every number and halts; and a halted machine runs no further.
  Conditions: none beyond those of the given statement.
-/
import Derived.Test.YtanlccnhkiibeaaRows
import Derived.Test.YtanlccnhkiibeaaMachY
import Derived.Test.YtanlccnhkiibeaaMachO
import Derived.Laws.StructEq
import Derived.BigGuardPart
import Derived.BigQuiet
import Derived.Deep.DeepCutAuto
import Derived.Deep.AppendLies
import Derived.WalkKit
import Derived.ProofKit
import Derived.OpenShut
namespace Go.Proofs.Ytanlccnhkiibeaa.machineLoops
open Go.ChangeShapes Go.WideShapes Go.ChangeAt Go.RowKit
set_option linter.unusedVariables false
set_option linter.unusedSimpArgs false

theorem own : ownKnob Try.prog.godebug = none := by kernel_rfl
open MM MC MB MP MQ MK MR MX MY
def lcells (n : Int) : Array Value := #[.int .i64 18, .int .i64 10, .int .i64 0, .int .i64 0, .int .i64 n, .int .i64 18, .int .i64 17, .int .i64 0, .int .i64 0, .int .i64 1, .int .i64 42, .int .i64 0, .int .i64 0, .int .i64 0, .int .i64 0, .int .i64 18, .int .i64 10, .int .i64 10, .int .i64 0, .int .i64 (-1), .int .i64 33, .int .i64 0, .int .i64 10, .int .i64 0, .int .i64 (-8), .int .i64 18, .int .i64 17, .int .i64 0, .int .i64 0, .int .i64 3, .int .i64 42, .int .i64 0, .int .i64 0, .int .i64 0, .int .i64 0]
theorem is_loop (w : World) (n : Int) : Is (w.alloc (.cells (lcells n) 54)) (.slice (some ⟨w.heap.size, 0, none⟩) 7 7) (loopL n) := by
  have hg := heap_alloc_new w (.cells (lcells n) 54)
  refine ⟨w.heap.size, 7, rfl, by simp, fun k a b c d e hk => ?_⟩
  have c := fun j => cell_of_row _ w.heap.size j _ _ _ hg
  match k, hk with
  | 0, hk => cases hk; exact ⟨c 0, c 1, c 2, c 3, c 4⟩
  | 1, hk => cases hk; exact ⟨c 5, c 6, c 7, c 8, c 9⟩
  | 2, hk => cases hk; exact ⟨c 10, c 11, c 12, c 13, c 14⟩
  | 3, hk => cases hk; exact ⟨c 15, c 16, c 17, c 18, c 19⟩
  | 4, hk => cases hk; exact ⟨c 20, c 21, c 22, c 23, c 24⟩
  | 5, hk => cases hk; exact ⟨c 25, c 26, c 27, c 28, c 29⟩
  | 6, hk => cases hk; exact ⟨c 30, c 31, c 32, c 33, c 34⟩
  | (k + 7), hk => simp [loopL] at hk
theorem of_ (x : Int) (h : 1 ≤ x ∧ x ≤ 500) (w : World) : Calls Try.prog 19 #[.int .i64 x] w fun e w' => e = .returned (.int .u32 x) ∧ w' = w := by
  have e : wrap64 (x.tmod 4294967296) = x := by rw [Int.tmod_eq_emod_of_nonneg (by omega)]; unfold wrap64; omega
  have e2 : x.tmod 4294967296 = x := by rw [Int.tmod_eq_emod_of_nonneg (by omega)]; omega
  have u : IntKind.u32.wrap x = x := IntWalk.u32_in x (by omega)
  go_enter Try.func19, Try.ntmps19
  go_wp2
  go_ret
  exact ⟨rfl, rfl⟩
theorem five00 (x : Int) : ∃ n : Nat, 1 ≤ n ∧ n ≤ 500 ∧ wrap64 (wrap64 ((IntKind.u64.wrap x).tmod 500) + 1) = (n : Int) := by
  have h0 : 0 ≤ IntKind.u64.wrap x := by rw [show IntKind.u64.wrap x = x % 18446744073709551616 by simp [IntKind.wrap, IntKind.bits, IntKind.signed]]; omega
  rw [Int.tmod_eq_emod_of_nonneg h0]
  generalize IntKind.u64.wrap x = z at *
  refine ⟨(z % 500 + 1).toNat, by omega, by omega, ?_⟩
  unfold wrap64
  omega
theorem evs_get : ∀ (L : List MM.Ev) (k : Nat) (x : MM.Ev), L[k]? = some x → (MD.evs L)[k * 3]? = some (.int .i64 x.1) ∧ (MD.evs L)[k * 3 + 1]? = some (.int .u32 x.2.1) ∧ (MD.evs L)[k * 3 + 2]? = some (.int .u64 (x.2.2 : Nat))
  | [], k, x, h => by simp at h
  | y :: L, 0, x, h => by
    simp only [List.getElem?_cons_zero, Option.some.injEq] at h
    subst h; exact ⟨rfl, rfl, rfl⟩
  | y :: L, k + 1, x, h => by
    have ih := evs_get L k x (by simpa using h)
    have e : MD.evs (y :: L) = Value.int .i64 y.1 :: .int .u32 y.2.1 :: .int .u64 (y.2.2 : Nat) :: MD.evs L := rfl
    rw [e, show (k + 1) * 3 = k * 3 + 1 + 1 + 1 by omega]
    simpa only [List.getElem?_cons_succ] using ih
/-- events in memory -/
theorem evs_of {w : World} {B : Nat} {p : Option Addr} {l c : Nat} {L : List MM.Ev} (h : w.ownsRow B 60 3 (.slice p l c) L.length (MD.evs L)) :
    l = L.length ∧ ∀ (k : Nat) (x : MM.Ev), L[k]? = some x → ∃ g, p = some ⟨g, 0, none⟩ ∧ g < w.heap.size ∧ w.cell? ⟨g, k * 3, none⟩ = some (.int .i64 x.1) ∧ w.cell? ⟨g, k * 3 + 1, none⟩ = some (.int .u32 x.2.1) ∧ w.cell? ⟨g, k * 3 + 2, none⟩ = some (.int .u64 (x.2.2 : Nat)) := by
  rcases h.2 with ⟨h0, h1⟩ | ⟨g, cap, cur, h0, hb, hg, hn, hc, hs, ht⟩
  · cases h0
    refine ⟨h1.symm, fun k x hk => ?_⟩
    have := (List.getElem?_eq_some_iff.1 hk).1
    omega
  · cases h0
    refine ⟨rfl, fun k x hk => ⟨g, rfl, lt_of_get hg, ?_⟩⟩
    obtain ⟨e1, e2, e3⟩ := evs_get L k x hk
    have f := fun j v hj => (h.cells (g := g) rfl) j v hj
    have e : ∀ j, (⟨g, 0, none⟩ : Addr).add j = ⟨g, j, none⟩ := fun j => by unfold Addr.add; split <;> simp_all
    refine ⟨?_, ?_, ?_⟩
    · rw [← e]; exact f _ _ e1
    · rw [← e]; exact f _ _ e2
    · rw [← e]; exact f _ _ e3
theorem dn {B : Nat} {a w : World} {q : Nat} (h : Below B a w) : Below B a (w.drewN q) := ⟨h.os, h.tape, h.output, h.size, h.block⟩
/-- the two runs -/
theorem loop_T (n : Nat) (h0 : 1 ≤ n) (h5 : n ≤ 500) : ∃ T U : Rn, MM.run 32 10000 (MW.loaded (fb ((loopL (n : Int)).map wordOf)) 28 (MW.up 28) 32 0) [] = T ∧ T.s.state = 1 ∧ MV.codeOf T.s = 0 ∧ T.n = 4 + 3 * n ∧ T.out.length = n ∧ (∀ i, i < n → T.out[i]? = some (1, (n : Int) - i, 0)) ∧
    MM.run 32 5 T.s [] = U ∧ U.s.state = 1 ∧ MV.codeOf U.s = 0 ∧ U.n = 0 ∧ U.out = [] := by
  obtain ⟨sT, out, hT, t1, t2, t3, t4⟩ := loop_run (N := 32) (by omega) n h0 h5 (MW.loaded (fb ((loopL (n : Int)).map wordOf)) 28 (MW.up 28) 32 0) ⟨code_loaded (loopL _) _ _ _, rfl, rfl, rfl⟩ 10000 (by omega)
  have hc : MV.codeOf sT = 0 := by unfold MV.codeOf; rw [if_pos t1, t2]
  exact ⟨_, _, hT, t1, hc, rfl, t3, t4, run_stop 32 5 sT [] (by rw [t1]; decide), t1, hc, rfl, rfl⟩

set_option maxRecDepth 100000 in
set_option maxHeartbeats 8000000 in
theorem walk (a0 : Int) (wa0 : (Lit.int .i64 a0).wf = true) (w : World) :
    Calls Try.prog 5 #[.int .i64 a0] w fun e w' => e = .returned (.bool true) ∧ Below w.heap.size w w' := by
  go_enter Try.func5, Try.ntmps5
  go_upto_region 3 with (go_at_call 8; refine (awake_ _).mono ?_; rintro e w1 ⟨rfl, hb0⟩)
  go_cut [0] from 16 (fun s0 wx => wx = w1 ∧ ∃ n : Nat, 1 ≤ n ∧ n ≤ 500 ∧ s0 = .int .i64 n)
  case first =>
    go_wp2
    go_meet
    obtain ⟨n, h1, h2, h3⟩ := five00 a0
    exact ⟨rfl, n, h1, h2, by rw [← h3]⟩
  case rest =>
    obtain ⟨rfl, n, hn0, hn5, rfl⟩ := hcut
    obtain ⟨i0, hi, hz0, hz1, hz2⟩ := info_parts u32_info
    have HI := Lib.hid (is_loop wc n)
    have HGO := Lib.hid (loop_good n hn5)
    have hs0 := hb0.size
    have HL := Lib.hid hb0
    clear hb0
    obtain ⟨g, cc, hv, hgl, hcell⟩ := HI.out
    obtain ⟨rfl, -, rfl⟩ : g = wc.heap.size ∧ (loopL (n : Int)).length = 7 ∧ cc = 7 := by simpa using hv.symm
    clear HI hv
    have HC := Lib.hid hcell
    clear hcell
    unfold lcells at HC hgl
    go_wp2
    go_loopw [3, 31] (fun s3 i wr => ∃ k : Nat, k ≤ 7 ∧ i = .int .i64 k ∧ wr.ownsRow (wc.heap.size + 1) 32 1 s3 k (u32s (((loopL n).take k).map wordOf)) ∧ Below (wc.heap.size + 1) (wc.alloc (.cells (lcells n) 54)) wr) (fun _ i _ => 7 - (intOf i).toNat)
    case atStart => exact ⟨0, Nat.zero_le _, rfl, World.ownsRow_nil _ _ _ _, Below.refl _ _⟩
    case round =>
      obtain ⟨k, hk, rfl, hown, hbel⟩ := hrel
      have hsz := hbel.size
      simp only [World.size_alloc] at hsz
      by_cases hlt : k < 7
      · obtain ⟨⟨a, b, c, d, e⟩, hx1⟩ : ∃ x, (loopL (n : Int))[k]? = some x := ⟨(loopL (n : Int))[k], List.getElem?_eq_getElem hlt⟩
        obtain ⟨p0, p1, p2, p3, p4⟩ := HC.out k a b c d e hx1
        have q0 := (hbel.cell (p := ⟨wc.heap.size, k * 5, none⟩) (by show wc.heap.size < _; omega)).trans p0
        have q1 := (hbel.cell (p := ⟨wc.heap.size, k * 5 + 1, none⟩) (by show wc.heap.size < _; omega)).trans p1
        have q2 := (hbel.cell (p := ⟨wc.heap.size, k * 5 + 2, none⟩) (by show wc.heap.size < _; omega)).trans p2
        have q3 := (hbel.cell (p := ⟨wc.heap.size, k * 5 + 3, none⟩) (by show wc.heap.size < _; omega)).trans p3
        have q4 := (hbel.cell (p := ⟨wc.heap.size, k * 5 + 4, none⟩) (by show wc.heap.size < _; omega)).trans p4
        clear p0 p1 p2 p3 p4
        obtain ⟨g1, g2, g3, g4, g5⟩ := HGO.out _ (List.mem_of_getElem? hx1)
        have hop : (Lit.int .i64 a).wf = true := by
          have := CM.isOp_yes (CL.good_of_enc g1).1
          refine WalkArith.wf_i64 ?_; omega
        have ce : ∀ w, Calls Try.prog 17 #[.agg #[.int .i64 a, .int .i64 b, .int .i64 c, .int .i64 d, .int .i64 e]] w fun r w' => r = .returned (.tuple #[.int .u32 (CE.encW a b c d e), .int .i64 0]) ∧ Below w.heap.size w w' := fun w => by
          have h := CE.encode_ a b c d e hop w
          rw [g1] at h
          exact h
        have HT := Lib.hid (take_map hx1)
        have HW := Lib.hid (show wordOf (a, b, c, d, e) = CE.encW a b c d e from rfl)
        clear hx1 g1 g2 g3 g4 g5 hop
        generalize CE.encW a b c d e = W at *
        go_wp2_with (first
          | (go_at_call 17; (with_reducible refine (ce _).mono ?_); rintro e w1 ⟨rfl, hb1⟩; have hbl := (hbel.alloc (by omega) _).trans (hb1.mono (by simp only [World.size_alloc]; omega)); have ho1 : w1.ownsRow (wc.heap.size + 1) 32 1 u3 k (u32s (((loopL n).take k).map wordOf)) := ((hown.alloc _).kept (CD.grown_of hb1) (by cases hv : u3.ownBlock <;> simp)); have hs1 := hbl.size; simp only [World.size_alloc] at hs1; have HB := Lib.hid hbl; have HHO := Lib.hid ho1; have HW1 := Lib.hid hown; clear hbl ho1 hb1 hown hbel)
          | (at_builtin; refine wpList_append_lies _ rfl _ _ 23 rfl (wc.heap.size + 1) 32 i0 (.int .u32 0) 1 4 Try.underlying23 hi hz0 hz1 hz2 rfl (by decide) _ _ _ rfl (HHO.out.alloc _) ⟨w1.heap.size, 0, none⟩ 1 1 [.int .u32 W] rfl rfl (World.news_of_block (cs := #[.int .u32 W]) (t := 32) (fr := (0, 0)) (heap_alloc_new w1 _)) (by simp [Value.oneCell']) (by decide) (by unfold maxLen; omega) (by omega) (by simp only [World.size_alloc]; omega) (w1.heap.size + 1) (by simp only [World.size_alloc]) ?_; intro gg cap w3 hown3 hgrow3 hat3 hlt3; have HO := Lib.hid hown3; have HG := Lib.hid hgrow3; clear hown3 hgrow3 hat3))
        refine ⟨⟨k + 1, by omega, by go_num, ?_, ?_⟩, by simp [intOf]; omega⟩
        · rw [HT.out, HW.out]
          have e : u32s (((loopL n).take k).map wordOf ++ [W]) = u32s (((loopL n).take k).map wordOf) ++ [.int .u32 W] := by simp [u32s]
          rw [e]
          exact HO.out
        · exact (HB.out.alloc (by omega) _).grown HG.out (by simp only [World.size_alloc]; omega) (fun g hg => (HW1.out.lt g hg).1)
      · have hkn : k = 7 := by omega
        subst hkn
        rw [show (loopL (n : Int)).take 7 = loopL (n : Int) from rfl] at hown
        have hws := Lib.hid (ws_of (w := wr) (v := u3) (xs := (loopL (n : Int)).map wordOf) hown)
        have hl1 : ((loopL (n : Int)).map wordOf).length ≤ 100000 := by show 7 ≤ 100000; omega
        have hl2 : (loopL (n : Int)).map wordOf ≠ [] := by simp [loopL]
        have hl3 : 4 * ((loopL (n : Int)).map wordOf).length = 28 := rfl
        have hbw : Below w.heap.size w wr := (HL.out.alloc hs0 _).trans (hbel.mono (by omega))
        have HBW := Lib.hid hbw
        have hs1 := hbw.size
        clear hown hbel hbw HC HGO hgl
        obtain ⟨T, U, hT, t1, t2, t3, t4, t5, hU, u1, u2, u3', u4'⟩ := loop_T n hn0 hn5
        have HT := Lib.hid hT
        have HT1 := Lib.hid t1
        have HT2 := Lib.hid t2
        have HT3 := Lib.hid t3
        have HT4 := Lib.hid t4
        have HT5 := Lib.hid t5
        have HU := Lib.hid hU
        have HU1 := Lib.hid u1
        have HU2 := Lib.hid u2
        have HU3 := Lib.hid u3'
        have HU4 := Lib.hid u4'
        clear hT t1 t2 t3 t4 t5 hU u1 u2 u3' u4'
        go_wp2_with (first
          | (go_at_call 18; (with_reducible refine (bytes_ _ u3 _ hl1 hws.out).mono ?_); rintro e w3 ⟨v2, rfl, ho2, hb2⟩; obtain ⟨g, cap, rfl, hg, hcell⟩ := image_of ho2 hl2 28 hl3; have HC := Lib.hid hcell; have H2 := Lib.hid hb2; clear ho2 hb2 hcell)
          | (go_at_call 9; (with_reducible refine (MW.load_ok 0 (by omega) g 0 28 cap 0 (by omega) (by omega) (by decide) 32 (by decide) _ _ hg HC.out).mono ?_); rintro e w4 ⟨b, bm, rfl, A, hb, hbm, hb3⟩; have cg := MV.run_ A (inp_nil _ _ b bm) (fine_loaded (fb_bd _) 28 32 _ 0 (by decide) (by omega) (by omega)) (by simp) (by omega) 10000 (by omega) T HT.out (by rw [HT3.out]; omega); have H3 := Lib.hid hb3; clear A hb3)
          | (go_at_call 10; (with_reducible refine cg.mono ?_); rintro e w5 ⟨p5, l5, c5, he, R⟩; obtain ⟨rfl, hev⟩ := evs_of R.ev; rw [HT1.out, HT2.out, HT3.out, HT4.out] at he; subst he; have HR := Lib.hid R; have HE := Lib.hid hev; clear R hev cg))
        have hbx : w.heap.size ≤ b ∧ w.heap.size ≤ bm := by
          have s2 := H2.out.size
          omega
        have hbw5 : Below w.heap.size w w5 := by
          have s2 := H2.out.size
          have s3 := H3.out.size
          exact HBW.out.trans ((H2.out.mono (by omega)).trans ((H3.out.mono (by omega)).trans (HR.out.own.below (by omega) (by omega) (by omega))))
        have HB := Lib.hid hbw5
        clear hbw5 H2 H3 HC HBW hws
        go_loopw [88] (fun s88 wx => ∃ j : Nat, j ≤ n ∧ s88 = .int .i64 j ∧ Below (w5.heap.size + 1) (w5.alloc (.cells #[.int .i64 1, .int .u32 0, .slice p5 n c5, .int .i64 (4 + 3 * (n : Int))] 35)) wx) (fun i _ => n - (intOf i).toNat)
        case atStart => exact ⟨0, Nat.zero_le _, rfl, Below.refl _ _⟩
        case round =>
          obtain ⟨j, hj, rfl, hbel⟩ := hrel
          have hsz := hbel.size
          simp only [World.size_alloc] at hsz
          have hs5 := HB.out.size
          have hb5 : Below w5.heap.size w5 wr := ((Below.refl _ _).alloc (Nat.le_refl _) _).trans (hbel.mono (by omega))
          by_cases hlt : j < n
          · obtain ⟨ge, rfl, hge, e1, e2, e3⟩ := HE.out j _ (HT5.out j hlt)
            have q1 := (hb5.cell (p := ⟨ge, j * 3, none⟩) hge).trans e1
            have q2 := (hb5.cell (p := ⟨ge, j * 3 + 1, none⟩) hge).trans e2
            have q3 := (hb5.cell (p := ⟨ge, j * 3 + 2, none⟩) hge).trans e3
            have co := fun w => of_ ((n : Int) - j) (by omega) w
            clear e1 e2 e3
            go_wp2
            go_quiet ((go_at_call 19; exact Calls.quiet_of_same (co _)))
            go_wp2
            exact ⟨⟨j + 1, by omega, by go_num, dn (hbel.alloc (by omega) _)⟩, by simp [intOf]; omega⟩
          · have hjn : j = n := by omega
            subst hjn
            have z1 := lt_of_get HR.out.at_.head
            have z2 := lt_of_get HR.out.at_.mem
            have A2 := HR.out.at_.kept (hb5.block b z1) (hb5.block bm z2)
            have cg2 := MV.run_ A2 (inp_nil wr wr.heap.size b bm) HR.out.fine (by simp) (by omega) 5 (by omega) U HU.out (by rw [HU3.out]; omega)
            have HB5 := Lib.hid (HB.out.trans (hb5.mono hs5))
            clear A2 hb5 hbel
            go_wp2_with (first
              | (go_at_call 10; (with_reducible refine cg2.mono ?_); rintro e w7 ⟨p7, l7, c7, he, R⟩; obtain ⟨rfl, -⟩ := evs_of R.ev; rw [HU1.out, HU2.out, HU3.out, HU4.out] at he; subst he; have HR2 := Lib.hid R; clear R cg2))
            go_ret
            refine ⟨rfl, ?_⟩
            have hs7 := HR2.out.own.size
            have hs8 := HB5.out.size
            exact ((HB5.out.trans (HR2.out.own.below hs8 hbx.1 hbx.2)).alloc (by omega) _)

set_option maxRecDepth 100000 in
theorem lifted (os : Os) (started : os.Started) (H : Type) (enc : TypeId × Value → H) :
    ReturnsInHanded {} Try.checked os 5 .any (Rows.machineLoopsSpec.pre6 enc Try.prog Try.f5 Rows.machineLoopsRow.domain false) (Rows.machineLoopsSpec.post enc Try.prog Try.f5 false true false false) := by
  refine returnsInHanded_of_change (C := Try.checked) own started (by kernel_rfl) Try.func5
    (ChangeSpec.witness6 (enc := enc) (C := Try.checked) false ⟨#[], #[.int .i64 0], []⟩ 8 (by kernel_rfl) (by kernel_rfl) (by kernel_rfl) (by kernel_rfl)) ?_
  intro W base args ds gs before hval0 hW hcnd _
  have hval : ∀ (j : Nat) t v, Try.f5.params[j]? = some t → args[j]? = some v → Value.okWide Try.prog W .any base t v := hval0
  have hW' := hW
  obtain ⟨p, q, hA0, hV, rfl, hfz, hnd⟩ := hW
  have hA : DataW.TrodAll enc Try.prog W 0 (fun _ => true) true Try.f5.params.toList args.toList ds p := hA0
  rw [Try.params5] at hA hval
  obtain ⟨v0, vs0, d0, ds0, p0, q0, hargs, rfl, rfl, h0, r0⟩ := trodAll_cons hA
  obtain ⟨rfl, rfl, rfl⟩ := trodAll_nil r0
  obtain rfl : args = #[v0] := by cases args; simp_all
  obtain ⟨rfl, rfl⟩ := trodVars_none hV
  obtain ⟨a0, rfl, rfl, rfl, wa0⟩ := open_int Try.underlying3 (hval 0 3 v0 rfl rfl) h0
  clear hA0 hval0
  simp only [List.append_nil] at hW'
  refine (walk a0 wa0 W ).mono fun e W' ⟨he, hg⟩ => ?_
  subst he
  exact ⟨_, rfl, _, _, _, [], [], [], hW', (trodAll_cons_mk (shut_bool Try.underlying4 _) trodAll_mk0), (trodAll_cons_mk (shut_int Try.underlying3 wa0) trodAll_mk0), rfl, hg.frame _, fun h => by cases h⟩

theorem over : Rows.machineLoopsRow.holds Try.pinned (OpenSpec.ofChange Rows.machineLoopsSpec) :=
  OpenClaim.holds_of_wide 5 Try.f5 rfl rfl rfl rfl rfl rfl rfl ⟨rfl, rfl, rfl, rfl, rfl⟩ rfl rfl rfl rfl rfl (by kernel_rfl) Try.func5 (by kernel_rfl)
    (of_decide_eq_true (by kernel_rfl)) (by unfold Func.isWrapper; first | (rw [if_pos (by decide +kernel)]; kernel_rfl) | (rw [if_neg (by decide +kernel)]; exact ⟨rfl, rfl⟩))
    (fun os started H enc _ => lifted os started H enc)

/-- The statement. -/
theorem proved : Rows.MachineLoopsSaid :=
  over
end Go.Proofs.Ytanlccnhkiibeaa.machineLoops
