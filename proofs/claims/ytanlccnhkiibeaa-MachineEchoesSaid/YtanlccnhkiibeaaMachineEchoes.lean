/-
  For every input and every number of rounds the law MachineEchoes returns true: the program echoes its input, and zeros where it ends.
  Conditions: none beyond those of the given statement.
-/
import Derived.Test.YtanlccnhkiibeaaRows
import Derived.Test.YtanlccnhkiibeaaMachQ
import Derived.Test.YtanlccnhkiibeaaMachO
import Derived.Laws.StructEq
import Derived.BigGuardPart
import Derived.WalkKit
import Derived.ProofKit
import Derived.OpenShut
namespace Go.Proofs.Ytanlccnhkiibeaa.machineEchoes
open Go.ChangeShapes Go.WideShapes Go.ChangeAt Go.RowKit
set_option linter.unusedVariables false
set_option linter.unusedSimpArgs false

theorem own : ownKnob Try.prog.godebug = none := by kernel_rfl
open MM MC MB MP MQ MK
theorem is_echo (w : World) : Is (w.alloc (.cells #[.int .i64 18, .int .i64 17, .int .i64 0, .int .i64 0, .int .i64 2, .int .i64 42, .int .i64 0, .int .i64 0, .int .i64 0, .int .i64 0, .int .i64 18, .int .i64 17, .int .i64 0, .int .i64 0, .int .i64 1, .int .i64 42, .int .i64 0, .int .i64 0, .int .i64 0, .int .i64 0, .int .i64 40, .int .i64 0, .int .i64 0, .int .i64 0, .int .i64 (-16)] 54)) (.slice (some ⟨w.heap.size, 0, none⟩) 5 5) echoL := by
  have hg := heap_alloc_new w (.cells #[.int .i64 18, .int .i64 17, .int .i64 0, .int .i64 0, .int .i64 2, .int .i64 42, .int .i64 0, .int .i64 0, .int .i64 0, .int .i64 0, .int .i64 18, .int .i64 17, .int .i64 0, .int .i64 0, .int .i64 1, .int .i64 42, .int .i64 0, .int .i64 0, .int .i64 0, .int .i64 0, .int .i64 40, .int .i64 0, .int .i64 0, .int .i64 0, .int .i64 (-16)] 54)
  refine ⟨w.heap.size, 5, rfl, by simp, fun k a b c d e hk => ?_⟩
  have c := fun j => cell_of_row _ w.heap.size j _ _ _ hg
  match k, hk with
  | 0, hk => cases hk; exact ⟨c 0, c 1, c 2, c 3, c 4⟩
  | 1, hk => cases hk; exact ⟨c 5, c 6, c 7, c 8, c 9⟩
  | 2, hk => cases hk; exact ⟨c 10, c 11, c 12, c 13, c 14⟩
  | 3, hk => cases hk; exact ⟨c 15, c 16, c 17, c 18, c 19⟩
  | 4, hk => cases hk; exact ⟨c 20, c 21, c 22, c 23, c 24⟩
  | (k + 5), hk => simp [echoL] at hk
theorem evs_get : ∀ (L : List MM.Ev) (k : Nat) (x : MM.Ev), L[k]? = some x → (MD.evs L)[k * 3]? = some (.int .i64 x.1) ∧ (MD.evs L)[k * 3 + 1]? = some (.int .u32 x.2.1) ∧ (MD.evs L)[k * 3 + 2]? = some (.int .u64 (x.2.2 : Nat))
  | [], k, x, h => by simp at h
  | y :: L, 0, x, h => by
    simp only [List.getElem?_cons_zero, Option.some.injEq] at h
    subst h; exact ⟨rfl, rfl, rfl⟩
  | y :: L, k + 1, x, h => by
    have ih := evs_get L k x (by simpa using h)
    have e : MD.evs (y :: L) = Value.int .i64 y.1 :: .int .u32 y.2.1 :: .int .u64 (y.2.2 : Nat) :: MD.evs L := rfl
    rw [e, show (k + 1) * 3 = k * 3 + 1 + 1 + 1 by omega]
    simpa only [List.getElem?_cons_succ] using ih
/-- events in memory -/
theorem evs_of {w : World} {B : Nat} {p : Option Addr} {l c : Nat} {L : List MM.Ev} (h : w.ownsRow B 60 3 (.slice p l c) L.length (MD.evs L)) :
    l = L.length ∧ ∀ (k : Nat) (x : MM.Ev), L[k]? = some x → ∃ g, p = some ⟨g, 0, none⟩ ∧ g < w.heap.size ∧ w.cell? ⟨g, k * 3, none⟩ = some (.int .i64 x.1) ∧ w.cell? ⟨g, k * 3 + 1, none⟩ = some (.int .u32 x.2.1) ∧ w.cell? ⟨g, k * 3 + 2, none⟩ = some (.int .u64 (x.2.2 : Nat)) := by
  rcases h.2 with ⟨h0, h1⟩ | ⟨g, cap, cur, h0, hb, hg, hn, hc, hs, ht⟩
  · cases h0
    refine ⟨h1.symm, fun k x hk => ?_⟩
    have := (List.getElem?_eq_some_iff.1 hk).1
    omega
  · cases h0
    refine ⟨rfl, fun k x hk => ⟨g, rfl, lt_of_get hg, ?_⟩⟩
    obtain ⟨e1, e2, e3⟩ := evs_get L k x hk
    have f := fun j v hj => (h.cells (g := g) rfl) j v hj
    have e : ∀ j, (⟨g, 0, none⟩ : Addr).add j = ⟨g, j, none⟩ := fun j => by unfold Addr.add; split <;> simp_all
    refine ⟨?_, ?_, ?_⟩
    · rw [← e]; exact f _ _ e1
    · rw [← e]; exact f _ _ e2
    · rw [← e]; exact f _ _ e3
theorem run_at {w w1 w2 w3 w4 : World} {v : Value} {xs : List Int} {o : Obj} {b bm m : Nat} {T : Rn} (hl : m ≤ 255) (hA : MO.Arg .u32 w v xs) (H0 : Below w.heap.size w w1) (H1 : Below (w1.alloc o).heap.size (w1.alloc o) w2) (H2 : Below w2.heap.size w2 w3) (H3 : Below w3.heap.size w3 w4) (hb : w3.heap.size ≤ b) (hbm : w3.heap.size ≤ bm)
    (A : At w4 b bm 32 (MW.loaded (fb (echoL.map wordOf)) 20 (MW.up 20) 32 0)) (hx : ∀ x ∈ xs, 0 ≤ x ∧ x ≤ 4294967295) (hT : MM.run 32 (5 * m) (MW.loaded (fb (echoL.map wordOf)) 20 (MW.up 20) 32 0) xs = T) (hn : T.n = 5 * m) :
    Calls Try.prog 10 #[.pointer (some ⟨b, 0, none⟩), v, .int .i64 (5 * (m : Int))] w4 (MV.RunPost b bm 32 w4 T) := by
  have s0 := H0.size
  have s1 := H1.size
  simp only [World.size_alloc] at s1
  have s2 := H2.size
  have s3 := H3.size
  have hbl : Below w.heap.size w w4 := ((H0.alloc s0 _).trans (H1.mono (by simp only [World.size_alloc]; omega))).trans ((H2.mono (by omega)).trans (H3.mono (by omega)))
  exact MV.run_ A (MO.inp_of hA hbl (by omega) (by omega) (by omega)) (fine_loaded (fb_bd _) 20 32 _ 0 (by decide) (by omega) (by omega)) hx (by omega) (5 * (m : Int)) (by omega) T (by rw [show (5 * (m : Int)).toNat = 5 * m by omega]; exact hT) (by omega)

set_option maxRecDepth 100000 in
set_option maxHeartbeats 8000000 in
theorem walk (v0 : Value) (xs0 : List Int) (a1 : Int) (wa1 : (Lit.int .u8 a1).wf = true) (w : World) (ha0 : MO.Arg .u32 w v0 xs0) (hx0 : ∀ x ∈ xs0, (Lit.int .u32 x).wf = true) :
    Calls Try.prog 7 #[v0, .int .u8 a1] w fun e w' => e = .returned (.bool true) ∧ Below w.heap.size w w' := by
  have hB := bounds_u8 wa1
  obtain ⟨m, rfl⟩ : ∃ m : Nat, a1 = (m : Int) := ⟨a1.toNat, by omega⟩
  have hl2 : m ≤ 255 := by omega
  have hx : ∀ x ∈ xs0, 0 ≤ x ∧ x ≤ 4294967295 := fun x h => bounds_u32 (hx0 x h)
  clear hx0
  have HA := Lib.hid ha0
  obtain ⟨p, c, rfl, hin⟩ := ha0
  obtain ⟨T, hT, t1, t2, t3, t4⟩ := echo_run (N := 32) (by omega) m (MW.loaded (fb (echoL.map wordOf)) 20 (MW.up 20) 32 0) xs0 ⟨code_loaded echoL _ _ _, rfl, rfl, rfl⟩
  have cI := is_echo
  have cw := fun w => words_ _ _ echoL (by decide) (cI w) echo_good
  have HT := Lib.hid hT
  have HT1 := Lib.hid t1
  have HT2 := Lib.hid t2
  have HT3 := Lib.hid t3
  have HT4 := Lib.hid t4
  have HIN := Lib.hid hin
  have HX := Lib.hid hx
  clear hT t1 t2 t3 t4 cI hin hx
  by_cases hl : xs0.length ≤ 200
  · go_enter Try.func7, Try.ntmps7
    go_wp2_with (first
      | (go_at_call 8; (with_reducible refine (awake_ _).mono ?_); rintro e w1 ⟨rfl, hb0⟩; have H0 := Lib.hid hb0; clear hb0)
      | (go_at_call 20; (with_reducible refine (cw _).mono ?_); rintro e w2 ⟨v1, rfl, ho1, hb1⟩; have HWS := Lib.hid (ws_of ho1); have H1 := Lib.hid hb1; clear ho1 hb1)
      | (go_at_call 18; (with_reducible refine (bytes_ _ v1 _ (by decide) HWS.out).mono ?_); rintro e w3 ⟨v2, rfl, ho2, hb2⟩; obtain ⟨g, cap, rfl, hg, hcell⟩ := image_of ho2 (by decide) 20 (by decide); have HC := Lib.hid hcell; have H2 := Lib.hid hb2; clear ho2 hb2 hcell)
      | (go_at_call 9; (with_reducible refine (MW.load_ok 0 (by omega) g 0 20 cap 0 (by omega) (by omega) (by decide) 32 (by decide) _ _ hg HC.out).mono ?_); rintro e w4 ⟨b, bm, rfl, A, hb, hbm, hb3⟩; have cg := run_at hl2 HA.out H0.out H1.out H2.out hb3 hb hbm A HX.out HT.out HT2.out; have H3 := Lib.hid hb3; clear A hb3)
      | (go_at_call 10; (with_reducible refine cg.mono ?_); rintro e w5 ⟨p5, l5, c5, he, R⟩; obtain ⟨rfl, hev⟩ := evs_of R.ev; rw [HT1.out, HT2.out, HT3.out] at he; subst he; have HR := Lib.hid R; have HE := Lib.hid hev; clear R hev cg))
    have hbw : Below w.heap.size w w5 := by
      have s0 := H0.out.size
      have s1 := H1.out.size
      simp only [World.size_alloc] at s1
      have s2 := H2.out.size
      have s3 := H3.out.size
      exact (((H0.out.alloc s0 _).trans (H1.out.mono (by simp only [World.size_alloc]; omega))).trans ((H2.out.mono (by omega)).trans (H3.out.mono (by omega)))).trans (HR.out.own.below (by omega) (by omega) (by omega))
    have HB := Lib.hid hbw
    clear hbw HR H0 H1 H2 H3 HC HWS cw
    go_loopw [60] (fun s60 wr => ∃ k : Nat, k ≤ m ∧ s60 = .int .i64 k ∧ Below (w5.heap.size + 1) (w5.alloc (.cells #[.int .i64 0, .int .u32 (MV.codeOf T.s), .slice p5 m c5, .int .i64 (5 * (m : Int))] 35)) wr) (fun i _ => m - (intOf i).toNat)
    case atStart => exact ⟨0, Nat.zero_le _, rfl, Below.refl _ _⟩
    case round =>
      obtain ⟨k, hk, rfl, hbel⟩ := hrel
      have hsz := hbel.size
      simp only [World.size_alloc] at hsz
      have hs5 := HB.out.size
      have hb5 : Below w5.heap.size w5 wr := ((Below.refl _ _).alloc (Nat.le_refl _) _).trans (hbel.mono (by omega))
      by_cases hlt : k < m
      · obtain ⟨ge, rfl, hge, e1, e2, e3⟩ := HE.out k _ (HT4.out k hlt)
        have q1 := (hb5.cell (p := ⟨ge, k * 3, none⟩) hge).trans e1
        have q2 := (hb5.cell (p := ⟨ge, k * 3 + 1, none⟩) hge).trans e2
        have q3 := (hb5.cell (p := ⟨ge, k * 3 + 2, none⟩) hge).trans e3
        by_cases hin : k < xs0.length
        · obtain ⟨x, hx1⟩ : ∃ x, xs0[k]? = some x := ⟨xs0[k], List.getElem?_eq_getElem hin⟩
          rw [show xs0.getD k 0 = x by simp [List.getD, hx1]] at q2
          obtain ⟨gi, oi, rfl, i1, i2, hgi, hci⟩ := HIN.out (by intro e; subst e; simp at hin)
          have q4 := ((HB.out.trans (hb5.mono hs5)).cell (p := ⟨gi, oi + k, none⟩) hgi).trans (hci k x hx1)
          have hgw : gi < wr.heap.size := by omega
          have q5 := (World.cell?_alloc_lt (w := wr) (a := ⟨gi, oi + k, none⟩) (o := .cells #[.int .i64 1, .int .u32 x, .int .u64 0] 60) hgw).trans q4
          clear hx1 hci e1 e2 e3
          generalize xs0.length = lx at *
          go_wp2
          exact ⟨⟨k + 1, by omega, by go_num, hbel.alloc (by omega) _⟩, by simp [intOf]; omega⟩
        · rw [show xs0.getD k 0 = 0 by simp [List.getD, List.getElem?_eq_none (by omega : xs0.length ≤ k)]] at q2
          clear e1 e2 e3
          generalize xs0.length = lx at *
          go_wp2
          exact ⟨⟨k + 1, by omega, by go_num, hbel.alloc (by omega) _⟩, by simp [intOf]; omega⟩
      · have hkm : k = m := by omega
        subst hkm
        go_wp2
        go_ret
        exact ⟨rfl, HB.out.trans (hb5.mono hs5)⟩
  · go_enter Try.func7, Try.ntmps7
    go_wp2_with (first
      | (go_at_call 8; (with_reducible refine (awake_ w1).mono ?_); rintro e w2 ⟨rfl, hb1⟩; have H1 := Lib.hid hb1; clear hb1)
      | (go_at_call 8; (with_reducible refine (awake_ w).mono ?_); rintro e w1 ⟨rfl, hb0⟩; have H0 := Lib.hid hb0; clear hb0))
    go_ret
    exact ⟨rfl, H0.out.trans (H1.out.mono H0.out.size)⟩

set_option maxRecDepth 100000 in
theorem lifted (os : Os) (started : os.Started) (H : Type) (enc : TypeId × Value → H) :
    ReturnsInHanded {} Try.checked os 7 .any (Rows.machineEchoesSpec.pre6 enc Try.prog Try.f7 Rows.machineEchoesRow.domain false) (Rows.machineEchoesSpec.post enc Try.prog Try.f7 false true false false) := by
  refine returnsInHanded_of_change (C := Try.checked) own started (by kernel_rfl) Try.func7
    (ChangeSpec.witness6 (enc := enc) (C := Try.checked) false ⟨#[], #[.slice none 0 0, .int .u8 0], []⟩ 8 (by kernel_rfl) (by kernel_rfl) (by kernel_rfl) (by kernel_rfl)) ?_
  intro W base args ds gs before hval0 hW hcnd _
  have hval : ∀ (j : Nat) t v, Try.f7.params[j]? = some t → args[j]? = some v → Value.okWide Try.prog W .any base t v := hval0
  have hW' := hW
  obtain ⟨p, q, hA0, hV, rfl, hfz, hnd⟩ := hW
  have hA : DataW.TrodAll enc Try.prog W 0 (fun _ => true) true Try.f7.params.toList args.toList ds p := hA0
  rw [Try.params7] at hA hval
  obtain ⟨v0, vs0, d0, ds0, p0, q0, hargs, rfl, rfl, h0, r0⟩ := trodAll_cons hA
  obtain ⟨v1, vs1, d1, ds1, p1, q1, rfl, rfl, rfl, h1, r1⟩ := trodAll_cons r0
  obtain ⟨rfl, rfl, rfl⟩ := trodAll_nil r1
  obtain rfl : args = #[v0, v1] := by cases args; simp_all
  obtain ⟨rfl, rfl⟩ := trodVars_none hV
  obtain ⟨xs0, ha0, hx0, sh0⟩ := MO.open_nums Try.underlying23 Try.underlying32 (by kernel_rfl) (hval 0 23 v0 rfl rfl) h0
  obtain ⟨a1, rfl, rfl, rfl, wa1⟩ := open_int Try.underlying5 (hval 1 5 v1 rfl rfl) h1
  clear hA0 hval0
  simp only [List.append_nil] at hW'
  refine (walk v0 xs0 a1 wa1 W ha0 hx0).mono fun e W' ⟨he, hg⟩ => ?_
  subst he
  exact ⟨_, rfl, _, _, _, [], _, _, hW', (trodAll_cons_mk (shut_bool Try.underlying4 _) trodAll_mk0), (trodAll_cons_mk (sh0 _ _ (fun b hb => decide_eq_true hb) hg) (trodAll_cons_mk (shut_int Try.underlying5 wa1) trodAll_mk0)), rfl, hg.frame _, fun h => by cases h⟩

theorem over : Rows.machineEchoesRow.holds Try.pinned (OpenSpec.ofChange Rows.machineEchoesSpec) :=
  OpenClaim.holds_of_wide 7 Try.f7 rfl rfl rfl rfl rfl rfl rfl ⟨rfl, rfl, rfl, rfl, rfl⟩ rfl rfl rfl rfl rfl (by kernel_rfl) Try.func7 (by kernel_rfl)
    (of_decide_eq_true (by kernel_rfl)) (by unfold Func.isWrapper; first | (rw [if_pos (by decide +kernel)]; kernel_rfl) | (rw [if_neg (by decide +kernel)]; exact ⟨rfl, rfl⟩))
    (fun os started H enc _ => lifted os started H enc)

/-- The statement. -/
theorem proved : Rows.MachineEchoesSaid :=
  over
end Go.Proofs.Ytanlccnhkiibeaa.machineEchoes
