/-
  Of any two reals' bits and any two words the law RealSums returns true: sums and products don't hang on the order, a difference is a sum with the other sign, sums of small words are exact.
  Conditions: none beyond those of the given statement (the row lists Go's own variables as their text lays them).
-/
import Derived.Test.YtcflinmlinmgjaaDoorRows
import Derived.Test.YtcflinmlinmgjaaDoorCards
import Derived.Test.YtcflinmlinmgjaaDoorTie
import Derived.Test.YtcflinmlinmgjaaDoorRealL
import Derived.Test.YtcflinmlinmgjaaDoorRealP
import Derived.LoopN
import Derived.Deep.QuietTactic
import Derived.BigQuiet
import Derived.WalkKit
import Derived.ProofKit
import Derived.OpenShut
import Derived.LaidMore
import Derived.Lay
import Derived.SevenTiedAt
import Derived.Stop.Joined
namespace Go.Proofs.YtcflinmlinmgjaaDoor.realSums
open Go.ChangeShapes Go.WideShapes Go.ChangeAt Go.RowKit
set_option linter.unusedVariables false

theorem own : ownKnob Tryd.prog.godebug = none := by kernel_rfl
open RM RC RL
set_option maxRecDepth 100000 in
set_option maxHeartbeats 4000000 in
/-- one way through the law: what each call answers is given -/
theorem way (a b v u s p d t m n f g : Int) (l : Bool) (v0 : 0 ≤ v) (v1 : v ≤ 4294967295) (u0 : 0 ≤ u) (u1 : u ≤ 4294967295)
    (d1 : DoIs 45 a b s) (d2 : DoIs 45 b a s) (d3 : DoIs 47 a b p) (d4 : DoIs 47 b a p) (d5 : DoIs 46 a b d) (d6 : DoIs 45 a n d) (d7 : DoIs 47 m b t)
    (na : ∀ w, Calls Tryd.prog 10 #[.int .u64 a] w fun e w' => e = .returned (.int .u64 m) ∧ w' = w) (nb : ∀ w, Calls Tryd.prog 10 #[.int .u64 b] w fun e w' => e = .returned (.int .u64 n) ∧ w' = w)
    (nm : ∀ w, Calls Tryd.prog 10 #[.int .u64 p] w fun e w' => e = .returned (.int .u64 t) ∧ w' = w)
    (ov : ∀ w, Calls Tryd.prog 11 #[.int .u32 (v % 1048576)] w fun e w' => e = .returned (.int .u64 f) ∧ w' = w) (ou : ∀ w, Calls Tryd.prog 11 #[.int .u32 (u % 1048576)] w fun e w' => e = .returned (.int .u64 g) ∧ w' = w)
    (r : Int) (os : ∀ w, Calls Tryd.prog 11 #[.int .u32 (v % 1048576 + u % 1048576)] w fun e w' => e = .returned (.int .u64 r) ∧ w' = w)
    (d8 : DoIs 45 f g r) (c1 : IsIs 52 f g l) (hl : decide (v % 1048576 < u % 1048576) = l)
    (w : World) (hi : w.cell? ⟨5, 0, none⟩ = some (.int .u64 52)) (ho : w.cell? ⟨4, 0, none⟩ = some (.bool true))
    (hz1 : 5 < w.heap.size) (hz2 : 4 < w.heap.size) :
    Calls Tryd.prog 5 #[.int .u64 a, .int .u64 b, .agg #[.int .u32 v, .int .u32 u]] w fun e w' => e = .returned (.bool true) ∧ Grown w w' := by
  have hia : ∀ (o : Obj) (k : Nat), ((w.alloc o).drewN k).cell? ⟨5, 0, none⟩ = some (.int .u64 52) := fun o k => (World.cell?_alloc_lt w o ⟨5, 0, none⟩ hz1).trans hi
  have hoa : ∀ (o : Obj) (k : Nat), ((w.alloc o).drewN k).cell? ⟨4, 0, none⟩ = some (.bool true) := fun o k => (World.cell?_alloc_lt w o ⟨4, 0, none⟩ hz2).trans ho
  cases l
  all_goals
    go_enter Tryd.func5, Tryd.ntmps5
    go_wp2
    go_quiet (fail)
    go_wp2_with (first
      | (go_at_call 6; refine (RA.awake _ (hia _ _) (hoa _ _)).mono ?_; rintro e w' ⟨rfl, k0, rfl⟩)
      | (go_at_call 10; (first | with_reducible refine (na _).mono ?_ | with_reducible refine (nb _).mono ?_ | with_reducible refine (nm _).mono ?_); rintro e w' ⟨rfl, rfl⟩)
      | (go_at_call 11; (first | with_reducible refine (ov _).mono ?_ | with_reducible refine (ou _).mono ?_ | with_reducible refine (os _).mono ?_); rintro e w' ⟨rfl, rfl⟩)
      | (go_at_call 8; (first | with_reducible refine (d1 _).mono ?_ | with_reducible refine (d2 _).mono ?_ | with_reducible refine (d3 _).mono ?_ | with_reducible refine (d4 _).mono ?_ | with_reducible refine (d5 _).mono ?_ | with_reducible refine (d6 _).mono ?_ | with_reducible refine (d7 _).mono ?_ | with_reducible refine (d8 _).mono ?_); rintro e w' ⟨rfl, kk, rfl⟩)
      | (go_at_call 9; with_reducible refine (c1 _).mono ?_; rintro e w' ⟨rfl, rfl⟩))
    go_ret
    exact ⟨rfl, by repeat (first | exact Grown.refl _ | apply Grown.drew | apply Grown.alloc)⟩
theorem W_fmul (a b : Nat) : W (fmul a b) := by
  unfold fmul
  cases h : Ieee.double.mul a b with
  | none => exact W_NaN
  | some r => exact (clean_mul a b r h).1
theorem nat_of {a : Int} (h : (Lit.int .u64 a).wf = true) : ∃ n : Nat, a = n ∧ W n := by
  have b := bounds_u64 h
  exact ⟨a.toNat, by omega, by unfold W; omega⟩
theorem cell_lt {w : World} {g i : Nat} {v : Value} (h : w.cell? ⟨g, i, none⟩ = some v) : g < w.heap.size := by
  rcases Nat.lt_or_ge g w.heap.size with c | c
  · exact c
  · unfold World.cell? at h
    simp [Array.getElem?_eq_none c] at h
theorem ofInt_small (x : Nat) (h : x < 2147483648) (w : World) : Calls Tryd.prog 11 #[.int .u32 (x : Int)] w fun e w' => e = .returned (.int .u64 (ofInt (x : Int) : Nat)) ∧ w' = w := by
  have e : wrap32 (x : Int) = x := by simp only [wrap32]; omega
  have c := ofInt_ (x : Int) w
  rw [e] at c
  exact c

theorem walk (a0 : Int) (w0 : (Lit.int .u64 a0).wf = true) (a1 : Int) (w1 : (Lit.int .u64 a1).wf = true) (a2 b2 : Int) (w2 : (Lit.int .u32 a2).wf = true) (x2 : (Lit.int .u32 b2).wf = true) (w : World) (hl : RL.Laid2 w) :
    Calls Tryd.prog 5 #[.int .u64 a0, .int .u64 a1, .agg #[.int .u32 a2, .int .u32 b2]] w fun e w' => e = .returned (.bool true) ∧ Grown w w' := by
  obtain ⟨a, rfl, ha⟩ := nat_of w0
  obtain ⟨b, rfl, hb⟩ := nat_of w1
  have hv := bounds_u32 w2
  have hu := bounds_u32 x2
  obtain ⟨v, ev, v1⟩ : ∃ v : Nat, a2 % 1048576 = (v : Int) ∧ v < 1048576 := ⟨(a2 % 1048576).toNat, by omega, by omega⟩
  obtain ⟨u, eu, u1⟩ : ∃ u : Nat, b2 % 1048576 = (u : Int) ∧ u < 1048576 := ⟨(b2 % 1048576).toNat, by omega, by omega⟩
  refine way a b a2 b2 (fadd a b : Nat) (fmul a b : Nat) (fsub a b : Nat) (fneg (fmul a b) : Nat) (fneg a : Nat) (fneg b : Nat) (ofInt v : Nat) (ofInt u : Nat) (decide (v < u)) hv.1 hv.2 hu.1 hu.2
    (add_is a b _ rfl) (add_is b a _ (by unfold fadd; rw [add_comm'])) (mul_is a b _ rfl) (mul_is b a _ (by unfold fmul; rw [mul_comm'])) (sub_is a b _ rfl) (add_is a (fneg b) _ (by unfold fadd fsub; rw [sub_eq a b hb])) (mul_is (fneg a) b _ (fmul_neg ha))
    (neg_ a ha) (neg_ b hb) (neg_ (fmul a b) (W_fmul a b))
    (fun w => by rw [ev]; exact ofInt_small v (by omega) w) (fun w => by rw [eu]; exact ofInt_small u (by omega) w) (ofInt ((v + u : Nat) : Int) : Nat)
    (fun w => by rw [ev, eu]; exact ofInt_small (v + u) (by omega) w)
    (add_is _ _ _ (fadd_int (by omega) (by omega))) (lt_is _ _ _ (flt_int (by omega) (by omega))) (by rw [ev, eu, decide_eq_decide]; omega)
    w hl.1 hl.2 (cell_lt hl.1) (cell_lt hl.2)

set_option maxRecDepth 100000 in
theorem lifted (os : Os) (started : os.Started) (H : Type) (enc : TypeId × Value → H) :
    ReturnsInHanded {} Tryd.checked os 5 .any (fun w args => (Rows.realSumsSpec.pre enc Tryd.prog Tryd.f5 Rows.realSumsRow.domain false w args ∧ laidMetH Tryd.prog Rows.realSumsRow.laid w) ∧ sizedMet enc Tryd.prog Tryd.f5 (OpenSpec.ofChange Rows.realSumsSpec) false w args)
      (Rows.realSumsSpec.post enc Tryd.prog Tryd.f5 false true false false) := by
  refine returnsInHanded_of_change_and (C := Tryd.checked) (X := fun w _ => laidMetH Tryd.prog Rows.realSumsRow.laid w) (fun _ _ _ hh h => h.of_heap hh) own started (by kernel_rfl) Tryd.func5
    (ChangeSpec.witness_shaped (enc := enc) (C := Tryd.checked) (os := os) (X := fun w _ => laidMetH Tryd.prog Rows.realSumsRow.laid w) false (World.laidAll Tryd.prog os Rows.realSumsRow.laid) #[.int .u64 0, .int .u64 0, .agg #[.int .u32 0, .int .u32 0]] 8 (World.laidAll_os _ _ _)
      (World.shaped_of_ZipB (by kernel_rfl) (by kernel_rfl)) (by kernel_rfl) (by kernel_rfl) (by kernel_rfl)
      (by rw [MakeChecks.laidMetH_plain _ _ _ (by kernel_rfl)]; exact laidMet_laidAll _ (by kernel_rfl) (by kernel_rfl))) ?_
  intro W base args ds gs before hval0 hW hcnd hroom hL _
  have hval : ∀ (j : Nat) t v, Tryd.f5.params[j]? = some t → args[j]? = some v → Value.okWide Tryd.prog W .any base t v := hval0
  have hW' := hW
  obtain ⟨p, q, hA0, hV, rfl, hfz, hnd⟩ := hW
  have hA : DataW.TrodAll enc Tryd.prog W 0 (fun _ => true) true Tryd.f5.params.toList args.toList ds p := hA0
  rw [Tryd.params5] at hA hval
  obtain ⟨v0, vs0, d0, ds0, p0, q0, hargs, rfl, rfl, h0, r0⟩ := trodAll_cons hA
  obtain ⟨v1, vs1, d1, ds1, p1, q1, rfl, rfl, rfl, h1, r1⟩ := trodAll_cons r0
  obtain ⟨v2, vs2, d2, ds2, p2, q2, rfl, rfl, rfl, h2, r2⟩ := trodAll_cons r1
  obtain ⟨rfl, rfl, rfl⟩ := trodAll_nil r2
  obtain rfl : args = #[v0, v1, v2] := by cases args; simp_all
  obtain ⟨rfl, rfl⟩ := trodVars_none hV
  obtain ⟨a0, rfl, rfl, rfl, w0⟩ := open_int Tryd.underlying22 (hval 0 22 v0 rfl rfl) h0
  obtain ⟨a1, rfl, rfl, rfl, w1⟩ := open_int Tryd.underlying22 (hval 1 22 v1 rfl rfl) h1
  obtain ⟨a2, b2, rfl, rfl, rfl, w2, x2⟩ := RP.open_pair (hval 2 32 v2 rfl rfl) h2
  clear hA0 hval0
  rw [MakeChecks.laidMetH_plain _ _ _ (by kernel_rfl)] at hL
  have hl : RL.Laid2 W := ⟨RL.info_cell (Lib.laidMet.reads hL (.tail _ (.tail _ (.tail _ (.head _))))), RL.optimize_cell (Lib.laidMet.reads hL (.tail _ (.tail _ (.tail _ (.tail _ (.head _))))))⟩
  simp only [List.append_nil] at hW'
  refine (walk a0 w0 a1 w1 a2 b2 w2 x2 W hl).mono fun e W' ⟨he, hg⟩ => ?_
  subst he
  exact ⟨_, rfl, post_of_same (pa := []) (pv := []) hW' (fun _ _ _ => (trodAll_cons_mk (shut_bool Tryd.underlying4 _) trodAll_mk0)) (fun sp _ => (trodAll_cons_mk (shut_int Tryd.underlying22 w0) (trodAll_cons_mk (shut_int Tryd.underlying22 w1) (trodAll_cons_mk (RP.shut_pair w2 x2) trodAll_mk0)))) (fun _ _ => rfl) rfl
    (hg.frame _) hg.2.1 (ok_one (by kernel_rfl) rfl (okWide_bool_mk Tryd.underlying4 _))⟩

theorem over : Rows.realSumsRow.holds Tryd.pinned (OpenSpec.ofChange Rows.realSumsSpec) :=
  OpenClaim.holds_of_wide 5 Tryd.f5 rfl rfl rfl rfl rfl rfl rfl ⟨rfl, rfl, rfl, rfl, rfl⟩ rfl rfl rfl rfl rfl (by kernel_rfl) Tryd.func5 (by kernel_rfl)
    (of_decide_eq_true (by kernel_rfl)) (by unfold Func.isWrapper; first | (rw [if_pos (by decide +kernel)]; kernel_rfl) | (rw [if_neg (by decide +kernel)]; exact ⟨rfl, rfl⟩))
    (fun os started H enc _ => lifted os started H enc)

/-- The card. -/
theorem proved : Rows.RealSumsCardSaid :=
  Claim7.holds_tied_plain_at .later [] [.data, .data, .widerDeep, .widerDeep, .data, .data, .data, .data, .data, .sentinel, .sentinel, .pinned, .pinned] true (true, "c042b4a20cb2e67f3e1f1e588aeeadd841f17277e6743d866005aa6a12e593c3") true over (fun _ h => by cases h) (by kernel_rfl) (fun _ h => by cases h) realSums_row_tie rfl ⟨rfl, rfl⟩ (by kernel_rfl) rfl
    (fun f fn hf hfn => by
      obtain rfl : f = 5 := Option.some.inj ((show Tryd.prog.funcNamed "solder/solderlaw02.RealSums" = some 5 by kernel_rfl).symm.trans hf) |>.symm
      obtain rfl : fn = Tryd.f5 := (Option.some.inj (Tryd.func5.symm.trans hfn)).symm
      exact ⟨by kernel_rfl, fun j t ht => by
        rw [Tryd.params5] at ht
        have hm : t ∈ [22, 22, 32] := by simpa using Array.mem_of_getElem? ht
        have hall : ([22, 22, 32].all fun u => !Tryd.prog.wantsStandIn u) = true := by kernel_rfl
        exact (show Tryd.prog.wantsStandIn t = false by simpa using List.all_eq_true.1 hall t hm)⟩)
    (by kernel_rfl)
end Go.Proofs.YtcflinmlinmgjaaDoor.realSums
