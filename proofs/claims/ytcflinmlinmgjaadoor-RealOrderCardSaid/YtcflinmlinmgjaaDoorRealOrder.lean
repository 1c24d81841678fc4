/-
  Of any three reals' bits the law RealOrder returns true: of two numbers just one is less or they are the same, and the order goes through.
  Conditions: none beyond those of the given statement (the row lists Go's own variables as their text lays them).
-/
import Derived.Test.YtcflinmlinmgjaaDoorRows
import Derived.Test.YtcflinmlinmgjaaDoorCards
import Derived.Test.YtcflinmlinmgjaaDoorTie
import Derived.Test.YtcflinmlinmgjaaDoorRealL
import Derived.LoopN
import Derived.WalkKit
import Derived.ProofKit
import Derived.OpenShut
import Derived.LaidMore
import Derived.Lay
import Derived.SevenTiedAt
import Derived.Stop.Joined
namespace Go.Proofs.YtcflinmlinmgjaaDoor.realOrder
open Go.ChangeShapes Go.WideShapes Go.ChangeAt Go.RowKit
set_option linter.unusedVariables false

theorem own : ownKnob Tryd.prog.godebug = none := by kernel_rfl
open RM RC RL
theorem ix0 (p q r : Bool) (w : World) : (Instr.index 29 (.agg #[.bool p, .bool q, .bool r]) (.int .i64 0)).run Tryd.prog w = .ok (.bool p) w := by kernel_rfl
theorem ix1 (p q r : Bool) (w : World) : (Instr.index 29 (.agg #[.bool p, .bool q, .bool r]) (.int .i64 1)).run Tryd.prog w = .ok (.bool q) w := by kernel_rfl
theorem ix2 (p q r : Bool) (w : World) : (Instr.index 29 (.agg #[.bool p, .bool q, .bool r]) (.int .i64 2)).run Tryd.prog w = .ok (.bool r) w := by kernel_rfl
attribute [local go_sem] ix0 ix1 ix2
set_option maxRecDepth 100000 in
set_option maxHeartbeats 4000000 in
/-- one way through the law: what each call answers is given -/
theorem way (a b c : Nat) (ha : W a) (hb : W b) (l1 l2 e1 n1 n2 u v : Bool) (x y : Int)
    (f1 : IsIs 52 a b l1) (f2 : IsIs 52 b a l2) (f3 : IsIs 51 a b e1) (f4 : IsIs 53 a b (l1 || e1)) (f5 : IsIs 52 (fneg b) (fneg a) l1) (f6 : IsIs 53 b c u) (f7 : IsIs 53 a c v)
    (ca : ∀ w, Calls Tryd.prog 7 #[.int .u64 a] w fun e w' => e = .returned (.int .u64 x) ∧ w' = w) (cb : ∀ w, Calls Tryd.prog 7 #[.int .u64 b] w fun e w' => e = .returned (.int .u64 y) ∧ w' = w)
    (na : ∀ w, Calls Tryd.prog 10 #[.int .u64 a] w fun e w' => e = .returned (.int .u64 (fneg a)) ∧ w' = w) (nb : ∀ w, Calls Tryd.prog 10 #[.int .u64 b] w fun e w' => e = .returned (.int .u64 (fneg b)) ∧ w' = w)
    (hx : (x != 9221120237041090560) = n1) (hy : (y != 9221120237041090560) = n2)
    (hcnt : l1.toNat + l2.toNat + e1.toNat = (n1 && n2).toNat) (huv : ((l1 || e1) && u) = true → v = true)
    (w : World) (hi : w.cell? ⟨5, 0, none⟩ = some (.int .u64 52)) (ho : w.cell? ⟨4, 0, none⟩ = some (.bool true)) :
    Calls Tryd.prog 4 #[.int .u64 a, .int .u64 b, .int .u64 c] w fun e w' => e = .returned (.bool true) ∧ Grown w w' := by
  cases l1 <;> cases l2 <;> cases e1 <;> cases n1 <;> cases n2 <;> first | (exfalso; revert hcnt; decide) | skip
  all_goals cases u <;> cases v <;> first | (exfalso; revert huv; decide) | skip
  all_goals clear hcnt huv
  all_goals
    go_enter Tryd.func4, Tryd.ntmps4
    go_wp2_with (first
      | (go_at_call 6; refine (RA.awake _ hi ho).mono ?_; rintro e w' ⟨rfl, k0, rfl⟩)
      | (go_at_call 7; (first | with_reducible refine (ca _).mono ?_ | with_reducible refine (cb _).mono ?_); rintro e w' ⟨rfl, rfl⟩)
      | (go_at_call 10; (first | with_reducible refine (na _).mono ?_ | with_reducible refine (nb _).mono ?_); rintro e w' ⟨rfl, rfl⟩)
      | (go_at_call 9; (first | with_reducible refine (f1 _).mono ?_ | with_reducible refine (f2 _).mono ?_ | with_reducible refine (f3 _).mono ?_ | with_reducible refine (f4 _).mono ?_ | with_reducible refine (f5 _).mono ?_ | with_reducible refine (f6 _).mono ?_ | with_reducible refine (f7 _).mono ?_); rintro e w' ⟨rfl, rfl⟩))
    refine wp_loop_rounds 4 ?_
    rw [rounds_succ]
    go_wp2
    rw [rounds_succ]
    go_wp2
    rw [rounds_succ]
    go_wp2
    rw [rounds_succ]
    go_wp2_with (first
      | (go_at_call 6; refine (RA.awake _ hi ho).mono ?_; rintro e w' ⟨rfl, k0, rfl⟩)
      | (go_at_call 7; (first | with_reducible refine (ca _).mono ?_ | with_reducible refine (cb _).mono ?_); rintro e w' ⟨rfl, rfl⟩)
      | (go_at_call 10; (first | with_reducible refine (na _).mono ?_ | with_reducible refine (nb _).mono ?_); rintro e w' ⟨rfl, rfl⟩)
      | (go_at_call 9; (first | with_reducible refine (f1 _).mono ?_ | with_reducible refine (f2 _).mono ?_ | with_reducible refine (f3 _).mono ?_ | with_reducible refine (f4 _).mono ?_ | with_reducible refine (f5 _).mono ?_ | with_reducible refine (f6 _).mono ?_ | with_reducible refine (f7 _).mono ?_); rintro e w' ⟨rfl, rfl⟩))
    go_ret
    exact ⟨rfl, by repeat (first | exact Grown.refl _ | apply Grown.drew | apply Grown.alloc)⟩
/-- a word of 64 bits is a number from 0 on -/
theorem nat_of {a : Int} (h : (Lit.int .u64 a).wf = true) : ∃ n : Nat, a = n ∧ W n := by
  have b := bounds_u64 h
  exact ⟨a.toNat, by omega, by unfold W; omega⟩
theorem nan_test (a : Nat) : (((canon a : Nat) : Int) != 9221120237041090560) = !isNan a := by
  have h := canon_eq_nan (x := a)
  have e : (((canon a : Nat) : Int) = 9221120237041090560) ↔ canon a = NaN := by unfold NaN; omega
  cases hn : isNan a
  · rw [Bool.not_false, bne_iff_ne]; intro c; rw [h.1 (e.1 c)] at hn; cases hn
  · rw [Bool.not_true, bne_eq_false_iff_eq]; exact e.2 (h.2 hn)

theorem walk (a0 : Int) (w0 : (Lit.int .u64 a0).wf = true) (a1 : Int) (w1 : (Lit.int .u64 a1).wf = true) (a2 : Int) (w2 : (Lit.int .u64 a2).wf = true) (w : World) (hl : RL.Laid2 w) :
    Calls Tryd.prog 4 #[.int .u64 a0, .int .u64 a1, .int .u64 a2] w fun e w' => e = .returned (.bool true) ∧ Grown w w' := by
  obtain ⟨a, rfl, ha⟩ := nat_of w0
  obtain ⟨b, rfl, hb⟩ := nat_of w1
  obtain ⟨c, rfl, hc⟩ := nat_of w2
  refine way a b c ha hb (flt a b) (flt b a) (feq a b) (!isNan a) (!isNan b) (fle b c) (fle a c) (canon a : Nat) (canon b : Nat)
    (lt_is a b _ rfl) (lt_is b a _ rfl) (eq_is a b _ rfl) (le_is a b _ (fle_or a b)) (lt_is (fneg b) (fneg a) _ (flt_neg a b).symm) (le_is b c _ rfl) (le_is a c _ rfl)
    (canon_ a) (canon_ b) (neg_ a ha) (neg_ b hb) (nan_test a) (nan_test b) ?_ ?_ w hl.1 hl.2
  · rw [three]
    cases isNan a <;> cases isNan b <;> rfl
  · intro h
    rw [Bool.and_eq_true, ← fle_or] at h
    exact fle_trans h.1 h.2

set_option maxRecDepth 100000 in
theorem lifted (os : Os) (started : os.Started) (H : Type) (enc : TypeId × Value → H) :
    ReturnsInHanded {} Tryd.checked os 4 .any (fun w args => (Rows.realOrderSpec.pre enc Tryd.prog Tryd.f4 Rows.realOrderRow.domain false w args ∧ laidMetH Tryd.prog Rows.realOrderRow.laid w) ∧ sizedMet enc Tryd.prog Tryd.f4 (OpenSpec.ofChange Rows.realOrderSpec) false w args)
      (Rows.realOrderSpec.post enc Tryd.prog Tryd.f4 false true false false) := by
  refine returnsInHanded_of_change_and (C := Tryd.checked) (X := fun w _ => laidMetH Tryd.prog Rows.realOrderRow.laid w) (fun _ _ _ hh h => h.of_heap hh) own started (by kernel_rfl) Tryd.func4
    (ChangeSpec.witness_shaped (enc := enc) (C := Tryd.checked) (os := os) (X := fun w _ => laidMetH Tryd.prog Rows.realOrderRow.laid w) false (World.laidAll Tryd.prog os Rows.realOrderRow.laid) #[.int .u64 0, .int .u64 0, .int .u64 0] 8 (World.laidAll_os _ _ _)
      (World.shaped_of_ZipB (by kernel_rfl) (by kernel_rfl)) (by kernel_rfl) (by kernel_rfl) (by kernel_rfl)
      (by rw [MakeChecks.laidMetH_plain _ _ _ (by kernel_rfl)]; exact laidMet_laidAll _ (by kernel_rfl) (by kernel_rfl))) ?_
  intro W base args ds gs before hval0 hW hcnd hroom hL _
  have hval : ∀ (j : Nat) t v, Tryd.f4.params[j]? = some t → args[j]? = some v → Value.okWide Tryd.prog W .any base t v := hval0
  have hW' := hW
  obtain ⟨p, q, hA0, hV, rfl, hfz, hnd⟩ := hW
  have hA : DataW.TrodAll enc Tryd.prog W 0 (fun _ => true) true Tryd.f4.params.toList args.toList ds p := hA0
  rw [Tryd.params4] at hA hval
  obtain ⟨v0, vs0, d0, ds0, p0, q0, hargs, rfl, rfl, h0, r0⟩ := trodAll_cons hA
  obtain ⟨v1, vs1, d1, ds1, p1, q1, rfl, rfl, rfl, h1, r1⟩ := trodAll_cons r0
  obtain ⟨v2, vs2, d2, ds2, p2, q2, rfl, rfl, rfl, h2, r2⟩ := trodAll_cons r1
  obtain ⟨rfl, rfl, rfl⟩ := trodAll_nil r2
  obtain rfl : args = #[v0, v1, v2] := by cases args; simp_all
  obtain ⟨rfl, rfl⟩ := trodVars_none hV
  obtain ⟨a0, rfl, rfl, rfl, w0⟩ := open_int Tryd.underlying22 (hval 0 22 v0 rfl rfl) h0
  obtain ⟨a1, rfl, rfl, rfl, w1⟩ := open_int Tryd.underlying22 (hval 1 22 v1 rfl rfl) h1
  obtain ⟨a2, rfl, rfl, rfl, w2⟩ := open_int Tryd.underlying22 (hval 2 22 v2 rfl rfl) h2
  clear hA0 hval0
  rw [MakeChecks.laidMetH_plain _ _ _ (by kernel_rfl)] at hL
  have hl : RL.Laid2 W := ⟨RL.info_cell (Lib.laidMet.reads hL (.tail _ (.tail _ (.tail _ (.head _))))), RL.optimize_cell (Lib.laidMet.reads hL (.tail _ (.tail _ (.tail _ (.tail _ (.head _))))))⟩
  simp only [List.append_nil] at hW'
  refine (walk a0 w0 a1 w1 a2 w2 W hl).mono fun e W' ⟨he, hg⟩ => ?_
  subst he
  exact ⟨_, rfl, post_of_same (pa := []) (pv := []) hW' (fun _ _ _ => (trodAll_cons_mk (shut_bool Tryd.underlying4 _) trodAll_mk0)) (fun sp _ => (trodAll_cons_mk (shut_int Tryd.underlying22 w0) (trodAll_cons_mk (shut_int Tryd.underlying22 w1) (trodAll_cons_mk (shut_int Tryd.underlying22 w2) trodAll_mk0)))) (fun _ _ => rfl) rfl
    (hg.frame _) hg.2.1 (ok_one (by kernel_rfl) rfl (okWide_bool_mk Tryd.underlying4 _))⟩

theorem over : Rows.realOrderRow.holds Tryd.pinned (OpenSpec.ofChange Rows.realOrderSpec) :=
  OpenClaim.holds_of_wide 4 Tryd.f4 rfl rfl rfl rfl rfl rfl rfl ⟨rfl, rfl, rfl, rfl, rfl⟩ rfl rfl rfl rfl rfl (by kernel_rfl) Tryd.func4 (by kernel_rfl)
    (of_decide_eq_true (by kernel_rfl)) (by unfold Func.isWrapper; first | (rw [if_pos (by decide +kernel)]; kernel_rfl) | (rw [if_neg (by decide +kernel)]; exact ⟨rfl, rfl⟩))
    (fun os started H enc _ => lifted os started H enc)

/-- The card. -/
theorem proved : Rows.RealOrderCardSaid :=
  Claim7.holds_tied_plain_at .later [] [.data, .data, .widerDeep, .widerDeep, .data, .data, .data, .data, .data, .sentinel, .sentinel, .pinned, .pinned] true (true, "c042b4a20cb2e67f3e1f1e588aeeadd841f17277e6743d866005aa6a12e593c3") true over (fun _ h => by cases h) (by kernel_rfl) (fun _ h => by cases h) realOrder_row_tie rfl ⟨rfl, rfl⟩ (by kernel_rfl) rfl
    (fun f fn hf hfn => by
      obtain rfl : f = 4 := Option.some.inj ((show Tryd.prog.funcNamed "solder/solderlaw02.RealOrder" = some 4 by kernel_rfl).symm.trans hf) |>.symm
      obtain rfl : fn = Tryd.f4 := (Option.some.inj (Tryd.func4.symm.trans hfn)).symm
      exact ⟨by kernel_rfl, fun j t ht => by
        rw [Tryd.params4] at ht
        have hm : t ∈ [22, 22, 22] := by simpa using Array.mem_of_getElem? ht
        have hall : ([22, 22, 22].all fun u => !Tryd.prog.wantsStandIn u) = true := by kernel_rfl
        exact (show Tryd.prog.wantsStandIn t = false by simpa using List.all_eq_true.1 hall t hm)⟩)
    (by kernel_rfl)
end Go.Proofs.YtcflinmlinmgjaaDoor.realOrder
