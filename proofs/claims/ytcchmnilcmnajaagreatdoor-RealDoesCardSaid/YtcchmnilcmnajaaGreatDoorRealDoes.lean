/-
  Of any number of an operation and any two reals' bits the law RealDoes returns true: sums, differences, products, quotients and comparisons are the document's, and what is none is none for both.
  Conditions: none beyond those of the given statement (the row lists Go's own variables as their text lays them).
-/
import Derived.Test.YtcchmnilcmnajaaGreatDoorRows
import Derived.Test.YtcchmnilcmnajaaGreatDoorCards
import Derived.Test.YtcchmnilcmnajaaGreatDoorTie
import Derived.Test.YtcchmnilcmnajaaGreatDoorRealL
import Derived.Test.YtcchmnilcmnajaaGreatDoorRealO
import Derived.BigGuardPart
import Derived.WalkKit
import Derived.ProofKit
import Derived.OpenShut
import Derived.LaidMore
import Derived.Lay
import Derived.SevenTiedAt
import Derived.Stop.Joined
namespace Go.Proofs.YtcchmnilcmnajaaGreatDoor.realDoes
open Go.ChangeShapes Go.WideShapes Go.ChangeAt Go.RowKit
set_option linter.unusedVariables false

theorem own : ownKnob Tryz.prog.godebug = none := by kernel_rfl
open RM RC RL
theorem bdN {w : World} {W : World} (h : Below w.heap.size w W) (k : Nat) : Below w.heap.size w (W.drewN k) := ⟨h.os, h.tape, h.output, h.size, h.block⟩
theorem left {F : FuncId} {args : Array Value} {w : World} {v : Value} (h : Calls Tryz.prog F args w fun e w' => e = .returned v ∧ w' = w) : Calls Tryz.prog F args w fun e w' => e = .returned v ∧ w = w' :=
  h.mono fun _ _ ⟨h1, h2⟩ => ⟨h1, h2.symm⟩
theorem drew0 {F : FuncId} {args : Array Value} {w : World} {v : Value} (h : Calls Tryz.prog F args w fun e w' => e = .returned v ∧ w' = w) : Calls Tryz.prog F args w fun e w' => e = .returned v ∧ ∃ k, w' = w.drewN k :=
  h.mono fun _ _ ⟨h1, h2⟩ => ⟨h1, 0, h2⟩
set_option maxRecDepth 100000 in
set_option maxHeartbeats 4000000 in
theorem way (op : Int) (a b : Nat) (V Y : Int) (ok is : Bool) (E F : Int) (hE : E = if ok then 0 else 1) (hF : F = if is then 0 else 1)
    (f1 : ∀ w, Calls Tryz.prog 7 #[.int .i64 op, .int .u64 (a : Int), .int .u64 (b : Int)] w fun e w' => e = .returned (.tuple #[.int .u64 V, .int .i64 E]) ∧ ∃ k, w' = w.drewN k)
    (f2 : ∀ w, Calls Tryz.prog 8 #[.int .i64 op, .int .u64 (a : Int), .int .u64 (b : Int)] w fun e w' => e = .returned (.tuple #[.int .u64 V, .bool ok]) ∧ Below w.heap.size w w')
    (f3 : ∀ w, Calls Tryz.prog 9 #[.int .i64 op, .int .u64 (a : Int), .int .u64 (b : Int)] w fun e w' => e = .returned (.tuple #[.int .u32 Y, .int .i64 F]) ∧ w = w')
    (f4 : ∀ w, Calls Tryz.prog 10 #[.int .i64 op, .int .u64 (a : Int), .int .u64 (b : Int)] w fun e w' => e = .returned (.tuple #[.int .u32 Y, .bool is]) ∧ w = w')
    (w : World) (hi : w.cell? ⟨7, 0, none⟩ = some (.int .u64 52)) (ho : w.cell? ⟨6, 0, none⟩ = some (.bool true)) :
    Calls Tryz.prog 3 #[.int .i64 op, .int .u64 (a : Int), .int .u64 (b : Int)] w fun e w' => e = .returned (.bool true) ∧ Below w.heap.size w w' := by
  have c0 := RA.awake w hi ho
  clear hi ho
  cases ok <;> cases is
  all_goals
    simp only [Bool.false_eq_true, if_false, if_true] at hE hF
    subst hE hF
    go_enter Tryz.func3, Tryz.ntmps3
    go_wp2_with (first
      | (go_at_call 6; refine c0.mono ?_; rintro e w' ⟨rfl, k0, rfl⟩)
      | ((with_reducible refine (f1 _).mono ?_); rintro e w' ⟨rfl, k1, rfl⟩)
      | ((with_reducible refine (f2 _).mono ?_); rintro e w2 ⟨rfl, b2⟩)
      | ((with_reducible refine (f3 _).mono ?_); rintro e w' ⟨rfl, rfl⟩)
      | ((with_reducible refine (f4 _).mono ?_); rintro e w' ⟨rfl, rfl⟩))
    go_ret
    first
      | exact ⟨rfl, (bdN (bdN (Below.refl w.heap.size w) k0) k1).trans (b2.mono (bdN (bdN (Below.refl w.heap.size w) k0) k1).size)⟩
      | exact ⟨rfl, (bdN (Below.refl w.heap.size w) _).trans (b2.mono (bdN (Below.refl w.heap.size w) _).size)⟩
theorem nat_of {a : Int} (h : (Lit.int .u64 a).wf = true) : ∃ n : Nat, a = n ∧ W n := by
  have b := bounds_u64 h
  exact ⟨a.toNat, by omega, by unfold W; omega⟩

theorem walk (a0 : Int) (w0 : (Lit.int .i64 a0).wf = true) (a1 : Int) (w1 : (Lit.int .u64 a1).wf = true) (a2 : Int) (w2 : (Lit.int .u64 a2).wf = true) (w : World) (hl : RL.Laid3 w) :
    Calls Tryz.prog 3 #[.int .i64 a0, .int .u64 a1, .int .u64 a2] w fun e w' => e = .returned (.bool true) ∧ Below w.heap.size w w' := by
  obtain ⟨a, rfl, ha⟩ := nat_of w1
  obtain ⟨b, rfl, hb⟩ := nat_of w2
  rcases (show a0 = 45 ∨ a0 = 46 ∨ a0 = 47 ∨ a0 = 48 ∨ a0 = 51 ∨ a0 = 52 ∨ a0 = 53 ∨ ¬ (a0 = 45 ∨ a0 = 46 ∨ a0 = 47 ∨ a0 = 48 ∨ a0 = 51 ∨ a0 = 52 ∨ a0 = 53) by omega) with h | h | h | h | h | h | h | h
  · subst h
    exact way 45 a b (fadd a b : Nat) 0 true false 0 1 rfl rfl (fun w => do_add a b w) (fun w => RO.do_add a b ha hb w) (fun w => left (cmp_no 45 a b w (by decide))) (fun w => RB.cmp_no 45 a b (by decide) w) w hl.1.1 hl.1.2
  · subst h
    exact way 46 a b (fsub a b : Nat) 0 true false 0 1 rfl rfl (fun w => do_sub a b w) (fun w => RO.do_sub a b ha hb w) (fun w => left (cmp_no 46 a b w (by decide))) (fun w => RB.cmp_no 46 a b (by decide) w) w hl.1.1 hl.1.2
  · subst h
    exact way 47 a b (fmul a b : Nat) 0 true false 0 1 rfl rfl (fun w => do_mul a b w) (fun w => RO.do_mul a b ha hb w) (fun w => left (cmp_no 47 a b w (by decide))) (fun w => RB.cmp_no 47 a b (by decide) w) w hl.1.1 hl.1.2
  · subst h
    exact way 48 a b (fdiv a b : Nat) 0 true false 0 1 rfl rfl (fun w => do_quo a b w) (fun w => RO.do_quo a b ha hb w) (fun w => left (cmp_no 48 a b w (by decide))) (fun w => RB.cmp_no 48 a b (by decide) w) w hl.1.1 hl.1.2
  · subst h
    exact way 51 a b 0 ((feq a b).toNat : Int) false true 1 0 rfl rfl (fun w => drew0 (do_no 51 a b w (by decide))) (fun w => RO.do_no 51 a b (by decide) w) (fun w => left (cmp_eq a b w)) (fun w => RB.cmp_eq a b ha hb w) w hl.1.1 hl.1.2
  · subst h
    exact way 52 a b 0 ((flt a b).toNat : Int) false true 1 0 rfl rfl (fun w => drew0 (do_no 52 a b w (by decide))) (fun w => RO.do_no 52 a b (by decide) w) (fun w => left (cmp_lt a b w)) (fun w => RB.cmp_lt a b ha hb w) w hl.1.1 hl.1.2
  · subst h
    exact way 53 a b 0 ((fle a b).toNat : Int) false true 1 0 rfl rfl (fun w => drew0 (do_no 53 a b w (by decide))) (fun w => RO.do_no 53 a b (by decide) w) (fun w => left (cmp_le a b w)) (fun w => RB.cmp_le a b ha hb w) w hl.1.1 hl.1.2
  · have h1 : RC.isOp a0 = false := by simp [RC.isOp]; omega
    have h2 : RC.isCmp a0 = false := by simp [RC.isCmp]; omega
    exact way a0 a b 0 0 false false 1 1 rfl rfl (fun w => drew0 (do_no a0 a b w h1)) (fun w => RO.do_no a0 a b h1 w) (fun w => left (cmp_no a0 a b w h2)) (fun w => RB.cmp_no a0 a b h2 w) w hl.1.1 hl.1.2

set_option maxRecDepth 100000 in
theorem lifted (os : Os) (started : os.Started) (H : Type) (enc : TypeId × Value → H) :
    ReturnsInHanded {} Tryz.checked os 3 .any (fun w args => (Rows.realDoesSpec.pre enc Tryz.prog Tryz.f3 Rows.realDoesRow.domain false w args ∧ laidMetH Tryz.prog Rows.realDoesRow.laid w) ∧ sizedMet enc Tryz.prog Tryz.f3 (OpenSpec.ofChange Rows.realDoesSpec) false w args)
      (Rows.realDoesSpec.post enc Tryz.prog Tryz.f3 false true false false) := by
  refine returnsInHanded_of_change_and (C := Tryz.checked) (X := fun w _ => laidMetH Tryz.prog Rows.realDoesRow.laid w) (fun _ _ _ hh h => h.of_heap hh) own started (by kernel_rfl) Tryz.func3
    (ChangeSpec.witness_shaped (enc := enc) (C := Tryz.checked) (os := os) (X := fun w _ => laidMetH Tryz.prog Rows.realDoesRow.laid w) false (World.laidAll Tryz.prog os Rows.realDoesRow.laid) #[.int .i64 0, .int .u64 0, .int .u64 0] 8 (World.laidAll_os _ _ _)
      (World.shaped_of_ZipB (by kernel_rfl) (by kernel_rfl)) (by kernel_rfl) (by kernel_rfl) (by kernel_rfl)
      (by rw [MakeChecks.laidMetH_plain _ _ _ (by kernel_rfl)]; exact laidMet_laidAll _ (by kernel_rfl) (by kernel_rfl))) ?_
  intro W base args ds gs before hval0 hW hcnd hroom hL _
  have hval : ∀ (j : Nat) t v, Tryz.f3.params[j]? = some t → args[j]? = some v → Value.okWide Tryz.prog W .any base t v := hval0
  have hW' := hW
  obtain ⟨p, q, hA0, hV, rfl, hfz, hnd⟩ := hW
  have hA : DataW.TrodAll enc Tryz.prog W 0 (fun _ => true) true Tryz.f3.params.toList args.toList ds p := hA0
  rw [Tryz.params3] at hA hval
  obtain ⟨v0, vs0, d0, ds0, p0, q0, hargs, rfl, rfl, h0, r0⟩ := trodAll_cons hA
  obtain ⟨v1, vs1, d1, ds1, p1, q1, rfl, rfl, rfl, h1, r1⟩ := trodAll_cons r0
  obtain ⟨v2, vs2, d2, ds2, p2, q2, rfl, rfl, rfl, h2, r2⟩ := trodAll_cons r1
  obtain ⟨rfl, rfl, rfl⟩ := trodAll_nil r2
  obtain rfl : args = #[v0, v1, v2] := by cases args; simp_all
  obtain ⟨rfl, rfl⟩ := trodVars_none hV
  obtain ⟨a0, rfl, rfl, rfl, w0⟩ := open_int Tryz.underlying3 (hval 0 3 v0 rfl rfl) h0
  obtain ⟨a1, rfl, rfl, rfl, w1⟩ := open_int Tryz.underlying22 (hval 1 22 v1 rfl rfl) h1
  obtain ⟨a2, rfl, rfl, rfl, w2⟩ := open_int Tryz.underlying22 (hval 2 22 v2 rfl rfl) h2
  clear hA0 hval0
  rw [MakeChecks.laidMetH_plain _ _ _ (by kernel_rfl)] at hL
  have hl : RL.Laid3 W := ⟨⟨RL.info_cell (Lib.laidMet.reads hL (.tail _ (.tail _ (.tail _ (.head _))))), RL.optimize_cell (Lib.laidMet.reads hL (.tail _ (.tail _ (.tail _ (.tail _ (.head _))))))⟩, RL.bits_cell (Lib.laidMet.reads hL (.tail _ (.head _)))⟩
  simp only [List.append_nil] at hW'
  refine (walk a0 w0 a1 w1 a2 w2 W hl).mono fun e W' ⟨he, hg⟩ => ?_
  subst he
  exact ⟨_, rfl, _, _, _, [], [], [], hW', (trodAll_cons_mk (shut_bool Tryz.underlying4 _) trodAll_mk0), (trodAll_cons_mk (shut_int Tryz.underlying3 w0) (trodAll_cons_mk (shut_int Tryz.underlying22 w1) (trodAll_cons_mk (shut_int Tryz.underlying22 w2) trodAll_mk0))), rfl, hg.frame _, fun h => by cases h⟩

theorem over : Rows.realDoesRow.holds Tryz.pinned (OpenSpec.ofChange Rows.realDoesSpec) :=
  OpenClaim.holds_of_wide 3 Tryz.f3 rfl rfl rfl rfl rfl rfl rfl ⟨rfl, rfl, rfl, rfl, rfl⟩ rfl rfl rfl rfl rfl (by kernel_rfl) Tryz.func3 (by kernel_rfl)
    (of_decide_eq_true (by kernel_rfl)) (by unfold Func.isWrapper; first | (rw [if_pos (by decide +kernel)]; kernel_rfl) | (rw [if_neg (by decide +kernel)]; exact ⟨rfl, rfl⟩))
    (fun os started H enc _ => lifted os started H enc)

/-- The card. -/
theorem proved : Rows.RealDoesCardSaid :=
  Claim7.holds_tied_plain_at .later [] [.data, .data, .widerDeep, .widerDeep, .data, .data, .data, .data, .data, .sentinel, .sentinel, .pinned, .pinned] true (true, "01abfeb0e52faa038933b8f31f3e1164ba7de8296b81a0b834ef216a41847b10") true over (fun _ h => by cases h) (by kernel_rfl) (fun _ h => by cases h) realDoes_row_tie rfl ⟨rfl, rfl⟩ (by kernel_rfl) rfl
    (fun f fn hf hfn => by
      obtain rfl : f = 3 := Option.some.inj ((show Tryz.prog.funcNamed "solder/solderlaw02.RealDoes" = some 3 by kernel_rfl).symm.trans hf) |>.symm
      obtain rfl : fn = Tryz.f3 := (Option.some.inj (Tryz.func3.symm.trans hfn)).symm
      exact ⟨by kernel_rfl, fun j t ht => by
        rw [Tryz.params3] at ht
        have hm : t ∈ [3, 22, 22] := by simpa using Array.mem_of_getElem? ht
        have hall : ([3, 22, 22].all fun u => !Tryz.prog.wantsStandIn u) = true := by kernel_rfl
        exact (show Tryz.prog.wantsStandIn t = false by simpa using List.all_eq_true.1 hall t hm)⟩)
    (by kernel_rfl)
end Go.Proofs.YtcchmnilcmnajaaGreatDoor.realDoes
