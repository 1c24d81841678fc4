/-
  The forms of all Ops, as package code makes them: a map of its own, that holds each Op's row. No condition.
-/
import Derived.Test.YtlmblfkcmhgdaaaCodeC
import Derived.Maps.RangeWalk
import Derived.Maps.OwnSet
namespace Go.Proofs.Ytlmblfkcmhgdaaa
open Go.RowKit Go.Maps
set_option linter.unusedVariables false
set_option linter.unusedSimpArgs false
namespace CF
open CC
/-- how a form reads: kind, op, f3, f7 -/
def formR (v : Value) : Option (DataW Unit × List MemPlace) :=
  match v with
  | .agg cs => match cs.toList with
    | [.int .i64 a, .int .u32 b, .int .u32 c, .int .u32 d] => some (.agg [.lit (.int .i64 a), .lit (.int .u32 b), .lit (.int .u32 c), .lit (.int .u32 d)], [])
    | _ => none
  | _ => none
def formV (a b c d : Int) : Value := .agg #[.int .i64 a, .int .u32 b, .int .u32 c, .int .u32 d]
def formD (a b c d : Int) : DataW Unit := .agg [.lit (.int .i64 a), .lit (.int .u32 b), .lit (.int .u32 c), .lit (.int .u32 d)]
theorem formR_mk (a b c d : Int) : formR (formV a b c d) = some (formD a b c d, []) := rfl
theorem formR_inv {v : Value} {z : DataW Unit × List MemPlace} (h : formR v = some z) : ∃ a b c d, v = formV a b c d ∧ z = (formD a b c d, []) := by
  unfold formR at h
  split at h
  · rename_i cs
    split at h
    · rename_i a b c d e
      refine ⟨a, b, c, d, ?_, ?_⟩
      · unfold formV
        have : cs = cs.toList.toArray := by simp
        rw [this, e]
      · exact (Option.some.inj h).symm
    · cases h
  · cases h
theorem keyed : Keyed Try.prog 3 := int_keyed Try.underlying3
/-- the map under way: n entries at most, that read as D -/
structure Made (w0 w : World) (b n : Nat) (D : DataW Unit) : Prop where
  own : w.ownsMap Try.prog 3 formR b n D
  below : Below w0.heap.size w0 w
  new : w0.heap.size ≤ b
theorem made (w : World) : Made w (w.alloc (.map #[] 0)) w.heap.size 0 (.map []) := ⟨World.ownsMap_made _ _ _ _, (Below.refl _ _).alloc (Nat.le_refl _) _, Nat.le_refl _⟩
theorem step {w0 w : World} {b n : Nat} {D : DataW Unit} (S : Made w0 w b n D) (hn : n < 1000) (key p q r s : Int) (hw : (Lit.int .i64 key).wf = true) :
    ∃ w', (Instr.mapUpdate 79 (.map (some b)) (.int .i64 key) (.agg #[.int .i64 p, .int .u32 q, .int .u32 r, .int .u32 s])).run Try.prog w = .ok () w' ∧ Made w0 w' b (n + 1) (D.put (.int .i64 key) (formD p q r s)) := by
  obtain ⟨w', hrun, r1, r2⟩ := S.own.update keyed Try.underlying79 (by unfold maxLen; omega) (keyOf_int_mk Try.underlying3 hw) (formR_mk p q r s)
  refine ⟨w', hrun, r1, S.below.grown r2 S.below.size ?_, S.new⟩
  intro k hk
  cases hk
  exact S.new
/-- what the forms read as -/
def forms : DataW Unit := .map [
  (.int .i64 1, formD 0 51 0 0),
  (.int .i64 2, formD 0 51 0 32),
  (.int .i64 3, formD 0 51 1 0),
  (.int .i64 4, formD 0 51 2 0),
  (.int .i64 5, formD 0 51 3 0),
  (.int .i64 6, formD 0 51 4 0),
  (.int .i64 7, formD 0 51 5 0),
  (.int .i64 8, formD 0 51 5 32),
  (.int .i64 9, formD 0 51 6 0),
  (.int .i64 10, formD 0 51 7 0),
  (.int .i64 11, formD 0 51 0 1),
  (.int .i64 12, formD 0 51 1 1),
  (.int .i64 13, formD 0 51 3 1),
  (.int .i64 14, formD 0 51 4 1),
  (.int .i64 15, formD 0 51 5 1),
  (.int .i64 16, formD 0 51 6 1),
  (.int .i64 17, formD 0 51 7 1),
  (.int .i64 18, formD 1 19 0 0),
  (.int .i64 19, formD 1 19 2 0),
  (.int .i64 20, formD 1 19 3 0),
  (.int .i64 21, formD 1 19 4 0),
  (.int .i64 22, formD 1 19 6 0),
  (.int .i64 23, formD 1 19 7 0),
  (.int .i64 24, formD 2 19 1 0),
  (.int .i64 25, formD 2 19 5 0),
  (.int .i64 26, formD 2 19 5 32),
  (.int .i64 27, formD 1 3 0 0),
  (.int .i64 28, formD 1 3 4 0),
  (.int .i64 29, formD 1 3 2 0),
  (.int .i64 30, formD 3 35 0 0),
  (.int .i64 31, formD 3 35 2 0),
  (.int .i64 32, formD 4 99 0 0),
  (.int .i64 33, formD 4 99 1 0),
  (.int .i64 34, formD 4 99 4 0),
  (.int .i64 35, formD 4 99 5 0),
  (.int .i64 36, formD 4 99 6 0),
  (.int .i64 37, formD 4 99 7 0),
  (.int .i64 38, formD 5 55 0 0),
  (.int .i64 39, formD 5 23 0 0),
  (.int .i64 40, formD 6 111 0 0),
  (.int .i64 41, formD 1 103 0 0),
  (.int .i64 42, formD 7 115 0 0),
  (.int .i64 43, formD 1 7 3 0),
  (.int .i64 44, formD 3 39 3 0),
  (.int .i64 45, formD 8 83 0 1),
  (.int .i64 46, formD 8 83 0 5),
  (.int .i64 47, formD 8 83 0 9),
  (.int .i64 48, formD 8 83 0 13),
  (.int .i64 49, formD 9 83 0 17),
  (.int .i64 50, formD 9 83 1 17),
  (.int .i64 51, formD 8 83 2 81),
  (.int .i64 52, formD 8 83 1 81),
  (.int .i64 53, formD 8 83 0 81),
  (.int .i64 54, formD 10 83 1 97),
  (.int .i64 55, formD 10 83 0 105)]
theorem Made.of_eq {w0 w : World} {b n : Nat} {D D' : DataW Unit} (S : Made w0 w b n D) (h : D = D') : Made w0 w b n D' := h ▸ S
set_option maxRecDepth 100000 in
set_option maxHeartbeats 2000000 in
theorem forms_ (w : World) : Calls Try.prog 32 #[] w fun e w' => ∃ b, e = .returned (.map (some b)) ∧ Made w w' b 55 forms := by
  have hmm := @run_makeMap Try.prog
  have S0 := made w
  obtain ⟨w1, r1, S1⟩ := step S0 (by omega) 1 0 51 0 0 (by decide); clear S0
  obtain ⟨w2, r2, S2⟩ := step S1 (by omega) 2 0 51 0 32 (by decide); clear S1
  obtain ⟨w3, r3, S3⟩ := step S2 (by omega) 3 0 51 1 0 (by decide); clear S2
  obtain ⟨w4, r4, S4⟩ := step S3 (by omega) 4 0 51 2 0 (by decide); clear S3
  obtain ⟨w5, r5, S5⟩ := step S4 (by omega) 5 0 51 3 0 (by decide); clear S4
  obtain ⟨w6, r6, S6⟩ := step S5 (by omega) 6 0 51 4 0 (by decide); clear S5
  obtain ⟨w7, r7, S7⟩ := step S6 (by omega) 7 0 51 5 0 (by decide); clear S6
  obtain ⟨w8, r8, S8⟩ := step S7 (by omega) 8 0 51 5 32 (by decide); clear S7
  obtain ⟨w9, r9, S9⟩ := step S8 (by omega) 9 0 51 6 0 (by decide); clear S8
  obtain ⟨w10, r10, S10⟩ := step S9 (by omega) 10 0 51 7 0 (by decide); clear S9
  obtain ⟨w11, r11, S11⟩ := step S10 (by omega) 11 0 51 0 1 (by decide); clear S10
  obtain ⟨w12, r12, S12⟩ := step S11 (by omega) 12 0 51 1 1 (by decide); clear S11
  obtain ⟨w13, r13, S13⟩ := step S12 (by omega) 13 0 51 3 1 (by decide); clear S12
  obtain ⟨w14, r14, S14⟩ := step S13 (by omega) 14 0 51 4 1 (by decide); clear S13
  obtain ⟨w15, r15, S15⟩ := step S14 (by omega) 15 0 51 5 1 (by decide); clear S14
  obtain ⟨w16, r16, S16⟩ := step S15 (by omega) 16 0 51 6 1 (by decide); clear S15
  obtain ⟨w17, r17, S17⟩ := step S16 (by omega) 17 0 51 7 1 (by decide); clear S16
  obtain ⟨w18, r18, S18⟩ := step S17 (by omega) 18 1 19 0 0 (by decide); clear S17
  obtain ⟨w19, r19, S19⟩ := step S18 (by omega) 19 1 19 2 0 (by decide); clear S18
  obtain ⟨w20, r20, S20⟩ := step S19 (by omega) 20 1 19 3 0 (by decide); clear S19
  obtain ⟨w21, r21, S21⟩ := step S20 (by omega) 21 1 19 4 0 (by decide); clear S20
  obtain ⟨w22, r22, S22⟩ := step S21 (by omega) 22 1 19 6 0 (by decide); clear S21
  obtain ⟨w23, r23, S23⟩ := step S22 (by omega) 23 1 19 7 0 (by decide); clear S22
  obtain ⟨w24, r24, S24⟩ := step S23 (by omega) 24 2 19 1 0 (by decide); clear S23
  obtain ⟨w25, r25, S25⟩ := step S24 (by omega) 25 2 19 5 0 (by decide); clear S24
  obtain ⟨w26, r26, S26⟩ := step S25 (by omega) 26 2 19 5 32 (by decide); clear S25
  obtain ⟨w27, r27, S27⟩ := step S26 (by omega) 27 1 3 0 0 (by decide); clear S26
  obtain ⟨w28, r28, S28⟩ := step S27 (by omega) 29 1 3 2 0 (by decide); clear S27
  obtain ⟨w29, r29, S29⟩ := step S28 (by omega) 28 1 3 4 0 (by decide); clear S28
  obtain ⟨w30, r30, S30⟩ := step S29 (by omega) 41 1 103 0 0 (by decide); clear S29
  obtain ⟨w31, r31, S31⟩ := step S30 (by omega) 43 1 7 3 0 (by decide); clear S30
  obtain ⟨w32, r32, S32⟩ := step S31 (by omega) 30 3 35 0 0 (by decide); clear S31
  obtain ⟨w33, r33, S33⟩ := step S32 (by omega) 31 3 35 2 0 (by decide); clear S32
  obtain ⟨w34, r34, S34⟩ := step S33 (by omega) 44 3 39 3 0 (by decide); clear S33
  obtain ⟨w35, r35, S35⟩ := step S34 (by omega) 32 4 99 0 0 (by decide); clear S34
  obtain ⟨w36, r36, S36⟩ := step S35 (by omega) 33 4 99 1 0 (by decide); clear S35
  obtain ⟨w37, r37, S37⟩ := step S36 (by omega) 34 4 99 4 0 (by decide); clear S36
  obtain ⟨w38, r38, S38⟩ := step S37 (by omega) 35 4 99 5 0 (by decide); clear S37
  obtain ⟨w39, r39, S39⟩ := step S38 (by omega) 36 4 99 6 0 (by decide); clear S38
  obtain ⟨w40, r40, S40⟩ := step S39 (by omega) 37 4 99 7 0 (by decide); clear S39
  obtain ⟨w41, r41, S41⟩ := step S40 (by omega) 38 5 55 0 0 (by decide); clear S40
  obtain ⟨w42, r42, S42⟩ := step S41 (by omega) 39 5 23 0 0 (by decide); clear S41
  obtain ⟨w43, r43, S43⟩ := step S42 (by omega) 40 6 111 0 0 (by decide); clear S42
  obtain ⟨w44, r44, S44⟩ := step S43 (by omega) 42 7 115 0 0 (by decide); clear S43
  obtain ⟨w45, r45, S45⟩ := step S44 (by omega) 45 8 83 0 1 (by decide); clear S44
  obtain ⟨w46, r46, S46⟩ := step S45 (by omega) 46 8 83 0 5 (by decide); clear S45
  obtain ⟨w47, r47, S47⟩ := step S46 (by omega) 47 8 83 0 9 (by decide); clear S46
  obtain ⟨w48, r48, S48⟩ := step S47 (by omega) 48 8 83 0 13 (by decide); clear S47
  obtain ⟨w49, r49, S49⟩ := step S48 (by omega) 51 8 83 2 81 (by decide); clear S48
  obtain ⟨w50, r50, S50⟩ := step S49 (by omega) 52 8 83 1 81 (by decide); clear S49
  obtain ⟨w51, r51, S51⟩ := step S50 (by omega) 53 8 83 0 81 (by decide); clear S50
  obtain ⟨w52, r52, S52⟩ := step S51 (by omega) 49 9 83 0 17 (by decide); clear S51
  obtain ⟨w53, r53, S53⟩ := step S52 (by omega) 50 9 83 1 17 (by decide); clear S52
  obtain ⟨w54, r54, S54⟩ := step S53 (by omega) 54 10 83 1 97 (by decide); clear S53
  obtain ⟨w55, r55, S55⟩ := step S54 (by omega) 55 10 83 0 105 (by decide); clear S54
  go_enter Try.func32, Try.ntmps32
  go_wp2
  go_ret
  exact ⟨_, rfl, S55.of_eq (by kernel_rfl)⟩
end CF
end Go.Proofs.Ytlmblfkcmhgdaaa
