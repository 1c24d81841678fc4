/-
  CodeP CodeJ CodeT SolA SolB SolC SolD ResE ResZ ResH RefM RefR RefV RefW RefN RefP RefQ, joined.
  Conditions: those that are written at each.
-/
import Derived.Test.YtieehjkmfmkfjaaCodeL
import Derived.ProofKit
import Derived.OpenShut
import Derived.ChangeArms
import Derived.Test.YtieehjkmfmkfjaaCodeB
import Derived.Test.YtieehjkmfmkfjaaCodeO
import Derived.IntWalk
import Derived.BigGuardPart
import Derived.Deep.DeepCutAuto
import Derived.Test.YtieehjkmfmkfjaaObjPt
import Derived.Test.YtieehjkmfmkfjaaObjRl
import Derived.BigQuiet
import Derived.WalkSpells
import Derived.Test.YtieehjkmfmkfjaaObjCk
import Derived.Test.YtieehjkmfmkfjaaResP
import Derived.Test.YtieehjkmfmkfjaaResB
import Derived.Test.YtieehjkmfmkfjaaResJ
import Derived.Test.YtieehjkmfmkfjaaResX
import Derived.Maps.AppendAt
import Derived.Deep.AppendLies
import Derived.Sort.Walk0
/-
  An instruction, and three bytes, as a parameter: opened and shut. No condition.
-/
namespace Go.Proofs.Ytieehjkmfmkfjaa
open Go.RowKit Go.ChangeShapes Go.WideShapes Go.ChangeAt
set_option linter.unusedVariables false
namespace CP
theorem one3 : Try.prog.cellsOf 3 = 1 := by kernel_rfl
theorem five : Try.prog.cellsOf 85 = 5 := by kernel_rfl
theorem one5 : Try.prog.cellsOf 5 = 1 := by kernel_rfl
theorem list5 {α : Type} (l : List α) (h : l.length = 5) : ∃ a b c d e, l = [a, b, c, d, e] := by
  match l, h with
  | [a, b, c, d, e], _ => exact ⟨a, b, c, d, e, rfl⟩
theorem list3 {α : Type} (l : List α) (h : l.length = 3) : ∃ a b c, l = [a, b, c] := by
  match l, h with
  | [a, b, c], _ => exact ⟨a, b, c, rfl⟩
section
variable {H : Type} {enc : TypeId × Value → H} {w : World} {base b0 : Nat} {spare : Nat → Bool} {held : Bool}
set_option maxRecDepth 100000 in
theorem open_instr {v : Value} {d : DataW H} {ps : List MemPlace} (hval : Value.okWide Try.prog w .any b0 85 v) (hd : DataW.Trod enc Try.prog w base spare held 85 v d ps) :
    ∃ a b c e f : Int, v = .agg #[.int .i64 a, .int .i64 b, .int .i64 c, .int .i64 e, .int .i64 f] ∧ d = .agg [.lit (.int .i64 a), .lit (.int .i64 b), .lit (.int .i64 c), .lit (.int .i64 e), .lit (.int .i64 f)] ∧ ps = [] ∧
      (Lit.int .i64 a).wf = true ∧ (Lit.int .i64 b).wf = true ∧ (Lit.int .i64 c).wf = true ∧ (Lit.int .i64 e).wf = true ∧ (Lit.int .i64 f).wf = true := by
  obtain ⟨cs, rfl, hsz, _⟩ : ∃ cs, v = .agg cs ∧ cs.size = Try.prog.cellsOf 85 ∧ Row.okWide Try.prog w .any b0 85 cs := by
    simpa [Value.okWide, Try.underlying85] using hval
  rw [five] at hsz
  obtain ⟨l⟩ := cs
  obtain ⟨c0, c1, c2, c3, c4, rfl⟩ := list5 l (by simpa using hsz)
  obtain ⟨fuel, hf⟩ := hd
  have hf' : DataW.trod enc Try.prog w base spare held fuel 85 [c0, c1, c2, c3, c4] = some (d, ps) := hf
  obtain ⟨xs, m, rfl, hx, hl, hxl, hall⟩ := DataW.trod_struct Try.underlying85 hf'
  have h0 := hall 0 _ rfl
  have h1 := hall 1 _ rfl
  have h2 := hall 2 _ rfl
  have h3 := hall 3 _ rfl
  have h4 := hall 4 _ rfl
  obtain ⟨y0, y1, y2, y3, y4, rfl⟩ := list5 xs hxl
  have g0 : DataW.trod enc Try.prog w base spare held m 3 [c0] = some y0 := by simpa [one3] using h0
  have g1 : DataW.trod enc Try.prog w base spare held m 3 [c1] = some y1 := by simpa [one3] using h1
  have g2 : DataW.trod enc Try.prog w base spare held m 3 [c2] = some y2 := by simpa [one3] using h2
  have g3 : DataW.trod enc Try.prog w base spare held m 3 [c3] = some y3 := by simpa [one3] using h3
  have g4 : DataW.trod enc Try.prog w base spare held m 3 [c4] = some y4 := by simpa [one3] using h4
  obtain ⟨x0, e0, rfl, w0⟩ := DataW.trod_int Try.underlying3 g0
  obtain ⟨x1, e1, rfl, w1⟩ := DataW.trod_int Try.underlying3 g1
  obtain ⟨x2, e2, rfl, w2⟩ := DataW.trod_int Try.underlying3 g2
  obtain ⟨x3, e3, rfl, w3⟩ := DataW.trod_int Try.underlying3 g3
  obtain ⟨x4, e4, rfl, w4⟩ := DataW.trod_int Try.underlying3 g4
  simp only [List.cons.injEq, and_true] at e0 e1 e2 e3 e4
  subst e0 e1 e2 e3 e4
  simp only [Prod.mk.injEq] at hx
  obtain ⟨rfl, rfl⟩ := hx
  exact ⟨x0, x1, x2, x3, x4, rfl, rfl, rfl, w0, w1, w2, w3, w4⟩
theorem shut_instr {a b c e f : Int} (w0 : (Lit.int .i64 a).wf = true) (w1 : (Lit.int .i64 b).wf = true) (w2 : (Lit.int .i64 c).wf = true) (w3 : (Lit.int .i64 e).wf = true) (w4 : (Lit.int .i64 f).wf = true) :
    DataW.Trod enc Try.prog w base spare held 85 (.agg #[.int .i64 a, .int .i64 b, .int .i64 c, .int .i64 e, .int .i64 f]) (.agg [.lit (.int .i64 a), .lit (.int .i64 b), .lit (.int .i64 c), .lit (.int .i64 e), .lit (.int .i64 f)]) [] :=
  ⟨2, by simp [DataW.trod, Value.cells, Try.underlying85, Try.underlying3, five, one3, w0, w1, w2, w3, w4]⟩
end
/-- two blocks lie as they were laid -/
structure Tw (w w' : World) (I J : Array Value) : Prop where
  hi : w'.heap[w.heap.size]? = some (.cells I 85 (0, 0))
  hj : w'.heap[w.heap.size + 1]? = some (.cells J 85 (0, 0))
  below : Below w.heap.size w w'
theorem tw {w w' : World} {I J : Array Value} (hb : Below ((w.alloc (.cells I 85)).alloc (.cells J 85)).heap.size ((w.alloc (.cells I 85)).alloc (.cells J 85)) w') : Tw w w' I J := by
  refine ⟨?_, ?_, ((CE.box0 w _).alloc (by simp) _).trans (hb.mono (by simp only [World.size_alloc]; omega))⟩
  · rw [hb.block _ (by simp only [World.size_alloc]; omega), Below.heap_alloc _ _ _ (by simp)]
    exact CW.newAt _ _ _ rfl
  · rw [hb.block _ (by simp only [World.size_alloc]; omega)]
    exact CW.newAt _ _ _ (by simp)
theorem Tw.trans {w w' w'' : World} {I J : Array Value} (g : Tw w w' I J) (hb : Below w'.heap.size w' w'') : Tw w w'' I J :=
  ⟨(hb.block _ (CW.lt_of_get g.hi)).trans g.hi, (hb.block _ (CW.lt_of_get g.hj)).trans g.hj, g.below.trans (hb.mono g.below.size)⟩
theorem cells5 {w : World} {b : Nat} {p q r s t : Int} {T : TypeId} (h : w.heap[b]? = some (.cells #[.int .i64 p, .int .i64 q, .int .i64 r, .int .i64 s, .int .i64 t] T (0, 0))) :
    w.cell? ⟨b, 0, none⟩ = some (.int .i64 p) ∧ w.cell? ⟨b, 1, none⟩ = some (.int .i64 q) ∧ w.cell? ⟨b, 2, none⟩ = some (.int .i64 r) ∧ w.cell? ⟨b, 3, none⟩ = some (.int .i64 s) ∧ w.cell? ⟨b, 4, none⟩ = some (.int .i64 t) :=
  ⟨cell_of_row _ _ _ _ _ _ h, cell_of_row _ _ _ _ _ _ h, cell_of_row _ _ _ _ _ _ h, cell_of_row _ _ _ _ _ _ h, cell_of_row _ _ _ _ _ _ h⟩
end CP
end Go.Proofs.Ytieehjkmfmkfjaa
/-
  The document's word of any instruction (package solderref03's Encode), a contract. Conditions: four ints as parts.
-/
namespace Go.Proofs.Ytieehjkmfmkfjaa
open Go.RowKit
set_option linter.unusedVariables false
set_option linter.unusedSimpArgs false
namespace CJ
open CC CW CR CA CE CB CO
set_option maxRecDepth 100000 in
theorem enc_none (op rd rs1 rs2 imm : Int)
    (hOf : ∀ w, Calls Try.prog 71 #[.int .i64 op] w fun e w' => e = .returned (.agg #[.int .u8 0, .int .i64 0, .int .i64 0, .int .i64 0, .int .i64 0]) ∧ Below w.heap.size w w') (w : World) :
    Calls Try.prog 52 #[.agg #[.int .i64 op, .int .i64 rd, .int .i64 rs1, .int .i64 rs2, .int .i64 imm]] w fun e w' => e = .returned (.tuple #[.int .u32 0, .int .i64 2]) ∧ Below w.heap.size w w' := by
  go_enter Try.func52, Try.ntmps52
  go_upto_region 1 with fail
  go_upto_region 2 with (go_at_call 71; refine (hOf _).mono ?_; rintro e w1 ⟨rfl, hb0⟩)
  have hb1 : Below w.heap.size w w1 := (CE.box0 w _).trans (hb0.mono (by simp only [World.size_alloc]; omega))
  clear hb0 hOf
  go_wp2
  go_ret2
  exact ⟨rfl, hb1.alloc hb1.size _⟩
theorem res_yes {op rd rs1 rs2 imm k o a c : Int} (ho : CM.isOp op = true) (hk : CM.kd op = k) (h1 : CM.o7 op = o) (h2 : CM.f3 op = a) (h3 : CM.f7 op = c) :
    CB.res k o a c rd rs1 rs2 imm = .tuple #[.int .u32 (encW op rd rs1 rs2 imm), .int .i64 (encE op rd rs1 rs2 imm)] := by
  subst hk h1 h2 h3
  unfold CB.res encW encE
  rw [ho]
  simp
theorem encode_ (op rd rs1 rs2 imm : Int) (h1 : (Lit.int .i64 rd).wf = true) (h2 : (Lit.int .i64 rs1).wf = true) (h3 : (Lit.int .i64 rs2).wf = true) (h4 : (Lit.int .i64 imm).wf = true) (w : World) :
    Calls Try.prog 52 #[.agg #[.int .i64 op, .int .i64 rd, .int .i64 rs1, .int .i64 rs2, .int .i64 imm]] w fun e w' => e = .returned (.tuple #[.int .u32 (encW op rd rs1 rs2 imm), .int .i64 (encE op rd rs1 rs2 imm)]) ∧ Below w.heap.size w w' := by
  have hOf := fun w => of_ op w
  unfold rowV at hOf
  cases ho : CM.isOp op with
  | false =>
    rw [ho] at hOf
    have e1 : encW op rd rs1 rs2 imm = 0 := by unfold encW; rw [ho]; rfl
    have e2 : encE op rd rs1 rs2 imm = 2 := by unfold encE; rw [ho]; rfl
    rw [e1, e2]
    exact enc_none op rd rs1 rs2 imm hOf w
  | true =>
    rw [ho] at hOf
    have hft := CM.ft_row ho
    have hb := CM.ft_bd hft
    have hk := CM.kinds hft
    have hr := fun k e => res_yes (rd := rd) (rs1 := rs1) (rs2 := rs2) (imm := imm) (k := k) ho e rfl rfl rfl
    have bo : 0 ≤ CM.o7 op ∧ CM.o7 op ≤ 127 := ⟨hb.1, hb.2.1⟩
    have ba : 0 ≤ CM.f3 op ∧ CM.f3 op ≤ 7 := ⟨hb.2.2.1, hb.2.2.2.1⟩
    have bc : 0 ≤ CM.f7 op ∧ CM.f7 op ≤ 127 := ⟨hb.2.2.2.2.1, hb.2.2.2.2.2.1⟩
    rcases hk with h | h | h | h | h | h | h | h | h | h | h
    · rw [← hr 0 h]; rw [h] at hOf; exact enc_R op rd rs1 rs2 imm _ _ _ h1 h2 h3 h4 bo ba bc hOf w
    · rw [← hr 1 h]; rw [h] at hOf; exact enc_I op rd rs1 rs2 imm _ _ _ h1 h2 h3 h4 bo ba bc hOf w
    · rw [← hr 2 h]; rw [h] at hOf; exact enc_H op rd rs1 rs2 imm _ _ _ h1 h2 h3 h4 bo ba bc hOf w
    · rw [← hr 3 h]; rw [h] at hOf; exact enc_S op rd rs1 rs2 imm _ _ _ h1 h2 h3 h4 bo ba bc hOf w
    · rw [← hr 4 h]; rw [h] at hOf; exact enc_B op rd rs1 rs2 imm _ _ _ h1 h2 h3 h4 bo ba bc hOf w
    · rw [← hr 5 h]; rw [h] at hOf; exact enc_U op rd rs1 rs2 imm _ _ _ h1 h2 h3 h4 bo ba bc hOf w
    · rw [← hr 6 h]; rw [h] at hOf; exact enc_J op rd rs1 rs2 imm _ _ _ h1 h2 h3 h4 bo ba bc hOf w
    · rw [← hr 7 h]; rw [h] at hOf; exact enc_E op rd rs1 rs2 imm _ _ _ h1 h2 h3 h4 bo ba bc hOf w
    · rw [← hr 8 h]; rw [h] at hOf; exact enc_P op rd rs1 rs2 imm _ _ _ h1 h2 h3 h4 bo ba bc hOf w
    · rw [← hr 9 h]; rw [h] at hOf; exact enc_T op rd rs1 rs2 imm _ _ _ h1 h2 h3 h4 bo ba bc hOf w
    · rw [← hr 10 h]; rw [h] at hOf; exact enc_Z op rd rs1 rs2 imm _ _ _ h1 h2 h3 h4 bo ba bc hOf w
end CJ
end Go.Proofs.Ytieehjkmfmkfjaa
/-
  The document's instruction of a word (package solderref03's Decode), a contract. Condition: the word is of 32 bits.
-/
namespace Go.Proofs.Ytieehjkmfmkfjaa
open Go.RowKit
set_option linter.unusedVariables false
set_option linter.unusedSimpArgs false
namespace CT
open CC CW CR CA CE CD CB CO CJ
theorem fld (x : Int) (hx0 : 0 ≤ x) (hx1 : x < 4294967296) (m n : Nat) (hm : m ≤ 31) (hn : n ≤ 31) (M P : Int) (hM : (2 : Int) ^ m = M) (hP : (2 : Int) ^ n = P) (y : Int) (hy : x / M % P = y) (w : World) :
    Calls Try.prog 72 #[.int .i64 x, .int .i64 (m : Int), .int .i64 (n : Int)] w fun e w' => e = .returned (.int .i64 y) ∧ w' = w := by
  have h := field_ x m n (by omega) (by omega) hm (by omega) (by omega) w
  rw [Int.toNat_natCast, hM, hP, hy] at h
  exact h
theorem row1 {w1 w2 : World} {I : Array Value} {T : TypeId} (hb : Below (w1.alloc (.cells I T)).heap.size (w1.alloc (.cells I T)) w2) : w2.heap[w1.heap.size]? = some (.cells I T (0, 0)) ∧ Below w1.heap.size w1 w2 := by
  refine ⟨?_, (box0 w1 _).trans (hb.mono (by simp only [World.size_alloc]; omega))⟩
  rw [hb.block _ (by simp only [World.size_alloc]; omega)]
  exact newAt _ _ _ rfl
theorem free5 {w : World} {b : Nat} {I : Array Value} {T : TypeId} (h : w.heap[b]? = some (.cells I T (0, 0))) : w.frozen? ⟨b, 0, none⟩ = false ∧ w.frozen? ⟨b, 1, none⟩ = false ∧ w.frozen? ⟨b, 2, none⟩ = false ∧ w.frozen? ⟨b, 3, none⟩ = false ∧ w.frozen? ⟨b, 4, none⟩ = false :=
  ⟨by simp [World.frozen?, h], by simp [World.frozen?, h], by simp [World.frozen?, h], by simp [World.frozen?, h], by simp [World.frozen?, h]⟩
theorem sets5 {w wc : World} {p q r s t : Value} (h : Below w.heap.size w wc) : Below w.heap.size w (((((wc.setCell ⟨w.heap.size, 0, none⟩ p).setCell ⟨w.heap.size, 1, none⟩ q).setCell ⟨w.heap.size, 2, none⟩ r).setCell ⟨w.heap.size, 3, none⟩ s).setCell ⟨w.heap.size, 4, none⟩ t) :=
  ((((h.setCell (Nat.le_refl _) _).setCell (Nat.le_refl _) _).setCell (Nat.le_refl _) _).setCell (Nat.le_refl _) _).setCell (Nat.le_refl _) _
theorem tr {wr w5 W : World} (h4 : Below wr.heap.size wr W) (hb5 : Below W.heap.size W w5) : Below wr.heap.size wr w5 := h4.trans (hb5.mono h4.size)
theorem al {wr W : World} (h : Below wr.heap.size wr W) (o : Obj) : Below wr.heap.size wr (W.alloc o) := h.alloc h.size o
def vv (a b c d : Int) (i : Nat) : Int := if i = 0 then a else if i = 1 then b else if i = 2 then c else d
theorem ia_vv (op a b c d : Int) : CI.ia op (vv a b c d) = #[.int .i64 op, .int .i64 a, .int .i64 b, .int .i64 c, .int .i64 d] := rfl
theorem fin_ {Q : Ending → World → Prop} (op : Int) (e : Bool) (V : Nat → Int) {tmps : Array Value} {n : Nat} {w : World}
    (hp : tmps.getD 2 undef = .pointer (some ⟨n, 0, none⟩)) (h3 : tmps.getD 3 undef = .bool e) (hg : w.heap[n]? = some (.cells #[.int .i64 0, .int .i64 0, .int .i64 0, .int .i64 0, .int .i64 0] 85 (0, 0))) (hQ : Q (.returned (.tuple #[.agg (CI.ia op V), .bool e])) (w.setRow n (CI.ia op V))) :
    bodyPost Try.prog Try.f47 Q .ret { tmps := tmps, defers := [] } (w.setRow n (CI.ia op V)) := by
  refine bodyPost_ret (v := .tuple #[.agg (CI.ia op V), .bool e]) ?_ rfl hQ
  have hp' : tmps[2]?.getD undef = .pointer (some ⟨n, 0, none⟩) := by simpa using hp
  have h3' : tmps[3]?.getD undef = .bool e := by simpa using h3
  have hl := run_loadVar_row (P := Try.prog) (w.setRow n (CI.ia op V)) n 85 85 (CI.ia op V) (0, 0) _ (setRow_heap _ _ _ _ _ _ hg) Try.underlying85 rfl (CI.size5 op V)
  simp [results, Try.results47, hp', h3', asAddr, hl]
theorem rd0 (w : World) : Rd w (w.alloc (.cells #[.int .i64 0, .int .i64 0, .int .i64 0, .int .i64 0, .int .i64 0] 85)) := ⟨newAt _ _ _ rfl, box0 _ _⟩
set_option maxRecDepth 100000 in
set_option maxHeartbeats 8000000 in
theorem decode_ (x : Int) (hx0 : 0 ≤ x) (hx1 : x < 4294967296) (w : World) : Calls Try.prog 47 #[.int .u32 x] w fun e w' =>
    e = .returned (.tuple #[.agg (iv (dOp x) (dRd x) (dRs1 x) (dRs2 x) (dImm x)), .bool (!(CM.dec x == 0))]) ∧ Below w.heap.size w w' := by
  obtain ⟨a1, h1⟩ : ∃ y, x / 128 % 32 = y := ⟨_, rfl⟩
  obtain ⟨a2, h2⟩ : ∃ y, x / 32768 % 32 = y := ⟨_, rfl⟩
  obtain ⟨a3, h3⟩ : ∃ y, x / 1048576 % 32 = y := ⟨_, rfl⟩
  obtain ⟨a4, h4⟩ : ∃ y, x / 1048576 % 4096 = y := ⟨_, rfl⟩
  obtain ⟨a5, h5⟩ : ∃ y, x / 33554432 % 128 = y := ⟨_, rfl⟩
  obtain ⟨a6, h6⟩ : ∃ y, x / 256 % 16 = y := ⟨_, rfl⟩
  obtain ⟨a7, h7⟩ : ∃ y, x / 33554432 % 64 = y := ⟨_, rfl⟩
  obtain ⟨a8, h8⟩ : ∃ y, x / 128 % 2 = y := ⟨_, rfl⟩
  obtain ⟨a9, h9⟩ : ∃ y, x / 2147483648 % 2 = y := ⟨_, rfl⟩
  obtain ⟨b1, h10⟩ : ∃ y, x / 2097152 % 1024 = y := ⟨_, rfl⟩
  obtain ⟨b2, h11⟩ : ∃ y, x / 1048576 % 2 = y := ⟨_, rfl⟩
  obtain ⟨b3, h12⟩ : ∃ y, x / 4096 % 256 = y := ⟨_, rfl⟩
  obtain ⟨b4, h13⟩ : ∃ y, x / 4096 % 1048576 = y := ⟨_, rfl⟩
  have c1 : ∀ w, Calls Try.prog 72 #[.int .i64 x, .int .i64 7, .int .i64 5] w fun e w' => e = .returned (.int .i64 a1) ∧ w' = w := fun w => fld x hx0 hx1 7 5 (by decide) (by decide) 128 32 (by decide) (by decide) a1 h1 w
  have c2 : ∀ w, Calls Try.prog 72 #[.int .i64 x, .int .i64 15, .int .i64 5] w fun e w' => e = .returned (.int .i64 a2) ∧ w' = w := fun w => fld x hx0 hx1 15 5 (by decide) (by decide) 32768 32 (by decide) (by decide) a2 h2 w
  have c3 : ∀ w, Calls Try.prog 72 #[.int .i64 x, .int .i64 20, .int .i64 5] w fun e w' => e = .returned (.int .i64 a3) ∧ w' = w := fun w => fld x hx0 hx1 20 5 (by decide) (by decide) 1048576 32 (by decide) (by decide) a3 h3 w
  have c4 : ∀ w, Calls Try.prog 72 #[.int .i64 x, .int .i64 20, .int .i64 12] w fun e w' => e = .returned (.int .i64 a4) ∧ w' = w := fun w => fld x hx0 hx1 20 12 (by decide) (by decide) 1048576 4096 (by decide) (by decide) a4 h4 w
  have c5 : ∀ w, Calls Try.prog 72 #[.int .i64 x, .int .i64 25, .int .i64 7] w fun e w' => e = .returned (.int .i64 a5) ∧ w' = w := fun w => fld x hx0 hx1 25 7 (by decide) (by decide) 33554432 128 (by decide) (by decide) a5 h5 w
  have c6 : ∀ w, Calls Try.prog 72 #[.int .i64 x, .int .i64 8, .int .i64 4] w fun e w' => e = .returned (.int .i64 a6) ∧ w' = w := fun w => fld x hx0 hx1 8 4 (by decide) (by decide) 256 16 (by decide) (by decide) a6 h6 w
  have c7 : ∀ w, Calls Try.prog 72 #[.int .i64 x, .int .i64 25, .int .i64 6] w fun e w' => e = .returned (.int .i64 a7) ∧ w' = w := fun w => fld x hx0 hx1 25 6 (by decide) (by decide) 33554432 64 (by decide) (by decide) a7 h7 w
  have c8 : ∀ w, Calls Try.prog 72 #[.int .i64 x, .int .i64 7, .int .i64 1] w fun e w' => e = .returned (.int .i64 a8) ∧ w' = w := fun w => fld x hx0 hx1 7 1 (by decide) (by decide) 128 2 (by decide) (by decide) a8 h8 w
  have c9 : ∀ w, Calls Try.prog 72 #[.int .i64 x, .int .i64 31, .int .i64 1] w fun e w' => e = .returned (.int .i64 a9) ∧ w' = w := fun w => fld x hx0 hx1 31 1 (by decide) (by decide) 2147483648 2 (by decide) (by decide) a9 h9 w
  have d1 : ∀ w, Calls Try.prog 72 #[.int .i64 x, .int .i64 21, .int .i64 10] w fun e w' => e = .returned (.int .i64 b1) ∧ w' = w := fun w => fld x hx0 hx1 21 10 (by decide) (by decide) 2097152 1024 (by decide) (by decide) b1 h10 w
  have d2 : ∀ w, Calls Try.prog 72 #[.int .i64 x, .int .i64 20, .int .i64 1] w fun e w' => e = .returned (.int .i64 b2) ∧ w' = w := fun w => fld x hx0 hx1 20 1 (by decide) (by decide) 1048576 2 (by decide) (by decide) b2 h11 w
  have d3 : ∀ w, Calls Try.prog 72 #[.int .i64 x, .int .i64 12, .int .i64 8] w fun e w' => e = .returned (.int .i64 b3) ∧ w' = w := fun w => fld x hx0 hx1 12 8 (by decide) (by decide) 4096 256 (by decide) (by decide) b3 h12 w
  have d4 : ∀ w, Calls Try.prog 72 #[.int .i64 x, .int .i64 12, .int .i64 20] w fun e w' => e = .returned (.int .i64 b4) ∧ w' = w := fun w => fld x hx0 hx1 12 20 (by decide) (by decide) 4096 1048576 (by decide) (by decide) b4 h13 w
  have g1 : 0 ≤ a1 ∧ a1 ≤ 31 := by omega
  have g2 : 0 ≤ a2 ∧ a2 ≤ 31 := by omega
  have g3 : 0 ≤ a3 ∧ a3 ≤ 31 := by omega
  have g4 : 0 ≤ a4 ∧ a4 ≤ 4095 := by omega
  have g5 : 0 ≤ a5 ∧ a5 ≤ 127 := by omega
  have g6 : 0 ≤ a6 ∧ a6 ≤ 15 := by omega
  have g7 : 0 ≤ a7 ∧ a7 ≤ 63 := by omega
  have g8 : 0 ≤ a8 ∧ a8 ≤ 1 := by omega
  have g9 : 0 ≤ a9 ∧ a9 ≤ 1 := by omega
  have g10 : 0 ≤ b1 ∧ b1 ≤ 1023 := by omega
  have g11 : 0 ≤ b2 ∧ b2 ≤ 1 := by omega
  have g12 : 0 ≤ b3 ∧ b3 ≤ 255 := by omega
  have g13 : 0 ≤ b4 ∧ b4 ≤ 1048575 := by omega
  have HA := Lib.hid (show x / 128 % 32 = a1 ∧ x / 32768 % 32 = a2 ∧ x / 1048576 % 32 = a3 ∧ x / 1048576 % 4096 = a4 ∧ x / 33554432 % 128 = a5 ∧ x / 256 % 16 = a6 ∧ x / 33554432 % 64 = a7 ∧ x / 128 % 2 = a8 ∧ x / 2147483648 % 2 = a9 ∧ x / 2097152 % 1024 = b1 ∧ x / 1048576 % 2 = b2 ∧ x / 4096 % 256 = b3 ∧ x / 4096 % 1048576 = b4 from ⟨h1, h2, h3, h4, h5, h6, h7, h8, h9, h10, h11, h12, h13⟩)
  clear h1 h2 h3 h4 h5 h6 h7 h8 h9 h10 h11 h12 h13
  obtain ⟨T, hT⟩ : ∃ y, (if a4 ≤ 2047 then a4 else a4 - 4096) = y := ⟨_, rfl⟩
  obtain ⟨S, hS⟩ : ∃ y, (if a1 + 32 * a5 ≤ 2047 then a1 + 32 * a5 else a1 + 32 * a5 - 4096) = y := ⟨_, rfl⟩
  have HT := Lib.hid hT
  have HS := Lib.hid hS
  clear hT hS
  have v1 := IntWalk.i64_in (32 * a5) (by omega)
  have v2 := IntWalk.i64_in (a1 + 32 * a5) (by omega)
  have v3 := IntWalk.i64_in (2 * a6) (by omega)
  have v4 := IntWalk.i64_in (32 * a7) (by omega)
  have v5 := IntWalk.i64_in (2 * a6 + 32 * a7) (by omega)
  have v6 := IntWalk.i64_in (2048 * a8) (by omega)
  have v7 := IntWalk.i64_in (2 * a6 + 32 * a7 + 2048 * a8) (by omega)
  have v8 := IntWalk.i64_in (4096 * a9) (by omega)
  have v9 := IntWalk.i64_in (2 * a6 + 32 * a7 + 2048 * a8 - 4096 * a9) (by omega)
  have u1 := IntWalk.i64_in (2 * b1) (by omega)
  have u2 := IntWalk.i64_in (2048 * b2) (by omega)
  have u3 := IntWalk.i64_in (2 * b1 + 2048 * b2) (by omega)
  have u4 := IntWalk.i64_in (4096 * b3) (by omega)
  have u5 := IntWalk.i64_in (2 * b1 + 2048 * b2 + 4096 * b3) (by omega)
  have u6 := IntWalk.i64_in (1048576 * a9) (by omega)
  have u7 := IntWalk.i64_in (2 * b1 + 2048 * b2 + 4096 * b3 - 1048576 * a9) (by omega)
  go_enter Try.func47, Try.ntmps47
  go_upto_if 28 with (go_at_call 72; (first
    | ((with_reducible refine (c1 _).mono ?_); rintro e w' ⟨rfl, rfl⟩)
    | ((with_reducible refine (c2 _).mono ?_); rintro e w' ⟨rfl, rfl⟩)
    | ((with_reducible refine (c3 _).mono ?_); rintro e w' ⟨rfl, rfl⟩)
    | ((with_reducible refine (c4 _).mono ?_); rintro e w' ⟨rfl, rfl⟩)))
  go_cut [8] from 27 (fun s8 wx => s8 = .int .i64 T ∧ Rd w wx)
  case first =>
    by_cases ht : 2048 ≤ a4
    · have hv : a4 - 4096 = T := by have := HT.out; rw [if_neg (by omega)] at this; exact this
      have HV := Lib.hid hv
      clear hv
      go_wp2
      go_meet
      exact ⟨congrArg _ HV.out, rd0 w⟩
    · have hv : a4 = T := by have := HT.out; rw [if_pos (by omega)] at this; exact this
      have HV := Lib.hid hv
      clear hv
      go_wp2
      go_meet
      exact ⟨congrArg _ HV.out, rd0 w⟩
  case rest =>
  obtain ⟨rfl, hR⟩ := hcut
  go_upto_if 38 with (go_at_call 72; (first
    | ((with_reducible refine (c1 _).mono ?_); rintro e w' ⟨rfl, rfl⟩)
    | ((with_reducible refine (c5 _).mono ?_); rintro e w' ⟨rfl, rfl⟩)))
  go_cut [9] from 27 (fun s9 wx => s9 = .int .i64 S ∧ Rd w wx)
  case first =>
    by_cases ht : 2048 ≤ a1 + 32 * a5
    · have hv : a1 + 32 * a5 - 4096 = S := by have := HS.out; rw [if_neg (by omega)] at this; exact this
      have HV := Lib.hid hv
      clear hv
      go_wp2
      go_meet
      exact ⟨congrArg _ HV.out, hR⟩
    · have hv : a1 + 32 * a5 = S := by have := HS.out; rw [if_pos (by omega)] at this; exact this
      have HV := Lib.hid hv
      clear hv
      go_wp2
      go_meet
      exact ⟨congrArg _ HV.out, hR⟩
  case rest =>
  clear hR
  obtain ⟨rfl, hR⟩ := hcut
  go_wp2_with (go_at_call 72; (first
    | ((with_reducible refine (c6 _).mono ?_); rintro e w' ⟨rfl, rfl⟩)
    | ((with_reducible refine (c7 _).mono ?_); rintro e w' ⟨rfl, rfl⟩)
    | ((with_reducible refine (c8 _).mono ?_); rintro e w' ⟨rfl, rfl⟩)
    | ((with_reducible refine (c9 _).mono ?_); rintro e w' ⟨rfl, rfl⟩)
    | ((with_reducible refine (d1 _).mono ?_); rintro e w' ⟨rfl, rfl⟩)
    | ((with_reducible refine (d2 _).mono ?_); rintro e w' ⟨rfl, rfl⟩)
    | ((with_reducible refine (d3 _).mono ?_); rintro e w' ⟨rfl, rfl⟩)))
  clear v1 v2 v3 v4 v5 v6 v7 v8 v9 u1 u2 u3 u4 u5 u6 u7
  have HB := Lib.hid (show 2 * (x / 256 % 16) + 32 * (x / 33554432 % 64) + 2048 * (x / 128 % 2) - 4096 * (x / 2147483648 % 2) = 2 * a6 + 32 * a7 + 2048 * a8 - 4096 * a9 by obtain ⟨-, -, -, -, -, h6, h7, h8, h9, -⟩ := HA.out; rw [h6, h7, h8, h9])
  have HJ := Lib.hid (show 2 * (x / 2097152 % 1024) + 2048 * (x / 1048576 % 2) + 4096 * (x / 4096 % 256) - 1048576 * (x / 2147483648 % 2) = 2 * b1 + 2048 * b2 + 4096 * b3 - 1048576 * a9 by obtain ⟨-, -, -, -, -, -, -, -, h9, h10, h11, h12, -⟩ := HA.out; rw [h9, h10, h11, h12])
  have HTx := Lib.hid (show (if x / 1048576 % 4096 ≤ 2047 then x / 1048576 % 4096 else x / 1048576 % 4096 - 4096) = T by obtain ⟨-, -, -, h4, -⟩ := HA.out; rw [h4]; exact HT.out)
  have HSx := Lib.hid (show (if x / 128 % 32 + 32 * (x / 33554432 % 128) ≤ 2047 then x / 128 % 32 + 32 * (x / 33554432 % 128) else x / 128 % 32 + 32 * (x / 33554432 % 128) - 4096) = S by obtain ⟨h1, -, -, -, h5, -⟩ := HA.out; rw [h1, h5]; exact HS.out)
  have gT : -2048 ≤ T ∧ T ≤ 2047 := by have := HT.out; split at this <;> omega
  have gS : -2048 ≤ S ∧ S ≤ 2047 := by have := HS.out; split at this <;> omega
  have gB : -4096 ≤ 2 * a6 + 32 * a7 + 2048 * a8 - 4096 * a9 ∧ 2 * a6 + 32 * a7 + 2048 * a8 - 4096 * a9 ≤ 4094 := by omega
  have gJ : -1048576 ≤ 2 * b1 + 2048 * b2 + 4096 * b3 - 1048576 * a9 ∧ 2 * b1 + 2048 * b2 + 4096 * b3 - 1048576 * a9 ≤ 1048574 := by omega
  generalize 2 * a6 + 32 * a7 + 2048 * a8 - 4096 * a9 = B at *
  generalize 2 * b1 + 2048 * b2 + 4096 * b3 - 1048576 * a9 = J at *
  obtain ⟨A1, A2, A3, -, -, -, -, -, -, -, -, -, A4⟩ := HA.out
  have HC := Lib.hid (And.intro A1 (And.intro A2 (And.intro A3 A4)))
  clear HA HT HS A1 A2 A3 A4 c1 c2 c3 c4 c5 c6 c7 c8 c9 d1 d2 d3 g4 g5 g6 g7 g8 g9 g10 g11 g12
  go_loopw [12] (fun p wr => ∃ j : Nat, j ≤ 55 ∧ p = .int .i64 ((j : Int) + 1) ∧ Hid (∀ i : Int, 1 ≤ i → i ≤ j → CM.hit i x = false) ∧ Rd w wr) (fun p _ => (56 - intOf p).toNat)
  case atStart => exact ⟨0, by omega, by simp, Lib.hid (fun i h1 h2 => by omega), hR⟩
  case round =>
    clear hR
    obtain ⟨j, hj, rfl, hh, g⟩ := hrel
    by_cases hlt : j < 55
    · have hop : CM.isOp ((j : Int) + 1) = true := by simp [CM.isOp]; omega
      have hft := CM.ft_row hop
      have cO := fun w => CO.of_ ((j : Int) + 1) w
      have hgood := CM.cand_good hft hx0 hx1
      have hfault := CM.fault_good hgood
      have e0 : encE ((j : Int) + 1) (CM.rdOf (CM.kd ((j : Int) + 1)) x) (CM.rs1Of (CM.kd ((j : Int) + 1)) x) (CM.rs2Of (CM.kd ((j : Int) + 1)) x) (CM.immOf (CM.kd ((j : Int) + 1)) x) = 0 := by rw [encE, hop]; exact hfault
      have w0 : encW ((j : Int) + 1) (CM.rdOf (CM.kd ((j : Int) + 1)) x) (CM.rs1Of (CM.kd ((j : Int) + 1)) x) (CM.rs2Of (CM.kd ((j : Int) + 1)) x) (CM.immOf (CM.kd ((j : Int) + 1)) x) = CM.again ((j : Int) + 1) x := by rw [encW, hop, hfault]; rfl
      have hres := Lib.hid (show CM.hit ((j : Int) + 1) x = true → dOp x = (j : Int) + 1 ∧ dRd x = CM.rdOf (CM.kd ((j : Int) + 1)) x ∧ dRs1 x = CM.rs1Of (CM.kd ((j : Int) + 1)) x ∧ dRs2 x = CM.rs2Of (CM.kd ((j : Int) + 1)) x ∧ dImm x = CM.immOf (CM.kd ((j : Int) + 1)) x ∧ (!(CM.dec x == 0)) = true from fun h => by
        have hd := CM.dec_hit h hx0 hx1
        have hz : ¬ (j : Int) + 1 = 0 := by omega
        simp [dOp, dRd, dRs1, dRs2, dImm, hd, hz])
      have hag : Hid (CM.again ((j : Int) + 1) x = x ↔ CM.hit ((j : Int) + 1) x = true) := Lib.hid ⟨fun h => by simp [CM.hit, hop, h], fun h => (CM.hit_op h).2⟩
      have hnext := Lib.hid (show CM.hit ((j : Int) + 1) x = false → ∀ i : Int, 1 ≤ i → i ≤ ((j + 1 : Nat) : Int) → CM.hit i x = false from fun h i h1 h2 => by
        by_cases e : i = (j : Int) + 1
        · rw [e]; exact h
        · exact hh.out i h1 (by omega))
      unfold rowV at cO
      rw [if_pos hop] at cO
      have hk := CM.kinds hft
      have cE := fun (r1 : (Lit.int .i64 (CM.rdOf (CM.kd ((j : Int) + 1)) x)).wf = true) (r2 : (Lit.int .i64 (CM.rs1Of (CM.kd ((j : Int) + 1)) x)).wf = true) (r3 : (Lit.int .i64 (CM.rs2Of (CM.kd ((j : Int) + 1)) x)).wf = true) (r4 : (Lit.int .i64 (CM.immOf (CM.kd ((j : Int) + 1)) x)).wf = true) w => CJ.encode_ ((j : Int) + 1) (CM.rdOf (CM.kd ((j : Int) + 1)) x) (CM.rs1Of (CM.kd ((j : Int) + 1)) x) (CM.rs2Of (CM.kd ((j : Int) + 1)) x) (CM.immOf (CM.kd ((j : Int) + 1)) x) r1 r2 r3 r4 w
      rw [e0, w0] at cE
      clear e0 w0 hfault hgood hft hop hh
      generalize CM.again ((j : Int) + 1) x = A at *
      generalize CM.kd ((j : Int) + 1) = k at *
      generalize CM.o7 ((j : Int) + 1) = o at *
      generalize CM.f3 ((j : Int) + 1) = a at *
      generalize CM.f7 ((j : Int) + 1) = c at *
      rcases hk with h | h | h | h | h | h | h | h | h | h | h <;> subst h
      · obtain ⟨A1, A2, A3, A4⟩ := HC.out
        rw [show CM.rdOf 0 x = a1 from A1, show CM.rs1Of 0 x = a2 from A2, show CM.rs2Of 0 x = a3 from A3, show CM.immOf 0 x = 0 from rfl] at cE hres
        have cF := cE (by go_wf) (by go_wf) (by go_wf) (by go_wf)
        simp only [show rk 0 = 82 from rfl, show CO.r2 0 = -1 from rfl] at cO
        clear cE A1 A2 A3 A4
        by_cases hA : A = x
        · have hV := Lib.hid (hres.out (hag.out.1 hA))
          have hA' : (A == x) = true := by simp [hA]
          clear hA hres hag hnext
          go_wp2_with (first
            | (go_at_call 71; (with_reducible refine (cO _).mono ?_); rintro e w4 ⟨rfl, hb4⟩; have hi4 := row1 hb4; obtain ⟨p0, p1, p2, p3, p4⟩ := CP.cells5 hi4.1; obtain ⟨z0, z1, z2, z3, z4⟩ := free5 hi4.1; have hl4 := lt_of_get hi4.1; have HI4 := Lib.hid hi4; clear hi4)
            | (go_at_call 72; (with_reducible refine (d4 _).mono ?_); rintro e w' ⟨rfl, rfl⟩)
            | (go_at_call 52; (with_reducible refine (cF _).mono ?_); rintro e w5 ⟨rfl, hb5⟩; have q0 := hb5.cell (p := ⟨wr.heap.size, 0, none⟩) (by (simp; omega)); have q1 := hb5.cell (p := ⟨wr.heap.size, 1, none⟩) (by (simp; omega)); have q2 := hb5.cell (p := ⟨wr.heap.size, 2, none⟩) (by (simp; omega)); have q3 := hb5.cell (p := ⟨wr.heap.size, 3, none⟩) (by (simp; omega)); have q4 := hb5.cell (p := ⟨wr.heap.size, 4, none⟩) (by (simp; omega)); have hw := HI4.out.2; have HG := Lib.hid (p := Rd w w5) (g.trans (tr (al (((hw.setCell (Nat.le_refl _) _).setCell (Nat.le_refl _) _).setCell (Nat.le_refl _) _) _) hb5)); obtain ⟨m0, m1, m2, m3, m4⟩ := CP.cells5 HG.out.hr; obtain ⟨n0, n1, n2, n3, n4⟩ := free5 HG.out.hr; have l5 := lt_of_get HG.out.hr))
          obtain ⟨e1, e2, e3, e4, e5, e6⟩ := hV.out
          exact bodyPost_ret (v := .tuple #[.agg #[.int .i64 ((j : Int) + 1), .int .i64 a1, .int .i64 a2, .int .i64 a3, .int .i64 0], .bool true]) (by simp [results, Try.results47, m0, m1, m2, m3, m4, l5, go_sem]) rfl ⟨by rw [e1, e2, e3, e4, e5, e6]; rfl, sets5 HG.out.below⟩
        · have hN : Hid (CM.hit ((j : Int) + 1) x = false) := Lib.hid (by
            cases hh : CM.hit ((j : Int) + 1) x with
            | true => exact absurd (hag.out.2 hh) hA
            | false => rfl)
          have hA' : (A == x) = false := by simp [hA]
          clear hA hres hag
          go_wp2_with (first
            | (go_at_call 71; (with_reducible refine (cO _).mono ?_); rintro e w4 ⟨rfl, hb4⟩; have hi4 := row1 hb4; obtain ⟨p0, p1, p2, p3, p4⟩ := CP.cells5 hi4.1; obtain ⟨z0, z1, z2, z3, z4⟩ := free5 hi4.1; have hl4 := lt_of_get hi4.1; have HI4 := Lib.hid hi4; clear hi4)
            | (go_at_call 72; (with_reducible refine (d4 _).mono ?_); rintro e w' ⟨rfl, rfl⟩)
            | (go_at_call 52; (with_reducible refine (cF _).mono ?_); rintro e w5 ⟨rfl, hb5⟩; have q0 := hb5.cell (p := ⟨wr.heap.size, 0, none⟩) (by (simp; omega)); have q1 := hb5.cell (p := ⟨wr.heap.size, 1, none⟩) (by (simp; omega)); have q2 := hb5.cell (p := ⟨wr.heap.size, 2, none⟩) (by (simp; omega)); have q3 := hb5.cell (p := ⟨wr.heap.size, 3, none⟩) (by (simp; omega)); have q4 := hb5.cell (p := ⟨wr.heap.size, 4, none⟩) (by (simp; omega)); have hw := HI4.out.2; have HG := Lib.hid (p := Rd w w5) (g.trans (tr (al (((hw.setCell (Nat.le_refl _) _).setCell (Nat.le_refl _) _).setCell (Nat.le_refl _) _) _) hb5)); obtain ⟨m0, m1, m2, m3, m4⟩ := CP.cells5 HG.out.hr; obtain ⟨n0, n1, n2, n3, n4⟩ := free5 HG.out.hr; have l5 := lt_of_get HG.out.hr))
          go_roundw
          case rel => exact ⟨j + 1, by omega, by go_num, Lib.hid (hnext.out hN.out), HG.out⟩
          case measure => simp [intOf]; omega
      · obtain ⟨A1, A2, A3, A4⟩ := HC.out
        rw [show CM.rdOf 1 x = a1 from A1, show CM.rs1Of 1 x = a2 from A2, show CM.rs2Of 1 x = 0 from rfl, show CM.immOf 1 x = T from HTx.out] at cE hres
        have cF := cE (by go_wf) (by go_wf) (by go_wf) (by go_wf)
        simp only [show rk 1 = 73 from rfl, show CO.r2 1 = -1 from rfl] at cO
        clear cE A1 A2 A3 A4
        by_cases hA : A = x
        · have hV := Lib.hid (hres.out (hag.out.1 hA))
          have hA' : (A == x) = true := by simp [hA]
          clear hA hres hag hnext
          go_wp2_with (first
            | (go_at_call 71; (with_reducible refine (cO _).mono ?_); rintro e w4 ⟨rfl, hb4⟩; have hi4 := row1 hb4; obtain ⟨p0, p1, p2, p3, p4⟩ := CP.cells5 hi4.1; obtain ⟨z0, z1, z2, z3, z4⟩ := free5 hi4.1; have hl4 := lt_of_get hi4.1; have HI4 := Lib.hid hi4; clear hi4)
            | (go_at_call 72; (with_reducible refine (d4 _).mono ?_); rintro e w' ⟨rfl, rfl⟩)
            | (go_at_call 52; (with_reducible refine (cF _).mono ?_); rintro e w5 ⟨rfl, hb5⟩; have q0 := hb5.cell (p := ⟨wr.heap.size, 0, none⟩) (by (simp; omega)); have q1 := hb5.cell (p := ⟨wr.heap.size, 1, none⟩) (by (simp; omega)); have q2 := hb5.cell (p := ⟨wr.heap.size, 2, none⟩) (by (simp; omega)); have q3 := hb5.cell (p := ⟨wr.heap.size, 3, none⟩) (by (simp; omega)); have q4 := hb5.cell (p := ⟨wr.heap.size, 4, none⟩) (by (simp; omega)); have hw := HI4.out.2; have HG := Lib.hid (p := Rd w w5) (g.trans (tr (al (((((hw.setCell (Nat.le_refl _) _).setCell (Nat.le_refl _) _).setCell (Nat.le_refl _) _).setCell (Nat.le_refl _) _).setCell (Nat.le_refl _) _) _) hb5)); obtain ⟨m0, m1, m2, m3, m4⟩ := CP.cells5 HG.out.hr; obtain ⟨n0, n1, n2, n3, n4⟩ := free5 HG.out.hr; have l5 := lt_of_get HG.out.hr))
          obtain ⟨e1, e2, e3, e4, e5, e6⟩ := hV.out
          exact bodyPost_ret (v := .tuple #[.agg #[.int .i64 ((j : Int) + 1), .int .i64 a1, .int .i64 a2, .int .i64 0, .int .i64 T], .bool true]) (by simp [results, Try.results47, m0, m1, m2, m3, m4, l5, go_sem]) rfl ⟨by rw [e1, e2, e3, e4, e5, e6]; rfl, sets5 HG.out.below⟩
        · have hN : Hid (CM.hit ((j : Int) + 1) x = false) := Lib.hid (by
            cases hh : CM.hit ((j : Int) + 1) x with
            | true => exact absurd (hag.out.2 hh) hA
            | false => rfl)
          have hA' : (A == x) = false := by simp [hA]
          clear hA hres hag
          go_wp2_with (first
            | (go_at_call 71; (with_reducible refine (cO _).mono ?_); rintro e w4 ⟨rfl, hb4⟩; have hi4 := row1 hb4; obtain ⟨p0, p1, p2, p3, p4⟩ := CP.cells5 hi4.1; obtain ⟨z0, z1, z2, z3, z4⟩ := free5 hi4.1; have hl4 := lt_of_get hi4.1; have HI4 := Lib.hid hi4; clear hi4)
            | (go_at_call 72; (with_reducible refine (d4 _).mono ?_); rintro e w' ⟨rfl, rfl⟩)
            | (go_at_call 52; (with_reducible refine (cF _).mono ?_); rintro e w5 ⟨rfl, hb5⟩; have q0 := hb5.cell (p := ⟨wr.heap.size, 0, none⟩) (by (simp; omega)); have q1 := hb5.cell (p := ⟨wr.heap.size, 1, none⟩) (by (simp; omega)); have q2 := hb5.cell (p := ⟨wr.heap.size, 2, none⟩) (by (simp; omega)); have q3 := hb5.cell (p := ⟨wr.heap.size, 3, none⟩) (by (simp; omega)); have q4 := hb5.cell (p := ⟨wr.heap.size, 4, none⟩) (by (simp; omega)); have hw := HI4.out.2; have HG := Lib.hid (p := Rd w w5) (g.trans (tr (al (((((hw.setCell (Nat.le_refl _) _).setCell (Nat.le_refl _) _).setCell (Nat.le_refl _) _).setCell (Nat.le_refl _) _).setCell (Nat.le_refl _) _) _) hb5)); obtain ⟨m0, m1, m2, m3, m4⟩ := CP.cells5 HG.out.hr; obtain ⟨n0, n1, n2, n3, n4⟩ := free5 HG.out.hr; have l5 := lt_of_get HG.out.hr))
          go_roundw
          case rel => exact ⟨j + 1, by omega, by go_num, Lib.hid (hnext.out hN.out), HG.out⟩
          case measure => simp [intOf]; omega
      · obtain ⟨A1, A2, A3, A4⟩ := HC.out
        rw [show CM.rdOf 2 x = a1 from A1, show CM.rs1Of 2 x = a2 from A2, show CM.rs2Of 2 x = 0 from rfl, show CM.immOf 2 x = a3 from A3] at cE hres
        have cF := cE (by go_wf) (by go_wf) (by go_wf) (by go_wf)
        simp only [show rk 2 = 72 from rfl, show CO.r2 2 = -1 from rfl] at cO
        clear cE A1 A2 A3 A4
        by_cases hA : A = x
        · have hV := Lib.hid (hres.out (hag.out.1 hA))
          have hA' : (A == x) = true := by simp [hA]
          clear hA hres hag hnext
          go_wp2_with (first
            | (go_at_call 71; (with_reducible refine (cO _).mono ?_); rintro e w4 ⟨rfl, hb4⟩; have hi4 := row1 hb4; obtain ⟨p0, p1, p2, p3, p4⟩ := CP.cells5 hi4.1; obtain ⟨z0, z1, z2, z3, z4⟩ := free5 hi4.1; have hl4 := lt_of_get hi4.1; have HI4 := Lib.hid hi4; clear hi4)
            | (go_at_call 72; (with_reducible refine (d4 _).mono ?_); rintro e w' ⟨rfl, rfl⟩)
            | (go_at_call 52; (with_reducible refine (cF _).mono ?_); rintro e w5 ⟨rfl, hb5⟩; have q0 := hb5.cell (p := ⟨wr.heap.size, 0, none⟩) (by (simp; omega)); have q1 := hb5.cell (p := ⟨wr.heap.size, 1, none⟩) (by (simp; omega)); have q2 := hb5.cell (p := ⟨wr.heap.size, 2, none⟩) (by (simp; omega)); have q3 := hb5.cell (p := ⟨wr.heap.size, 3, none⟩) (by (simp; omega)); have q4 := hb5.cell (p := ⟨wr.heap.size, 4, none⟩) (by (simp; omega)); have hw := HI4.out.2; have HG := Lib.hid (p := Rd w w5) (g.trans (tr (al (((((hw.setCell (Nat.le_refl _) _).setCell (Nat.le_refl _) _).setCell (Nat.le_refl _) _).setCell (Nat.le_refl _) _).setCell (Nat.le_refl _) _) _) hb5)); obtain ⟨m0, m1, m2, m3, m4⟩ := CP.cells5 HG.out.hr; obtain ⟨n0, n1, n2, n3, n4⟩ := free5 HG.out.hr; have l5 := lt_of_get HG.out.hr))
          obtain ⟨e1, e2, e3, e4, e5, e6⟩ := hV.out
          exact bodyPost_ret (v := .tuple #[.agg #[.int .i64 ((j : Int) + 1), .int .i64 a1, .int .i64 a2, .int .i64 0, .int .i64 a3], .bool true]) (by simp [results, Try.results47, m0, m1, m2, m3, m4, l5, go_sem]) rfl ⟨by rw [e1, e2, e3, e4, e5, e6]; rfl, sets5 HG.out.below⟩
        · have hN : Hid (CM.hit ((j : Int) + 1) x = false) := Lib.hid (by
            cases hh : CM.hit ((j : Int) + 1) x with
            | true => exact absurd (hag.out.2 hh) hA
            | false => rfl)
          have hA' : (A == x) = false := by simp [hA]
          clear hA hres hag
          go_wp2_with (first
            | (go_at_call 71; (with_reducible refine (cO _).mono ?_); rintro e w4 ⟨rfl, hb4⟩; have hi4 := row1 hb4; obtain ⟨p0, p1, p2, p3, p4⟩ := CP.cells5 hi4.1; obtain ⟨z0, z1, z2, z3, z4⟩ := free5 hi4.1; have hl4 := lt_of_get hi4.1; have HI4 := Lib.hid hi4; clear hi4)
            | (go_at_call 72; (with_reducible refine (d4 _).mono ?_); rintro e w' ⟨rfl, rfl⟩)
            | (go_at_call 52; (with_reducible refine (cF _).mono ?_); rintro e w5 ⟨rfl, hb5⟩; have q0 := hb5.cell (p := ⟨wr.heap.size, 0, none⟩) (by (simp; omega)); have q1 := hb5.cell (p := ⟨wr.heap.size, 1, none⟩) (by (simp; omega)); have q2 := hb5.cell (p := ⟨wr.heap.size, 2, none⟩) (by (simp; omega)); have q3 := hb5.cell (p := ⟨wr.heap.size, 3, none⟩) (by (simp; omega)); have q4 := hb5.cell (p := ⟨wr.heap.size, 4, none⟩) (by (simp; omega)); have hw := HI4.out.2; have HG := Lib.hid (p := Rd w w5) (g.trans (tr (al (((((hw.setCell (Nat.le_refl _) _).setCell (Nat.le_refl _) _).setCell (Nat.le_refl _) _).setCell (Nat.le_refl _) _).setCell (Nat.le_refl _) _) _) hb5)); obtain ⟨m0, m1, m2, m3, m4⟩ := CP.cells5 HG.out.hr; obtain ⟨n0, n1, n2, n3, n4⟩ := free5 HG.out.hr; have l5 := lt_of_get HG.out.hr))
          go_roundw
          case rel => exact ⟨j + 1, by omega, by go_num, Lib.hid (hnext.out hN.out), HG.out⟩
          case measure => simp [intOf]; omega
      · obtain ⟨A1, A2, A3, A4⟩ := HC.out
        rw [show CM.rdOf 3 x = 0 from rfl, show CM.rs1Of 3 x = a2 from A2, show CM.rs2Of 3 x = a3 from A3, show CM.immOf 3 x = S from HSx.out] at cE hres
        have cF := cE (by go_wf) (by go_wf) (by go_wf) (by go_wf)
        simp only [show rk 3 = 83 from rfl, show CO.r2 3 = -1 from rfl] at cO
        clear cE A1 A2 A3 A4
        by_cases hA : A = x
        · have hV := Lib.hid (hres.out (hag.out.1 hA))
          have hA' : (A == x) = true := by simp [hA]
          clear hA hres hag hnext
          go_wp2_with (first
            | (go_at_call 71; (with_reducible refine (cO _).mono ?_); rintro e w4 ⟨rfl, hb4⟩; have hi4 := row1 hb4; obtain ⟨p0, p1, p2, p3, p4⟩ := CP.cells5 hi4.1; obtain ⟨z0, z1, z2, z3, z4⟩ := free5 hi4.1; have hl4 := lt_of_get hi4.1; have HI4 := Lib.hid hi4; clear hi4)
            | (go_at_call 72; (with_reducible refine (d4 _).mono ?_); rintro e w' ⟨rfl, rfl⟩)
            | (go_at_call 52; (with_reducible refine (cF _).mono ?_); rintro e w5 ⟨rfl, hb5⟩; have q0 := hb5.cell (p := ⟨wr.heap.size, 0, none⟩) (by (simp; omega)); have q1 := hb5.cell (p := ⟨wr.heap.size, 1, none⟩) (by (simp; omega)); have q2 := hb5.cell (p := ⟨wr.heap.size, 2, none⟩) (by (simp; omega)); have q3 := hb5.cell (p := ⟨wr.heap.size, 3, none⟩) (by (simp; omega)); have q4 := hb5.cell (p := ⟨wr.heap.size, 4, none⟩) (by (simp; omega)); have hw := HI4.out.2; have HG := Lib.hid (p := Rd w w5) (g.trans (tr (al (((((hw.setCell (Nat.le_refl _) _).setCell (Nat.le_refl _) _).setCell (Nat.le_refl _) _).setCell (Nat.le_refl _) _).setCell (Nat.le_refl _) _) _) hb5)); obtain ⟨m0, m1, m2, m3, m4⟩ := CP.cells5 HG.out.hr; obtain ⟨n0, n1, n2, n3, n4⟩ := free5 HG.out.hr; have l5 := lt_of_get HG.out.hr))
          obtain ⟨e1, e2, e3, e4, e5, e6⟩ := hV.out
          exact bodyPost_ret (v := .tuple #[.agg #[.int .i64 ((j : Int) + 1), .int .i64 0, .int .i64 a2, .int .i64 a3, .int .i64 S], .bool true]) (by simp [results, Try.results47, m0, m1, m2, m3, m4, l5, go_sem]) rfl ⟨by rw [e1, e2, e3, e4, e5, e6]; rfl, sets5 HG.out.below⟩
        · have hN : Hid (CM.hit ((j : Int) + 1) x = false) := Lib.hid (by
            cases hh : CM.hit ((j : Int) + 1) x with
            | true => exact absurd (hag.out.2 hh) hA
            | false => rfl)
          have hA' : (A == x) = false := by simp [hA]
          clear hA hres hag
          go_wp2_with (first
            | (go_at_call 71; (with_reducible refine (cO _).mono ?_); rintro e w4 ⟨rfl, hb4⟩; have hi4 := row1 hb4; obtain ⟨p0, p1, p2, p3, p4⟩ := CP.cells5 hi4.1; obtain ⟨z0, z1, z2, z3, z4⟩ := free5 hi4.1; have hl4 := lt_of_get hi4.1; have HI4 := Lib.hid hi4; clear hi4)
            | (go_at_call 72; (with_reducible refine (d4 _).mono ?_); rintro e w' ⟨rfl, rfl⟩)
            | (go_at_call 52; (with_reducible refine (cF _).mono ?_); rintro e w5 ⟨rfl, hb5⟩; have q0 := hb5.cell (p := ⟨wr.heap.size, 0, none⟩) (by (simp; omega)); have q1 := hb5.cell (p := ⟨wr.heap.size, 1, none⟩) (by (simp; omega)); have q2 := hb5.cell (p := ⟨wr.heap.size, 2, none⟩) (by (simp; omega)); have q3 := hb5.cell (p := ⟨wr.heap.size, 3, none⟩) (by (simp; omega)); have q4 := hb5.cell (p := ⟨wr.heap.size, 4, none⟩) (by (simp; omega)); have hw := HI4.out.2; have HG := Lib.hid (p := Rd w w5) (g.trans (tr (al (((((hw.setCell (Nat.le_refl _) _).setCell (Nat.le_refl _) _).setCell (Nat.le_refl _) _).setCell (Nat.le_refl _) _).setCell (Nat.le_refl _) _) _) hb5)); obtain ⟨m0, m1, m2, m3, m4⟩ := CP.cells5 HG.out.hr; obtain ⟨n0, n1, n2, n3, n4⟩ := free5 HG.out.hr; have l5 := lt_of_get HG.out.hr))
          go_roundw
          case rel => exact ⟨j + 1, by omega, by go_num, Lib.hid (hnext.out hN.out), HG.out⟩
          case measure => simp [intOf]; omega
      · obtain ⟨A1, A2, A3, A4⟩ := HC.out
        rw [show CM.rdOf 4 x = 0 from rfl, show CM.rs1Of 4 x = a2 from A2, show CM.rs2Of 4 x = a3 from A3, show CM.immOf 4 x = B from HB.out] at cE hres
        have cF := cE (by go_wf) (by go_wf) (by go_wf) (by go_wf)
        simp only [show rk 4 = 66 from rfl, show CO.r2 4 = -1 from rfl] at cO
        clear cE A1 A2 A3 A4
        by_cases hA : A = x
        · have hV := Lib.hid (hres.out (hag.out.1 hA))
          have hA' : (A == x) = true := by simp [hA]
          clear hA hres hag hnext
          go_wp2_with (first
            | (go_at_call 71; (with_reducible refine (cO _).mono ?_); rintro e w4 ⟨rfl, hb4⟩; have hi4 := row1 hb4; obtain ⟨p0, p1, p2, p3, p4⟩ := CP.cells5 hi4.1; obtain ⟨z0, z1, z2, z3, z4⟩ := free5 hi4.1; have hl4 := lt_of_get hi4.1; have HI4 := Lib.hid hi4; clear hi4)
            | (go_at_call 72; (with_reducible refine (d4 _).mono ?_); rintro e w' ⟨rfl, rfl⟩)
            | (go_at_call 52; (with_reducible refine (cF _).mono ?_); rintro e w5 ⟨rfl, hb5⟩; have q0 := hb5.cell (p := ⟨wr.heap.size, 0, none⟩) (by (simp; omega)); have q1 := hb5.cell (p := ⟨wr.heap.size, 1, none⟩) (by (simp; omega)); have q2 := hb5.cell (p := ⟨wr.heap.size, 2, none⟩) (by (simp; omega)); have q3 := hb5.cell (p := ⟨wr.heap.size, 3, none⟩) (by (simp; omega)); have q4 := hb5.cell (p := ⟨wr.heap.size, 4, none⟩) (by (simp; omega)); have hw := HI4.out.2; have HG := Lib.hid (p := Rd w w5) (g.trans (tr (al (((((hw.setCell (Nat.le_refl _) _).setCell (Nat.le_refl _) _).setCell (Nat.le_refl _) _).setCell (Nat.le_refl _) _).setCell (Nat.le_refl _) _) _) hb5)); obtain ⟨m0, m1, m2, m3, m4⟩ := CP.cells5 HG.out.hr; obtain ⟨n0, n1, n2, n3, n4⟩ := free5 HG.out.hr; have l5 := lt_of_get HG.out.hr))
          obtain ⟨e1, e2, e3, e4, e5, e6⟩ := hV.out
          exact bodyPost_ret (v := .tuple #[.agg #[.int .i64 ((j : Int) + 1), .int .i64 0, .int .i64 a2, .int .i64 a3, .int .i64 B], .bool true]) (by simp [results, Try.results47, m0, m1, m2, m3, m4, l5, go_sem]) rfl ⟨by rw [e1, e2, e3, e4, e5, e6]; rfl, sets5 HG.out.below⟩
        · have hN : Hid (CM.hit ((j : Int) + 1) x = false) := Lib.hid (by
            cases hh : CM.hit ((j : Int) + 1) x with
            | true => exact absurd (hag.out.2 hh) hA
            | false => rfl)
          have hA' : (A == x) = false := by simp [hA]
          clear hA hres hag
          go_wp2_with (first
            | (go_at_call 71; (with_reducible refine (cO _).mono ?_); rintro e w4 ⟨rfl, hb4⟩; have hi4 := row1 hb4; obtain ⟨p0, p1, p2, p3, p4⟩ := CP.cells5 hi4.1; obtain ⟨z0, z1, z2, z3, z4⟩ := free5 hi4.1; have hl4 := lt_of_get hi4.1; have HI4 := Lib.hid hi4; clear hi4)
            | (go_at_call 72; (with_reducible refine (d4 _).mono ?_); rintro e w' ⟨rfl, rfl⟩)
            | (go_at_call 52; (with_reducible refine (cF _).mono ?_); rintro e w5 ⟨rfl, hb5⟩; have q0 := hb5.cell (p := ⟨wr.heap.size, 0, none⟩) (by (simp; omega)); have q1 := hb5.cell (p := ⟨wr.heap.size, 1, none⟩) (by (simp; omega)); have q2 := hb5.cell (p := ⟨wr.heap.size, 2, none⟩) (by (simp; omega)); have q3 := hb5.cell (p := ⟨wr.heap.size, 3, none⟩) (by (simp; omega)); have q4 := hb5.cell (p := ⟨wr.heap.size, 4, none⟩) (by (simp; omega)); have hw := HI4.out.2; have HG := Lib.hid (p := Rd w w5) (g.trans (tr (al (((((hw.setCell (Nat.le_refl _) _).setCell (Nat.le_refl _) _).setCell (Nat.le_refl _) _).setCell (Nat.le_refl _) _).setCell (Nat.le_refl _) _) _) hb5)); obtain ⟨m0, m1, m2, m3, m4⟩ := CP.cells5 HG.out.hr; obtain ⟨n0, n1, n2, n3, n4⟩ := free5 HG.out.hr; have l5 := lt_of_get HG.out.hr))
          go_roundw
          case rel => exact ⟨j + 1, by omega, by go_num, Lib.hid (hnext.out hN.out), HG.out⟩
          case measure => simp [intOf]; omega
      · obtain ⟨A1, A2, A3, A4⟩ := HC.out
        rw [show CM.rdOf 5 x = a1 from A1, show CM.rs1Of 5 x = 0 from rfl, show CM.rs2Of 5 x = 0 from rfl, show CM.immOf 5 x = b4 from A4] at cE hres
        have cF := cE (by go_wf) (by go_wf) (by go_wf) (by go_wf)
        simp only [show rk 5 = 85 from rfl, show CO.r2 5 = -1 from rfl] at cO
        clear cE A1 A2 A3 A4
        by_cases hA : A = x
        · have hV := Lib.hid (hres.out (hag.out.1 hA))
          have hA' : (A == x) = true := by simp [hA]
          clear hA hres hag hnext
          go_wp2_with (first
            | (go_at_call 71; (with_reducible refine (cO _).mono ?_); rintro e w4 ⟨rfl, hb4⟩; have hi4 := row1 hb4; obtain ⟨p0, p1, p2, p3, p4⟩ := CP.cells5 hi4.1; obtain ⟨z0, z1, z2, z3, z4⟩ := free5 hi4.1; have hl4 := lt_of_get hi4.1; have HI4 := Lib.hid hi4; clear hi4)
            | (go_at_call 72; (with_reducible refine (d4 _).mono ?_); rintro e w' ⟨rfl, rfl⟩)
            | (go_at_call 52; (with_reducible refine (cF _).mono ?_); rintro e w5 ⟨rfl, hb5⟩; have q0 := hb5.cell (p := ⟨wr.heap.size, 0, none⟩) (by (simp; omega)); have q1 := hb5.cell (p := ⟨wr.heap.size, 1, none⟩) (by (simp; omega)); have q2 := hb5.cell (p := ⟨wr.heap.size, 2, none⟩) (by (simp; omega)); have q3 := hb5.cell (p := ⟨wr.heap.size, 3, none⟩) (by (simp; omega)); have q4 := hb5.cell (p := ⟨wr.heap.size, 4, none⟩) (by (simp; omega)); have hw := HI4.out.2; have HG := Lib.hid (p := Rd w w5) (g.trans (tr (al (((((hw.setCell (Nat.le_refl _) _).setCell (Nat.le_refl _) _).setCell (Nat.le_refl _) _).setCell (Nat.le_refl _) _).setCell (Nat.le_refl _) _) _) hb5)); obtain ⟨m0, m1, m2, m3, m4⟩ := CP.cells5 HG.out.hr; obtain ⟨n0, n1, n2, n3, n4⟩ := free5 HG.out.hr; have l5 := lt_of_get HG.out.hr))
          obtain ⟨e1, e2, e3, e4, e5, e6⟩ := hV.out
          exact bodyPost_ret (v := .tuple #[.agg #[.int .i64 ((j : Int) + 1), .int .i64 a1, .int .i64 0, .int .i64 0, .int .i64 b4], .bool true]) (by simp [results, Try.results47, m0, m1, m2, m3, m4, l5, go_sem]) rfl ⟨by rw [e1, e2, e3, e4, e5, e6]; rfl, sets5 HG.out.below⟩
        · have hN : Hid (CM.hit ((j : Int) + 1) x = false) := Lib.hid (by
            cases hh : CM.hit ((j : Int) + 1) x with
            | true => exact absurd (hag.out.2 hh) hA
            | false => rfl)
          have hA' : (A == x) = false := by simp [hA]
          clear hA hres hag
          go_wp2_with (first
            | (go_at_call 71; (with_reducible refine (cO _).mono ?_); rintro e w4 ⟨rfl, hb4⟩; have hi4 := row1 hb4; obtain ⟨p0, p1, p2, p3, p4⟩ := CP.cells5 hi4.1; obtain ⟨z0, z1, z2, z3, z4⟩ := free5 hi4.1; have hl4 := lt_of_get hi4.1; have HI4 := Lib.hid hi4; clear hi4)
            | (go_at_call 72; (with_reducible refine (d4 _).mono ?_); rintro e w' ⟨rfl, rfl⟩)
            | (go_at_call 52; (with_reducible refine (cF _).mono ?_); rintro e w5 ⟨rfl, hb5⟩; have q0 := hb5.cell (p := ⟨wr.heap.size, 0, none⟩) (by (simp; omega)); have q1 := hb5.cell (p := ⟨wr.heap.size, 1, none⟩) (by (simp; omega)); have q2 := hb5.cell (p := ⟨wr.heap.size, 2, none⟩) (by (simp; omega)); have q3 := hb5.cell (p := ⟨wr.heap.size, 3, none⟩) (by (simp; omega)); have q4 := hb5.cell (p := ⟨wr.heap.size, 4, none⟩) (by (simp; omega)); have hw := HI4.out.2; have HG := Lib.hid (p := Rd w w5) (g.trans (tr (al (((((hw.setCell (Nat.le_refl _) _).setCell (Nat.le_refl _) _).setCell (Nat.le_refl _) _).setCell (Nat.le_refl _) _).setCell (Nat.le_refl _) _) _) hb5)); obtain ⟨m0, m1, m2, m3, m4⟩ := CP.cells5 HG.out.hr; obtain ⟨n0, n1, n2, n3, n4⟩ := free5 HG.out.hr; have l5 := lt_of_get HG.out.hr))
          go_roundw
          case rel => exact ⟨j + 1, by omega, by go_num, Lib.hid (hnext.out hN.out), HG.out⟩
          case measure => simp [intOf]; omega
      · obtain ⟨A1, A2, A3, A4⟩ := HC.out
        rw [show CM.rdOf 6 x = a1 from A1, show CM.rs1Of 6 x = 0 from rfl, show CM.rs2Of 6 x = 0 from rfl, show CM.immOf 6 x = J from HJ.out] at cE hres
        have cF := cE (by go_wf) (by go_wf) (by go_wf) (by go_wf)
        simp only [show rk 6 = 74 from rfl, show CO.r2 6 = -1 from rfl] at cO
        clear cE A1 A2 A3 A4
        by_cases hA : A = x
        · have hV := Lib.hid (hres.out (hag.out.1 hA))
          have hA' : (A == x) = true := by simp [hA]
          clear hA hres hag hnext
          go_wp2_with (first
            | (go_at_call 71; (with_reducible refine (cO _).mono ?_); rintro e w4 ⟨rfl, hb4⟩; have hi4 := row1 hb4; obtain ⟨p0, p1, p2, p3, p4⟩ := CP.cells5 hi4.1; obtain ⟨z0, z1, z2, z3, z4⟩ := free5 hi4.1; have hl4 := lt_of_get hi4.1; have HI4 := Lib.hid hi4; clear hi4)
            | (go_at_call 72; (with_reducible refine (d4 _).mono ?_); rintro e w' ⟨rfl, rfl⟩)
            | (go_at_call 52; (with_reducible refine (cF _).mono ?_); rintro e w5 ⟨rfl, hb5⟩; have q0 := hb5.cell (p := ⟨wr.heap.size, 0, none⟩) (by (simp; omega)); have q1 := hb5.cell (p := ⟨wr.heap.size, 1, none⟩) (by (simp; omega)); have q2 := hb5.cell (p := ⟨wr.heap.size, 2, none⟩) (by (simp; omega)); have q3 := hb5.cell (p := ⟨wr.heap.size, 3, none⟩) (by (simp; omega)); have q4 := hb5.cell (p := ⟨wr.heap.size, 4, none⟩) (by (simp; omega)); have hw := HI4.out.2; have HG := Lib.hid (p := Rd w w5) (g.trans (tr (al (((((hw.setCell (Nat.le_refl _) _).setCell (Nat.le_refl _) _).setCell (Nat.le_refl _) _).setCell (Nat.le_refl _) _).setCell (Nat.le_refl _) _) _) hb5)); obtain ⟨m0, m1, m2, m3, m4⟩ := CP.cells5 HG.out.hr; obtain ⟨n0, n1, n2, n3, n4⟩ := free5 HG.out.hr; have l5 := lt_of_get HG.out.hr))
          obtain ⟨e1, e2, e3, e4, e5, e6⟩ := hV.out
          exact bodyPost_ret (v := .tuple #[.agg #[.int .i64 ((j : Int) + 1), .int .i64 a1, .int .i64 0, .int .i64 0, .int .i64 J], .bool true]) (by simp [results, Try.results47, m0, m1, m2, m3, m4, l5, go_sem]) rfl ⟨by rw [e1, e2, e3, e4, e5, e6]; rfl, sets5 HG.out.below⟩
        · have hN : Hid (CM.hit ((j : Int) + 1) x = false) := Lib.hid (by
            cases hh : CM.hit ((j : Int) + 1) x with
            | true => exact absurd (hag.out.2 hh) hA
            | false => rfl)
          have hA' : (A == x) = false := by simp [hA]
          clear hA hres hag
          go_wp2_with (first
            | (go_at_call 71; (with_reducible refine (cO _).mono ?_); rintro e w4 ⟨rfl, hb4⟩; have hi4 := row1 hb4; obtain ⟨p0, p1, p2, p3, p4⟩ := CP.cells5 hi4.1; obtain ⟨z0, z1, z2, z3, z4⟩ := free5 hi4.1; have hl4 := lt_of_get hi4.1; have HI4 := Lib.hid hi4; clear hi4)
            | (go_at_call 72; (with_reducible refine (d4 _).mono ?_); rintro e w' ⟨rfl, rfl⟩)
            | (go_at_call 52; (with_reducible refine (cF _).mono ?_); rintro e w5 ⟨rfl, hb5⟩; have q0 := hb5.cell (p := ⟨wr.heap.size, 0, none⟩) (by (simp; omega)); have q1 := hb5.cell (p := ⟨wr.heap.size, 1, none⟩) (by (simp; omega)); have q2 := hb5.cell (p := ⟨wr.heap.size, 2, none⟩) (by (simp; omega)); have q3 := hb5.cell (p := ⟨wr.heap.size, 3, none⟩) (by (simp; omega)); have q4 := hb5.cell (p := ⟨wr.heap.size, 4, none⟩) (by (simp; omega)); have hw := HI4.out.2; have HG := Lib.hid (p := Rd w w5) (g.trans (tr (al (((((hw.setCell (Nat.le_refl _) _).setCell (Nat.le_refl _) _).setCell (Nat.le_refl _) _).setCell (Nat.le_refl _) _).setCell (Nat.le_refl _) _) _) hb5)); obtain ⟨m0, m1, m2, m3, m4⟩ := CP.cells5 HG.out.hr; obtain ⟨n0, n1, n2, n3, n4⟩ := free5 HG.out.hr; have l5 := lt_of_get HG.out.hr))
          go_roundw
          case rel => exact ⟨j + 1, by omega, by go_num, Lib.hid (hnext.out hN.out), HG.out⟩
          case measure => simp [intOf]; omega
      · obtain ⟨A1, A2, A3, A4⟩ := HC.out
        rw [show CM.rdOf 7 x = 0 from rfl, show CM.rs1Of 7 x = 0 from rfl, show CM.rs2Of 7 x = 0 from rfl, show CM.immOf 7 x = 0 from rfl] at cE hres
        have cF := cE (by go_wf) (by go_wf) (by go_wf) (by go_wf)
        simp only [show rk 7 = 69 from rfl, show CO.r2 7 = 0 from rfl] at cO
        clear cE A1 A2 A3 A4
        by_cases hA : A = x
        · have hV := Lib.hid (hres.out (hag.out.1 hA))
          have hA' : (A == x) = true := by simp [hA]
          clear hA hres hag hnext
          go_wp2_with (first
            | (go_at_call 71; (with_reducible refine (cO _).mono ?_); rintro e w4 ⟨rfl, hb4⟩; have hi4 := row1 hb4; obtain ⟨p0, p1, p2, p3, p4⟩ := CP.cells5 hi4.1; obtain ⟨z0, z1, z2, z3, z4⟩ := free5 hi4.1; have hl4 := lt_of_get hi4.1; have HI4 := Lib.hid hi4; clear hi4)
            | (go_at_call 72; (with_reducible refine (d4 _).mono ?_); rintro e w' ⟨rfl, rfl⟩)
            | (go_at_call 52; (with_reducible refine (cF _).mono ?_); rintro e w5 ⟨rfl, hb5⟩; have q0 := hb5.cell (p := ⟨wr.heap.size, 0, none⟩) (by (simp; omega)); have q1 := hb5.cell (p := ⟨wr.heap.size, 1, none⟩) (by (simp; omega)); have q2 := hb5.cell (p := ⟨wr.heap.size, 2, none⟩) (by (simp; omega)); have q3 := hb5.cell (p := ⟨wr.heap.size, 3, none⟩) (by (simp; omega)); have q4 := hb5.cell (p := ⟨wr.heap.size, 4, none⟩) (by (simp; omega)); have hw := HI4.out.2; have HG := Lib.hid (p := Rd w w5) (g.trans (tr (al hw _) hb5)); obtain ⟨m0, m1, m2, m3, m4⟩ := CP.cells5 HG.out.hr; obtain ⟨n0, n1, n2, n3, n4⟩ := free5 HG.out.hr; have l5 := lt_of_get HG.out.hr))
          obtain ⟨e1, e2, e3, e4, e5, e6⟩ := hV.out
          exact bodyPost_ret (v := .tuple #[.agg #[.int .i64 ((j : Int) + 1), .int .i64 0, .int .i64 0, .int .i64 0, .int .i64 0], .bool true]) (by simp [results, Try.results47, m0, m1, m2, m3, m4, l5, go_sem]) rfl ⟨by rw [e1, e2, e3, e4, e5, e6]; rfl, sets5 HG.out.below⟩
        · have hN : Hid (CM.hit ((j : Int) + 1) x = false) := Lib.hid (by
            cases hh : CM.hit ((j : Int) + 1) x with
            | true => exact absurd (hag.out.2 hh) hA
            | false => rfl)
          have hA' : (A == x) = false := by simp [hA]
          clear hA hres hag
          go_wp2_with (first
            | (go_at_call 71; (with_reducible refine (cO _).mono ?_); rintro e w4 ⟨rfl, hb4⟩; have hi4 := row1 hb4; obtain ⟨p0, p1, p2, p3, p4⟩ := CP.cells5 hi4.1; obtain ⟨z0, z1, z2, z3, z4⟩ := free5 hi4.1; have hl4 := lt_of_get hi4.1; have HI4 := Lib.hid hi4; clear hi4)
            | (go_at_call 72; (with_reducible refine (d4 _).mono ?_); rintro e w' ⟨rfl, rfl⟩)
            | (go_at_call 52; (with_reducible refine (cF _).mono ?_); rintro e w5 ⟨rfl, hb5⟩; have q0 := hb5.cell (p := ⟨wr.heap.size, 0, none⟩) (by (simp; omega)); have q1 := hb5.cell (p := ⟨wr.heap.size, 1, none⟩) (by (simp; omega)); have q2 := hb5.cell (p := ⟨wr.heap.size, 2, none⟩) (by (simp; omega)); have q3 := hb5.cell (p := ⟨wr.heap.size, 3, none⟩) (by (simp; omega)); have q4 := hb5.cell (p := ⟨wr.heap.size, 4, none⟩) (by (simp; omega)); have hw := HI4.out.2; have HG := Lib.hid (p := Rd w w5) (g.trans (tr (al hw _) hb5)); obtain ⟨m0, m1, m2, m3, m4⟩ := CP.cells5 HG.out.hr; obtain ⟨n0, n1, n2, n3, n4⟩ := free5 HG.out.hr; have l5 := lt_of_get HG.out.hr))
          go_roundw
          case rel => exact ⟨j + 1, by omega, by go_num, Lib.hid (hnext.out hN.out), HG.out⟩
          case measure => simp [intOf]; omega
      · obtain ⟨A1, A2, A3, A4⟩ := HC.out
        rw [show CM.rdOf 8 x = a1 from A1, show CM.rs1Of 8 x = a2 from A2, show CM.rs2Of 8 x = a3 from A3, show CM.immOf 8 x = 0 from rfl] at cE hres
        have cF := cE (by go_wf) (by go_wf) (by go_wf) (by go_wf)
        simp only [show rk 8 = 82 from rfl, show CO.r2 8 = -1 from rfl] at cO
        clear cE A1 A2 A3 A4
        by_cases hA : A = x
        · have hV := Lib.hid (hres.out (hag.out.1 hA))
          have hA' : (A == x) = true := by simp [hA]
          clear hA hres hag hnext
          go_wp2_with (first
            | (go_at_call 71; (with_reducible refine (cO _).mono ?_); rintro e w4 ⟨rfl, hb4⟩; have hi4 := row1 hb4; obtain ⟨p0, p1, p2, p3, p4⟩ := CP.cells5 hi4.1; obtain ⟨z0, z1, z2, z3, z4⟩ := free5 hi4.1; have hl4 := lt_of_get hi4.1; have HI4 := Lib.hid hi4; clear hi4)
            | (go_at_call 72; (with_reducible refine (d4 _).mono ?_); rintro e w' ⟨rfl, rfl⟩)
            | (go_at_call 52; (with_reducible refine (cF _).mono ?_); rintro e w5 ⟨rfl, hb5⟩; have q0 := hb5.cell (p := ⟨wr.heap.size, 0, none⟩) (by (simp; omega)); have q1 := hb5.cell (p := ⟨wr.heap.size, 1, none⟩) (by (simp; omega)); have q2 := hb5.cell (p := ⟨wr.heap.size, 2, none⟩) (by (simp; omega)); have q3 := hb5.cell (p := ⟨wr.heap.size, 3, none⟩) (by (simp; omega)); have q4 := hb5.cell (p := ⟨wr.heap.size, 4, none⟩) (by (simp; omega)); have hw := HI4.out.2; have HG := Lib.hid (p := Rd w w5) (g.trans (tr (al (((hw.setCell (Nat.le_refl _) _).setCell (Nat.le_refl _) _).setCell (Nat.le_refl _) _) _) hb5)); obtain ⟨m0, m1, m2, m3, m4⟩ := CP.cells5 HG.out.hr; obtain ⟨n0, n1, n2, n3, n4⟩ := free5 HG.out.hr; have l5 := lt_of_get HG.out.hr))
          obtain ⟨e1, e2, e3, e4, e5, e6⟩ := hV.out
          exact bodyPost_ret (v := .tuple #[.agg #[.int .i64 ((j : Int) + 1), .int .i64 a1, .int .i64 a2, .int .i64 a3, .int .i64 0], .bool true]) (by simp [results, Try.results47, m0, m1, m2, m3, m4, l5, go_sem]) rfl ⟨by rw [e1, e2, e3, e4, e5, e6]; rfl, sets5 HG.out.below⟩
        · have hN : Hid (CM.hit ((j : Int) + 1) x = false) := Lib.hid (by
            cases hh : CM.hit ((j : Int) + 1) x with
            | true => exact absurd (hag.out.2 hh) hA
            | false => rfl)
          have hA' : (A == x) = false := by simp [hA]
          clear hA hres hag
          go_wp2_with (first
            | (go_at_call 71; (with_reducible refine (cO _).mono ?_); rintro e w4 ⟨rfl, hb4⟩; have hi4 := row1 hb4; obtain ⟨p0, p1, p2, p3, p4⟩ := CP.cells5 hi4.1; obtain ⟨z0, z1, z2, z3, z4⟩ := free5 hi4.1; have hl4 := lt_of_get hi4.1; have HI4 := Lib.hid hi4; clear hi4)
            | (go_at_call 72; (with_reducible refine (d4 _).mono ?_); rintro e w' ⟨rfl, rfl⟩)
            | (go_at_call 52; (with_reducible refine (cF _).mono ?_); rintro e w5 ⟨rfl, hb5⟩; have q0 := hb5.cell (p := ⟨wr.heap.size, 0, none⟩) (by (simp; omega)); have q1 := hb5.cell (p := ⟨wr.heap.size, 1, none⟩) (by (simp; omega)); have q2 := hb5.cell (p := ⟨wr.heap.size, 2, none⟩) (by (simp; omega)); have q3 := hb5.cell (p := ⟨wr.heap.size, 3, none⟩) (by (simp; omega)); have q4 := hb5.cell (p := ⟨wr.heap.size, 4, none⟩) (by (simp; omega)); have hw := HI4.out.2; have HG := Lib.hid (p := Rd w w5) (g.trans (tr (al (((hw.setCell (Nat.le_refl _) _).setCell (Nat.le_refl _) _).setCell (Nat.le_refl _) _) _) hb5)); obtain ⟨m0, m1, m2, m3, m4⟩ := CP.cells5 HG.out.hr; obtain ⟨n0, n1, n2, n3, n4⟩ := free5 HG.out.hr; have l5 := lt_of_get HG.out.hr))
          go_roundw
          case rel => exact ⟨j + 1, by omega, by go_num, Lib.hid (hnext.out hN.out), HG.out⟩
          case measure => simp [intOf]; omega
      · obtain ⟨A1, A2, A3, A4⟩ := HC.out
        rw [show CM.rdOf 9 x = a1 from A1, show CM.rs1Of 9 x = a2 from A2, show CM.rs2Of 9 x = 0 from rfl, show CM.immOf 9 x = 0 from rfl] at cE hres
        have cF := cE (by go_wf) (by go_wf) (by go_wf) (by go_wf)
        simp only [show rk 9 = 82 from rfl, show CO.r2 9 = 32 from rfl] at cO
        clear cE A1 A2 A3 A4
        by_cases hA : A = x
        · have hV := Lib.hid (hres.out (hag.out.1 hA))
          have hA' : (A == x) = true := by simp [hA]
          clear hA hres hag hnext
          go_wp2_with (first
            | (go_at_call 71; (with_reducible refine (cO _).mono ?_); rintro e w4 ⟨rfl, hb4⟩; have hi4 := row1 hb4; obtain ⟨p0, p1, p2, p3, p4⟩ := CP.cells5 hi4.1; obtain ⟨z0, z1, z2, z3, z4⟩ := free5 hi4.1; have hl4 := lt_of_get hi4.1; have HI4 := Lib.hid hi4; clear hi4)
            | (go_at_call 72; (with_reducible refine (d4 _).mono ?_); rintro e w' ⟨rfl, rfl⟩)
            | (go_at_call 52; (with_reducible refine (cF _).mono ?_); rintro e w5 ⟨rfl, hb5⟩; have q0 := hb5.cell (p := ⟨wr.heap.size, 0, none⟩) (by (simp; omega)); have q1 := hb5.cell (p := ⟨wr.heap.size, 1, none⟩) (by (simp; omega)); have q2 := hb5.cell (p := ⟨wr.heap.size, 2, none⟩) (by (simp; omega)); have q3 := hb5.cell (p := ⟨wr.heap.size, 3, none⟩) (by (simp; omega)); have q4 := hb5.cell (p := ⟨wr.heap.size, 4, none⟩) (by (simp; omega)); have hw := HI4.out.2; have HG := Lib.hid (p := Rd w w5) (g.trans (tr (al ((hw.setCell (Nat.le_refl _) _).setCell (Nat.le_refl _) _) _) hb5)); obtain ⟨m0, m1, m2, m3, m4⟩ := CP.cells5 HG.out.hr; obtain ⟨n0, n1, n2, n3, n4⟩ := free5 HG.out.hr; have l5 := lt_of_get HG.out.hr))
          obtain ⟨e1, e2, e3, e4, e5, e6⟩ := hV.out
          exact bodyPost_ret (v := .tuple #[.agg #[.int .i64 ((j : Int) + 1), .int .i64 a1, .int .i64 a2, .int .i64 0, .int .i64 0], .bool true]) (by simp [results, Try.results47, m0, m1, m2, m3, m4, l5, go_sem]) rfl ⟨by rw [e1, e2, e3, e4, e5, e6]; rfl, sets5 HG.out.below⟩
        · have hN : Hid (CM.hit ((j : Int) + 1) x = false) := Lib.hid (by
            cases hh : CM.hit ((j : Int) + 1) x with
            | true => exact absurd (hag.out.2 hh) hA
            | false => rfl)
          have hA' : (A == x) = false := by simp [hA]
          clear hA hres hag
          go_wp2_with (first
            | (go_at_call 71; (with_reducible refine (cO _).mono ?_); rintro e w4 ⟨rfl, hb4⟩; have hi4 := row1 hb4; obtain ⟨p0, p1, p2, p3, p4⟩ := CP.cells5 hi4.1; obtain ⟨z0, z1, z2, z3, z4⟩ := free5 hi4.1; have hl4 := lt_of_get hi4.1; have HI4 := Lib.hid hi4; clear hi4)
            | (go_at_call 72; (with_reducible refine (d4 _).mono ?_); rintro e w' ⟨rfl, rfl⟩)
            | (go_at_call 52; (with_reducible refine (cF _).mono ?_); rintro e w5 ⟨rfl, hb5⟩; have q0 := hb5.cell (p := ⟨wr.heap.size, 0, none⟩) (by (simp; omega)); have q1 := hb5.cell (p := ⟨wr.heap.size, 1, none⟩) (by (simp; omega)); have q2 := hb5.cell (p := ⟨wr.heap.size, 2, none⟩) (by (simp; omega)); have q3 := hb5.cell (p := ⟨wr.heap.size, 3, none⟩) (by (simp; omega)); have q4 := hb5.cell (p := ⟨wr.heap.size, 4, none⟩) (by (simp; omega)); have hw := HI4.out.2; have HG := Lib.hid (p := Rd w w5) (g.trans (tr (al ((hw.setCell (Nat.le_refl _) _).setCell (Nat.le_refl _) _) _) hb5)); obtain ⟨m0, m1, m2, m3, m4⟩ := CP.cells5 HG.out.hr; obtain ⟨n0, n1, n2, n3, n4⟩ := free5 HG.out.hr; have l5 := lt_of_get HG.out.hr))
          go_roundw
          case rel => exact ⟨j + 1, by omega, by go_num, Lib.hid (hnext.out hN.out), HG.out⟩
          case measure => simp [intOf]; omega
      · obtain ⟨A1, A2, A3, A4⟩ := HC.out
        rw [show CM.rdOf 10 x = a1 from A1, show CM.rs1Of 10 x = a2 from A2, show CM.rs2Of 10 x = 0 from rfl, show CM.immOf 10 x = 0 from rfl] at cE hres
        have cF := cE (by go_wf) (by go_wf) (by go_wf) (by go_wf)
        simp only [show rk 10 = 82 from rfl, show CO.r2 10 = 0 from rfl] at cO
        clear cE A1 A2 A3 A4
        by_cases hA : A = x
        · have hV := Lib.hid (hres.out (hag.out.1 hA))
          have hA' : (A == x) = true := by simp [hA]
          clear hA hres hag hnext
          go_wp2_with (first
            | (go_at_call 71; (with_reducible refine (cO _).mono ?_); rintro e w4 ⟨rfl, hb4⟩; have hi4 := row1 hb4; obtain ⟨p0, p1, p2, p3, p4⟩ := CP.cells5 hi4.1; obtain ⟨z0, z1, z2, z3, z4⟩ := free5 hi4.1; have hl4 := lt_of_get hi4.1; have HI4 := Lib.hid hi4; clear hi4)
            | (go_at_call 72; (with_reducible refine (d4 _).mono ?_); rintro e w' ⟨rfl, rfl⟩)
            | (go_at_call 52; (with_reducible refine (cF _).mono ?_); rintro e w5 ⟨rfl, hb5⟩; have q0 := hb5.cell (p := ⟨wr.heap.size, 0, none⟩) (by (simp; omega)); have q1 := hb5.cell (p := ⟨wr.heap.size, 1, none⟩) (by (simp; omega)); have q2 := hb5.cell (p := ⟨wr.heap.size, 2, none⟩) (by (simp; omega)); have q3 := hb5.cell (p := ⟨wr.heap.size, 3, none⟩) (by (simp; omega)); have q4 := hb5.cell (p := ⟨wr.heap.size, 4, none⟩) (by (simp; omega)); have hw := HI4.out.2; have HG := Lib.hid (p := Rd w w5) (g.trans (tr (al ((hw.setCell (Nat.le_refl _) _).setCell (Nat.le_refl _) _) _) hb5)); obtain ⟨m0, m1, m2, m3, m4⟩ := CP.cells5 HG.out.hr; obtain ⟨n0, n1, n2, n3, n4⟩ := free5 HG.out.hr; have l5 := lt_of_get HG.out.hr))
          obtain ⟨e1, e2, e3, e4, e5, e6⟩ := hV.out
          exact bodyPost_ret (v := .tuple #[.agg #[.int .i64 ((j : Int) + 1), .int .i64 a1, .int .i64 a2, .int .i64 0, .int .i64 0], .bool true]) (by simp [results, Try.results47, m0, m1, m2, m3, m4, l5, go_sem]) rfl ⟨by rw [e1, e2, e3, e4, e5, e6]; rfl, sets5 HG.out.below⟩
        · have hN : Hid (CM.hit ((j : Int) + 1) x = false) := Lib.hid (by
            cases hh : CM.hit ((j : Int) + 1) x with
            | true => exact absurd (hag.out.2 hh) hA
            | false => rfl)
          have hA' : (A == x) = false := by simp [hA]
          clear hA hres hag
          go_wp2_with (first
            | (go_at_call 71; (with_reducible refine (cO _).mono ?_); rintro e w4 ⟨rfl, hb4⟩; have hi4 := row1 hb4; obtain ⟨p0, p1, p2, p3, p4⟩ := CP.cells5 hi4.1; obtain ⟨z0, z1, z2, z3, z4⟩ := free5 hi4.1; have hl4 := lt_of_get hi4.1; have HI4 := Lib.hid hi4; clear hi4)
            | (go_at_call 72; (with_reducible refine (d4 _).mono ?_); rintro e w' ⟨rfl, rfl⟩)
            | (go_at_call 52; (with_reducible refine (cF _).mono ?_); rintro e w5 ⟨rfl, hb5⟩; have q0 := hb5.cell (p := ⟨wr.heap.size, 0, none⟩) (by (simp; omega)); have q1 := hb5.cell (p := ⟨wr.heap.size, 1, none⟩) (by (simp; omega)); have q2 := hb5.cell (p := ⟨wr.heap.size, 2, none⟩) (by (simp; omega)); have q3 := hb5.cell (p := ⟨wr.heap.size, 3, none⟩) (by (simp; omega)); have q4 := hb5.cell (p := ⟨wr.heap.size, 4, none⟩) (by (simp; omega)); have hw := HI4.out.2; have HG := Lib.hid (p := Rd w w5) (g.trans (tr (al ((hw.setCell (Nat.le_refl _) _).setCell (Nat.le_refl _) _) _) hb5)); obtain ⟨m0, m1, m2, m3, m4⟩ := CP.cells5 HG.out.hr; obtain ⟨n0, n1, n2, n3, n4⟩ := free5 HG.out.hr; have l5 := lt_of_get HG.out.hr))
          go_roundw
          case rel => exact ⟨j + 1, by omega, by go_num, Lib.hid (hnext.out hN.out), HG.out⟩
          case measure => simp [intOf]; omega
    · obtain rfl : j = 55 := by omega
      have H0 := CM.dec_none (w := x) (fun op => by
        cases h : CM.isOp op with
        | true => have := CM.isOp_yes h; exact hh.out op this.1 (by omega)
        | false => simp [CM.hit, h])
      have HV : Hid (iv (dOp x) (dRd x) (dRs1 x) (dRs2 x) (dImm x) = #[.int .i64 0, .int .i64 0, .int .i64 0, .int .i64 0, .int .i64 0] ∧ (!(CM.dec x == 0)) = false) := Lib.hid ⟨by simp [dOp, dRd, dRs1, dRs2, dImm, H0, iv], by simp [H0]⟩
      clear H0 hh
      obtain ⟨m0, m1, m2, m3, m4⟩ := CP.cells5 g.hr
      obtain ⟨n0, n1, n2, n3, n4⟩ := free5 g.hr
      have l5 := lt_of_get g.hr
      go_wp2
      exact bodyPost_ret (v := .tuple #[.agg #[.int .i64 0, .int .i64 0, .int .i64 0, .int .i64 0, .int .i64 0], .bool false]) (by simp [results, Try.results47, m0, m1, m2, m3, m4, l5, go_sem]) rfl ⟨by rw [HV.out.1, HV.out.2], sets5 g.below⟩
end CT
end Go.Proofs.Ytieehjkmfmkfjaa
/-
  Package solderref05's Of and symbol: contracts. Conditions: the word is of 32 bits; slices are such as memory holds.
-/
namespace Go.Proofs.Ytieehjkmfmkfjaa
open Go.RowKit
set_option linter.unusedVariables false
set_option linter.unusedSimpArgs false
namespace SA
open OO OJ OU OPt
def rkI (op : Int) : Int := if CM.isOp op then CO.rk (CM.kd op) else 0
def KF (op q : Int) : Prop := (q = 73 ↔ (18 ≤ op ∧ op ≤ 23 ∨ 27 ≤ op ∧ op ≤ 29 ∨ op = 41 ∨ op = 43)) ∧ (q = 83 ↔ (op = 30 ∨ op = 31 ∨ op = 44)) ∧ (q = 66 ↔ (32 ≤ op ∧ op ≤ 37))
instance (op q : Int) : Decidable (KF op q) := by unfold KF; exact inferInstance
theorem kf {op : Int} (h : CM.isOp op = true) : KF op (rkI op) := by
  have := CM.all_ops (fun op => decide (KF op (rkI op))) (by decide +kernel) h
  simpa using this
theorem dec_op {x : Int} (h : CM.dec x ≠ 0) : CM.isOp (CM.dec x) = true := by
  unfold CM.dec at h ⊢
  cases e : (List.range 55).find? fun n => CM.hit ((n + 1 : Nat) : Int) x with
  | none => rw [e] at h; exact absurd rfl h
  | some n =>
    have := List.mem_of_find?_eq_some e
    rw [List.mem_range] at this
    unfold CM.isOp
    simp only [decide_eq_true_eq]
    omega
theorem row_eq (op : Int) : ∃ a b c d : Int, CO.rowV op = #[.int .u8 (rkI op), .int .i64 a, .int .i64 b, .int .i64 c, .int .i64 d] := by
  unfold CO.rowV rkI
  split
  · exact ⟨_, _, _, _, rfl⟩
  · exact ⟨_, _, _, _, rfl⟩
theorem up0 {w : World} {b : Nat} {T : TypeId} {p q r s t : Value} (h : w.heap[b]? = some (.cells #[p, q, r, s, t] T (0, 0))) : ∀ o, (w.alloc o).cell? ⟨b, 0, none⟩ = some p := fun o =>
  (World.cell?_alloc_lt w o _ (by obtain ⟨hl, -⟩ := Array.getElem?_eq_some_iff.1 h; exact hl)).trans (cell_of_row _ _ _ _ _ _ h)
theorem up4 {w : World} {b : Nat} {T : TypeId} {p q r s t : Value} (h : w.heap[b]? = some (.cells #[p, q, r, s, t] T (0, 0))) : ∀ o, (w.alloc o).cell? ⟨b, 4, none⟩ = some t := fun o =>
  (World.cell?_alloc_lt w o _ (by obtain ⟨hl, -⟩ := Array.getElem?_eq_some_iff.1 h; exact hl)).trans (cell_of_row _ _ _ _ _ _ h)
set_option maxRecDepth 100000 in
set_option maxHeartbeats 8000000 in
theorem of_ (k x : Int) (h0 : 0 ≤ x) (h1 : x < 4294967296) (w : World) :
    Calls Try.prog 46 #[.int .i64 k, .int .u32 x] w fun e w' => e = .returned (.bool (patB k x)) ∧ Below w.heap.size w w' := by
  have c1 := fun w => CT.decode_ x h0 h1 w
  have c2 := fun w => CO.of_ (CD.dOp x) w
  obtain ⟨ra, rb, rc, rd, hr⟩ := row_eq (CD.dOp x)
  have HK := Lib.hid (show CD.dOp x ≠ 0 → KF (CD.dOp x) (rkI (CD.dOp x)) from fun h => kf (dec_op h))
  have HP := Lib.hid (show patB k x = (decide (CD.dOp x ≠ 0) && (decide (CD.dImm x = 0) && kindB k (CD.dOp x))) by
    unfold patB CD.dE CD.dOp
    by_cases h : CM.dec x = 0 <;> simp [h])
  have hok : (!(CM.dec x == 0)) = decide (CD.dOp x ≠ 0) := by unfold CD.dOp; by_cases h : CM.dec x = 0 <;> simp [h]
  rw [hok] at c1
  rw [hr] at c2
  clear hok hr
  generalize patB k x = b at *
  generalize CD.dOp x = op at *
  generalize CD.dImm x = im at *
  generalize CD.dRd x = r0 at *
  generalize CD.dRs1 x = r1 at *
  generalize CD.dRs2 x = r2 at *
  generalize rkI op = q at *
  unfold CW.iv at c1
  clear h0 h1
  by_cases e1 : op = 0
  · subst e1
    rw [show decide ((0 : Int) ≠ 0) = false from rfl] at c1
    go_enter Try.func46, Try.ntmps46
    go_wp2_with (first
      | (go_at_call 47; (with_reducible refine (c1 _).mono ?_); rintro e w1 ⟨rfl, hb⟩; have HB := Lib.hid hb; clear hb)
      | (go_at_call 71; (with_reducible refine (c2 _).mono ?_); rintro e w2 ⟨rfl, hb⟩; have HB2 := Lib.hid hb; obtain ⟨hrow, -⟩ := CT.row1 hb; clear hb; have g0 := up0 hrow; have g4 := up4 hrow; have HR := Lib.hid hrow; clear hrow))
    go_ret
    exact ⟨ret_bool (by rw [HP.out]; rfl), ((HB.out.alloc HB.out.size _).trans (HB2.out.mono (by have := HB.out.size; simp only [World.size_alloc]; omega))).alloc (by have := HB.out.size; have := HB2.out.size; simp only [World.size_alloc] at *; omega) _⟩
  · rw [show decide (op ≠ 0) = true from decide_eq_true e1] at c1
    have HKF := Lib.hid (HK.out e1)
    have HE := Lib.hid e1
    clear e1
    by_cases e2 : im = 0
    all_goals
      have HI := Lib.hid e2
      go_enter Try.func46, Try.ntmps46
      go_wp2_with (first
        | (go_at_call 47; (with_reducible refine (c1 _).mono ?_); rintro e w1 ⟨rfl, hb⟩; have HB := Lib.hid hb; clear hb)
        | (go_at_call 71; (with_reducible refine (c2 _).mono ?_); rintro e w2 ⟨rfl, hb⟩; have HB2 := Lib.hid hb; obtain ⟨hrow, -⟩ := CT.row1 hb; clear hb; have g0 := up0 hrow; have g4 := up4 hrow; have HR := Lib.hid hrow; clear hrow))
      all_goals
        go_ret
        refine ⟨ret_bool ?_, ((HB.out.alloc HB.out.size _).trans (HB2.out.mono (by have := HB.out.size; simp only [World.size_alloc]; omega))).alloc (by have := HB.out.size; have := HB2.out.size; simp only [World.size_alloc] at *; omega) _⟩
        have k1 := HKF.out
        have k2 := HE.out
        have k3 := HI.out
        rw [HP.out, Bool.eq_iff_iff]
        unfold kindB
        unfold KF at k1
        simp only [Bool.and_eq_true, decide_eq_true_eq, beq_iff_eq, beq_eq_false_iff_ne, Bool.false_eq_true, false_iff, iff_false] at *
        omega
set_option maxRecDepth 100000 in
set_option maxHeartbeats 8000000 in
theorem symbol_ {nt nd n2 n3 q0 q1 q2 q3 : Nat} {p0 p1 p2 p3 : Option Addr} (s : SymV) (w : World) (h0 : nt ≤ maxLen) (h1 : nd ≤ maxLen) :
    Calls Try.prog 56 #[.agg #[.slice p0 nt q0, .slice p1 nd q1, .slice p2 n2 q2, .slice p3 n3 q3], .agg #[.string s.name, .int .i64 s.sect, .int .i64 s.val, .int .i64 s.frame, .bool s.glob]] w fun e w' => e = .returned (.bool (placeB nt nd s)) ∧ Below w.heap.size w w' := by
  have hB := fun (x y : Obj) => (((Below.refl w.heap.size w).alloc (Nat.le_refl _) x).alloc (by simp) y : Below w.heap.size w ((w.alloc x).alloc y))
  have HB := Lib.hid hB
  obtain ⟨nm, sc, vl, fr, gl⟩ := s
  simp only
  unfold maxLen at h0 h1
  clear hB
  by_cases e0 : sc = 0
  · by_cases e1 : vl = 0
    all_goals by_cases e2 : fr = 0
    all_goals cases gl
    all_goals
      have HE := Lib.hid (⟨e0, e1, e2⟩ : _ ∧ _ ∧ _)
      go_enter Try.func56, Try.ntmps56
      go_wp2
      go_ret
      exact ⟨ret_bool (by unfold placeB; have := HE.out; simp; first | omega | (rw [Bool.eq_iff_iff]; simp; omega)), HB.out _ _⟩
  · by_cases e1 : sc = 1
    · subst e1
      have ht := fun h => Int.tmod_eq_emod_of_nonneg (b := 16) (a := fr) h
      by_cases a1 : 0 ≤ vl
      all_goals by_cases a2 : vl ≤ (nt : Int)
      all_goals by_cases a3 : 0 ≤ fr
      all_goals by_cases a4 : fr ≤ 1048576
      all_goals by_cases a5 : fr.tmod 16 = 0
      all_goals try (exfalso; omega)
      all_goals
        have HE := Lib.hid (⟨a1, a2, a3, a4, a5⟩ : _ ∧ _ ∧ _ ∧ _ ∧ _)
        have HT := Lib.hid ht
        clear ht
        go_enter Try.func56, Try.ntmps56
        go_wp2
        go_ret
        exact ⟨ret_bool (by unfold placeB; have := HE.out; have ht := HT.out; rw [Bool.eq_iff_iff]; simp; try omega), HB.out _ _⟩
    · by_cases e2 : sc = 2
      · subst e2
        by_cases a1 : 0 ≤ vl
        all_goals by_cases a2 : vl ≤ (nd : Int)
        all_goals by_cases a3 : fr = 0
        all_goals try (exfalso; omega)
        all_goals
          have HE := Lib.hid (⟨a1, a2, a3⟩ : _ ∧ _ ∧ _)
          go_enter Try.func56, Try.ntmps56
          go_wp2
          go_ret
          exact ⟨ret_bool (by unfold placeB; have := HE.out; rw [Bool.eq_iff_iff]; simp; try omega), HB.out _ _⟩
      · have HE := Lib.hid (⟨e0, e1, e2⟩ : _ ∧ _ ∧ _)
        go_enter Try.func56, Try.ntmps56
        go_wp2
        go_ret
        exact ⟨ret_bool (by unfold placeB; have := HE.out; rw [Bool.eq_iff_iff]; simp; try omega), HB.out _ _⟩
end SA
end Go.Proofs.Ytieehjkmfmkfjaa
/-
  Package solderref05's relocation: a contract. Conditions: the words lie in memory, and lengths are such as memory holds.
-/
namespace Go.Proofs.Ytieehjkmfmkfjaa
open Go.RowKit
set_option linter.unusedVariables false
set_option linter.unusedSimpArgs false
namespace SB
open OO OJ OU OPt OI ORl
def dst (i : Nat) : Nat := if i = 17 then 4 else 34 + i
theorem dst_inj (i j : Nat) (hi : i < 18) (hj : j < 18) (h : dst i = dst j) : i = j := by
  unfold dst at h
  split at h <;> split at h <;> omega
set_option maxRecDepth 100000 in
set_option maxHeartbeats 8000000 in
theorem relocation_ {n₀ nd ns n3 q1 q2 q3 : Nat} {v0 : Value} {p1 p2 p3 : Option Addr} {ws : List Int} (r : RelV) (w : World) (hwf : ∀ x ∈ ws, 0 ≤ x ∧ x ≤ 4294967295) (hw : Nums8 .u32 n₀ w v0 ws) (hn : n₀ ≤ w.heap.size) (h1 : nd ≤ maxLen) (h2 : ns ≤ maxLen) :
    Calls Try.prog 57 #[.agg #[v0, .slice p1 nd q1, .slice p2 ns q2, .slice p3 n3 q3], .agg #[.int .i64 r.sect, .int .i64 r.place, .int .i64 r.kind, .int .i64 r.sym, .int .i64 r.add]] w fun e w' => e = .returned (.bool (relOk ws nd ns r)) ∧ Below w.heap.size w w' := by
  have hB := fun (x y : Obj) => (((Below.refl w.heap.size w).alloc (Nat.le_refl _) x).alloc (by simp) y : Below w.heap.size w ((w.alloc x).alloc y))
  have HB := Lib.hid hB
  have HW := Lib.hid hw
  have HN := Lib.hid hn
  obtain ⟨p0, q0, rfl, hw0⟩ := hw
  have h0 : ws.length ≤ maxLen := by
    by_cases hz : 0 < ws.length
    · obtain ⟨b, o, -, -, k1, k2, -⟩ := hw0 hz; exact Nat.le_trans k1 k2
    · omega
  obtain ⟨sc, pl, kd, sy, ad⟩ := r
  simp only
  unfold maxLen at h0 h1 h2
  have HP := Lib.hid hwf
  clear hB hw0 hn hwf
  by_cases b1 : sy < 0
  ·
    have HE := Lib.hid (b1)
    go_enter Try.func57, Try.ntmps57
    go_wp2
    go_ret
    exact ⟨ret_bool (by unfold relOk; have := HE.out; (try simp); first | omega | (rw [Bool.eq_iff_iff]; simp; omega) | (rw [if_neg this.2.2.2.2.2.1, if_neg this.2.2.2.2.2.2]; simp) | (rw [Bool.eq_iff_iff]; simp only [beq_iff_eq, Bool.and_eq_true, decide_eq_true_eq]; omega)), HB.out _ _⟩
  by_cases b2 : (ns : Int) ≤ sy
  ·
    have HE := Lib.hid (⟨b1, b2⟩ : _ ∧ _)
    go_enter Try.func57, Try.ntmps57
    go_wp2
    go_ret
    exact ⟨ret_bool (by unfold relOk; have := HE.out; (try simp); first | omega | (rw [Bool.eq_iff_iff]; simp; omega) | (rw [if_neg this.2.2.2.2.2.1, if_neg this.2.2.2.2.2.2]; simp) | (rw [Bool.eq_iff_iff]; simp only [beq_iff_eq, Bool.and_eq_true, decide_eq_true_eq]; omega)), HB.out _ _⟩
  by_cases b3 : ad < -2147483648
  ·
    have HE := Lib.hid (⟨b1, b2, b3⟩ : _ ∧ _ ∧ _)
    go_enter Try.func57, Try.ntmps57
    go_wp2
    go_ret
    exact ⟨ret_bool (by unfold relOk; have := HE.out; (try simp); first | omega | (rw [Bool.eq_iff_iff]; simp; omega) | (rw [if_neg this.2.2.2.2.2.1, if_neg this.2.2.2.2.2.2]; simp) | (rw [Bool.eq_iff_iff]; simp only [beq_iff_eq, Bool.and_eq_true, decide_eq_true_eq]; omega)), HB.out _ _⟩
  by_cases b4 : 2147483647 < ad
  ·
    have HE := Lib.hid (⟨b1, b2, b3, b4⟩ : _ ∧ _ ∧ _ ∧ _)
    go_enter Try.func57, Try.ntmps57
    go_wp2
    go_ret
    exact ⟨ret_bool (by unfold relOk; have := HE.out; (try simp); first | omega | (rw [Bool.eq_iff_iff]; simp; omega) | (rw [if_neg this.2.2.2.2.2.1, if_neg this.2.2.2.2.2.2]; simp) | (rw [Bool.eq_iff_iff]; simp only [beq_iff_eq, Bool.and_eq_true, decide_eq_true_eq]; omega)), HB.out _ _⟩
  by_cases b5 : pl < 0
  ·
    have HE := Lib.hid (⟨b1, b2, b3, b4, b5⟩ : _ ∧ _ ∧ _ ∧ _ ∧ _)
    go_enter Try.func57, Try.ntmps57
    go_wp2
    go_ret
    exact ⟨ret_bool (by unfold relOk; have hq : ¬ 0 ≤ pl := (by have := HE.out; omega); have := HE.out; (try simp [hq]); try first | omega | (rw [Bool.eq_iff_iff]; simp; omega) | (rw [if_neg this.2.2.2.2.2.1, if_neg this.2.2.2.2.2.2]; simp) | (rw [Bool.eq_iff_iff]; simp only [beq_iff_eq, Bool.and_eq_true, decide_eq_true_eq]; omega)), HB.out _ _⟩
  by_cases e1 : sc = 1
  · subst e1
    by_cases b6 : pl < (ws.length : Int)
    · obtain ⟨k, rfl⟩ : ∃ k : Nat, pl = (k : Int) := ⟨pl.toNat, by omega⟩
      have hk : k < ws.length := by omega
      obtain ⟨pp, qq, ee, hh⟩ := HW.out
      cases ee
      obtain ⟨b, o, rfl, hb0, -, -, hr⟩ := hh (by omega)
      have hbl : b < w.heap.size := Nat.lt_of_lt_of_le hb0 HN.out
      have hc := fun (x y : Obj) => row_below hr (HB.out x y) hbl k _ (List.getElem?_eq_getElem hk)
      have hx := HP.out ws[k] (List.getElem_mem hk)
      have hpx := fun W => SA.of_ kd ws[k] hx.1 (by omega) W
      have hgx : ws.getD k 0 = ws[k] := by rw [List.getD_eq_getElem?_getD, List.getElem?_eq_getElem hk]; rfl
      have HG := Lib.hid hgx
      have hn1 : (0 : Int) ≤ (k : Int) := by omega
      have HE := Lib.hid (⟨b1, b2, b3, b4, b5, b6⟩ : _ ∧ _ ∧ _ ∧ _ ∧ _ ∧ _)
      have HK := Lib.hid hk
      clear hr hh hgx hx
      generalize ws[k] = x at *
      generalize hpb : patB kd x = p at *
      have HPB := Lib.hid hpb
      clear hpb
      have hc1 := hc (.cells #[.slice (some ⟨b, o, none⟩) ws.length q0, .slice p1 nd q1, .slice p2 ns q2, .slice p3 n3 q3] 30) (.cells #[.int .i64 1, .int .i64 (k : Int), .int .i64 kd, .int .i64 sy, .int .i64 ad] 77)
      have hB1 := HB.out (.cells #[.slice (some ⟨b, o, none⟩) ws.length q0, .slice p1 nd q1, .slice p2 ns q2, .slice p3 n3 q3] 30) (.cells #[.int .i64 1, .int .i64 (k : Int), .int .i64 kd, .int .i64 sy, .int .i64 ad] 77)
      have y1 : ((w.alloc (.cells #[.slice (some ⟨b, o, none⟩) ws.length q0, .slice p1 nd q1, .slice p2 ns q2, .slice p3 n3 q3] 30)).alloc (.cells #[.int .i64 1, .int .i64 (k : Int), .int .i64 kd, .int .i64 sy, .int .i64 ad] 77)).heap[w.heap.size]? = some (.cells #[.slice (some ⟨b, o, none⟩) ws.length q0, .slice p1 nd q1, .slice p2 ns q2, .slice p3 n3 q3] 30 (0, 0)) := (Lib.alloc_old _ _ _ (by simp)).trans (heap_alloc_new w _)
      have y2 : ((w.alloc (.cells #[.slice (some ⟨b, o, none⟩) ws.length q0, .slice p1 nd q1, .slice p2 ns q2, .slice p3 n3 q3] 30)).alloc (.cells #[.int .i64 1, .int .i64 (k : Int), .int .i64 kd, .int .i64 sy, .int .i64 ad] 77)).heap[w.heap.size + 1]? = some (.cells #[.int .i64 1, .int .i64 (k : Int), .int .i64 kd, .int .i64 sy, .int .i64 ad] 77 (0, 0)) := by
        have := heap_alloc_new (w.alloc (.cells #[.slice (some ⟨b, o, none⟩) ws.length q0, .slice p1 nd q1, .slice p2 ns q2, .slice p3 n3 q3] 30)) (.cells #[.int .i64 1, .int .i64 (k : Int), .int .i64 kd, .int .i64 sy, .int .i64 ad] 77)
        rwa [World.size_alloc] at this
      have hsz : w.heap.size + 2 ≤ ((w.alloc (.cells #[.slice (some ⟨b, o, none⟩) ws.length q0, .slice p1 nd q1, .slice p2 ns q2, .slice p3 n3 q3] 30)).alloc (.cells #[.int .i64 1, .int .i64 (k : Int), .int .i64 kd, .int .i64 sy, .int .i64 ad] 77)).heap.size := by simp
      have HB1 := Lib.hid hB1
      clear hc hB1
      go_enter Try.func57, Try.ntmps57
      go_upto_region 4 with fail
      generalize (w.alloc (.cells #[.slice (some ⟨b, o, none⟩) ws.length q0, .slice p1 nd q1, .slice p2 ns q2, .slice p3 n3 q3] 30)).alloc (.cells #[.int .i64 1, .int .i64 (k : Int), .int .i64 kd, .int .i64 sy, .int .i64 ad] 77) = W at *
      have KC := Lib.hid (fun (W' : World) (hb : Below W.heap.size W W') => (⟨Lib.cell_of_heap ((hb.block _ (by omega)).trans y1) 0, Lib.cell_of_heap ((hb.block _ (by omega)).trans y2) 1, Lib.cell_of_heap ((hb.block _ (by omega)).trans y2) 2, (hb.cell (p := ⟨b, o + k, none⟩) (show b < W.heap.size by omega)).trans hc1⟩ :
        W'.cell? ⟨w.heap.size, 0, none⟩ = some (.slice (some ⟨b, o, none⟩) ws.length q0) ∧ W'.cell? ⟨w.heap.size + 1, 1, none⟩ = some (.int .i64 k) ∧ W'.cell? ⟨w.heap.size + 1, 2, none⟩ = some (.int .i64 kd) ∧ W'.cell? ⟨b, o + k, none⟩ = some (.int .u32 x)))
      clear y1 y2 hc1
      refine facts_ (n := 18) (dst := dst) (F := Fv (fun i => match i with | 0 => some (some (.pointer (some ⟨w.heap.size + 1, 1, none⟩))) | 1 => some (some (.int .i64 k)) | 2 => some (some (.pointer (some ⟨w.heap.size, 0, none⟩))) | 3 => some (some (.slice (some ⟨b, o, none⟩) ws.length q0)) | 4 => some (some (.int .i64 ws.length)) | 5 => some (some (.bool true)) | 6 => some (some (.bool true)) | 7 => some (some (.pointer (some ⟨w.heap.size + 1, 2, none⟩))) | 8 => some (some (.int .i64 kd)) | 9 => some (some (.pointer (some ⟨w.heap.size, 0, none⟩))) | 10 => some (some (.slice (some ⟨b, o, none⟩) ws.length q0)) | 11 => some (some (.pointer (some ⟨w.heap.size + 1, 1, none⟩))) | 12 => some (some (.int .i64 k)) | 13 => some (some (.pointer (some ⟨b, o + k, none⟩))) | 14 => some (some (.int .u32 x)) | 15 => some (some (.bool p)) | 16 => some (some (.bool p)) | 17 => some (some (.bool p)) | _ => none)) (by kernel_rfl) (ahead_of (by kernel_rfl)) rfl dst_inj (fun _ _ _ _ h _ => h) ?step ?done
      case step =>
        intro i op hop a W1 hM hF
        have hi : i < 18 := (Array.getElem?_eq_some_iff.1 hop).1
        match i, hi with
          | 0, _ =>
            cases hop
            refine op_ rfl rfl ?_
            have t3 : a.tmps[3]?.getD undef = .pointer (some ⟨w.heap.size + 1, 0, none⟩) := (Array.getD_eq_getD_getElem?).symm.trans ((hM.oth 3 (by intro i hi; unfold dst; split <;> omega)).trans rfl)
            have HM := Lib.hid hM
            clear hM hF
            go_simp
            exact did_put _ (by rw [HM.out.sz]; exact (by decide : dst 0 < 74)) (Below.refl _ _) (by rfl)
          | 1, _ =>
            cases hop
            refine op_ rfl rfl ?_
            have t34 : a.tmps[34]?.getD undef = .pointer (some ⟨w.heap.size + 1, 1, none⟩) := (Array.getD_eq_getD_getElem?).symm.trans (hF ⟨0, .data⟩ (by simp) rfl)
            obtain ⟨f0, f1, f2, f3⟩ := KC.out W1 hM.bel
            have HM := Lib.hid hM
            clear hM hF
            go_simp
            exact did_put _ (by rw [HM.out.sz]; exact (by decide : dst 1 < 74)) (Below.refl _ _) (by rfl)
          | 2, _ =>
            cases hop
            refine op_ rfl rfl ?_
            have t2 : a.tmps[2]?.getD undef = .pointer (some ⟨w.heap.size, 0, none⟩) := (Array.getD_eq_getD_getElem?).symm.trans ((hM.oth 2 (by intro i hi; unfold dst; split <;> omega)).trans rfl)
            have HM := Lib.hid hM
            clear hM hF
            go_simp
            exact did_put _ (by rw [HM.out.sz]; exact (by decide : dst 2 < 74)) (Below.refl _ _) (by rfl)
          | 3, _ =>
            cases hop
            refine op_ rfl rfl ?_
            have t36 : a.tmps[36]?.getD undef = .pointer (some ⟨w.heap.size, 0, none⟩) := (Array.getD_eq_getD_getElem?).symm.trans (hF ⟨2, .data⟩ (by simp) rfl)
            obtain ⟨f0, f1, f2, f3⟩ := KC.out W1 hM.bel
            have HM := Lib.hid hM
            clear hM hF
            go_simp
            exact did_put _ (by rw [HM.out.sz]; exact (by decide : dst 3 < 74)) (Below.refl _ _) (by rfl)
          | 4, _ =>
            cases hop
            refine op_ rfl rfl ?_
            have t37 : a.tmps[37]?.getD undef = .slice (some ⟨b, o, none⟩) ws.length q0 := (Array.getD_eq_getD_getElem?).symm.trans (hF ⟨3, .data⟩ (by simp) rfl)
            have HM := Lib.hid hM
            clear hM hF
            go_simp
            exact did_put _ (by rw [HM.out.sz]; exact (by decide : dst 4 < 74)) (Below.refl _ _) (by rfl)
          | 5, _ =>
            cases hop
            refine op_ rfl rfl ?_
            have t35 : a.tmps[35]?.getD undef = .int .i64 k := (Array.getD_eq_getD_getElem?).symm.trans (hF ⟨1, .data⟩ (by simp) rfl)
            have t38 : a.tmps[38]?.getD undef = .int .i64 ws.length := (Array.getD_eq_getD_getElem?).symm.trans (hF ⟨4, .data⟩ (by simp) rfl)
            have HM := Lib.hid hM
            clear hM hF
            go_simp
            exact did_put _ (by rw [HM.out.sz]; exact (by decide : dst 5 < 74)) (Below.refl _ _) (by rfl)
          | 6, _ =>
            cases hop
            refine op_ rfl rfl ?_
            have t39 : a.tmps[39]?.getD undef = .bool true := (Array.getD_eq_getD_getElem?).symm.trans (hF ⟨5, .data⟩ (by simp) rfl)
            have HM := Lib.hid hM
            clear hM hF
            go_simp
            exact did_put _ (by rw [HM.out.sz]; exact (by decide : dst 6 < 74)) (Below.refl _ _) (by rfl)
          | 7, _ =>
            cases hop
            have tg : a.tmps[40]?.getD undef = .bool true := (Array.getD_eq_getD_getElem?).symm.trans (hF ⟨6, .guard⟩ (by simp) rfl)
            refine op_g rfl (by simp [Region.wanted, yielded, got tg]) ?_
            clear tg
            have t3 : a.tmps[3]?.getD undef = .pointer (some ⟨w.heap.size + 1, 0, none⟩) := (Array.getD_eq_getD_getElem?).symm.trans ((hM.oth 3 (by intro i hi; unfold dst; split <;> omega)).trans rfl)
            have HM := Lib.hid hM
            clear hM hF
            go_simp
            exact did_put _ (by rw [HM.out.sz]; exact (by decide : dst 7 < 74)) (Below.refl _ _) (by rfl)
          | 8, _ =>
            cases hop
            have tg : a.tmps[40]?.getD undef = .bool true := (Array.getD_eq_getD_getElem?).symm.trans (hF ⟨6, .guard⟩ (by simp) rfl)
            refine op_g rfl (by simp [Region.wanted, yielded, got tg]) ?_
            clear tg
            have t41 : a.tmps[41]?.getD undef = .pointer (some ⟨w.heap.size + 1, 2, none⟩) := (Array.getD_eq_getD_getElem?).symm.trans (hF ⟨7, .data⟩ (by simp) rfl)
            obtain ⟨f0, f1, f2, f3⟩ := KC.out W1 hM.bel
            have HM := Lib.hid hM
            clear hM hF
            go_simp
            exact did_put _ (by rw [HM.out.sz]; exact (by decide : dst 8 < 74)) (Below.refl _ _) (by rfl)
          | 9, _ =>
            cases hop
            have tg : a.tmps[40]?.getD undef = .bool true := (Array.getD_eq_getD_getElem?).symm.trans (hF ⟨6, .guard⟩ (by simp) rfl)
            refine op_g rfl (by simp [Region.wanted, yielded, got tg]) ?_
            clear tg
            have t2 : a.tmps[2]?.getD undef = .pointer (some ⟨w.heap.size, 0, none⟩) := (Array.getD_eq_getD_getElem?).symm.trans ((hM.oth 2 (by intro i hi; unfold dst; split <;> omega)).trans rfl)
            have HM := Lib.hid hM
            clear hM hF
            go_simp
            exact did_put _ (by rw [HM.out.sz]; exact (by decide : dst 9 < 74)) (Below.refl _ _) (by rfl)
          | 10, _ =>
            cases hop
            have tg : a.tmps[40]?.getD undef = .bool true := (Array.getD_eq_getD_getElem?).symm.trans (hF ⟨6, .guard⟩ (by simp) rfl)
            refine op_g rfl (by simp [Region.wanted, yielded, got tg]) ?_
            clear tg
            have t43 : a.tmps[43]?.getD undef = .pointer (some ⟨w.heap.size, 0, none⟩) := (Array.getD_eq_getD_getElem?).symm.trans (hF ⟨9, .data⟩ (by simp) rfl)
            obtain ⟨f0, f1, f2, f3⟩ := KC.out W1 hM.bel
            have HM := Lib.hid hM
            clear hM hF
            go_simp
            exact did_put _ (by rw [HM.out.sz]; exact (by decide : dst 10 < 74)) (Below.refl _ _) (by rfl)
          | 11, _ =>
            cases hop
            have tg : a.tmps[40]?.getD undef = .bool true := (Array.getD_eq_getD_getElem?).symm.trans (hF ⟨6, .guard⟩ (by simp) rfl)
            refine op_g rfl (by simp [Region.wanted, yielded, got tg]) ?_
            clear tg
            have t3 : a.tmps[3]?.getD undef = .pointer (some ⟨w.heap.size + 1, 0, none⟩) := (Array.getD_eq_getD_getElem?).symm.trans ((hM.oth 3 (by intro i hi; unfold dst; split <;> omega)).trans rfl)
            have HM := Lib.hid hM
            clear hM hF
            go_simp
            exact did_put _ (by rw [HM.out.sz]; exact (by decide : dst 11 < 74)) (Below.refl _ _) (by rfl)
          | 12, _ =>
            cases hop
            have tg : a.tmps[40]?.getD undef = .bool true := (Array.getD_eq_getD_getElem?).symm.trans (hF ⟨6, .guard⟩ (by simp) rfl)
            refine op_g rfl (by simp [Region.wanted, yielded, got tg]) ?_
            clear tg
            have t45 : a.tmps[45]?.getD undef = .pointer (some ⟨w.heap.size + 1, 1, none⟩) := (Array.getD_eq_getD_getElem?).symm.trans (hF ⟨11, .data⟩ (by simp) rfl)
            obtain ⟨f0, f1, f2, f3⟩ := KC.out W1 hM.bel
            have HM := Lib.hid hM
            clear hM hF
            go_simp
            exact did_put _ (by rw [HM.out.sz]; exact (by decide : dst 12 < 74)) (Below.refl _ _) (by rfl)
          | 13, _ =>
            cases hop
            have tg : a.tmps[40]?.getD undef = .bool true := (Array.getD_eq_getD_getElem?).symm.trans (hF ⟨6, .guard⟩ (by simp) rfl)
            refine op_g rfl (by simp [Region.wanted, yielded, got tg]) ?_
            clear tg
            have t44 : a.tmps[44]?.getD undef = .slice (some ⟨b, o, none⟩) ws.length q0 := (Array.getD_eq_getD_getElem?).symm.trans (hF ⟨10, .data⟩ (by simp) rfl)
            have t46 : a.tmps[46]?.getD undef = .int .i64 k := (Array.getD_eq_getD_getElem?).symm.trans (hF ⟨12, .data⟩ (by simp) rfl)
            have HM := Lib.hid hM
            clear hM hF
            go_simp
            exact did_put _ (by rw [HM.out.sz]; exact (by decide : dst 13 < 74)) (Below.refl _ _) (by rfl)
          | 14, _ =>
            cases hop
            have tg : a.tmps[40]?.getD undef = .bool true := (Array.getD_eq_getD_getElem?).symm.trans (hF ⟨6, .guard⟩ (by simp) rfl)
            refine op_g rfl (by simp [Region.wanted, yielded, got tg]) ?_
            clear tg
            have t47 : a.tmps[47]?.getD undef = .pointer (some ⟨b, o + k, none⟩) := (Array.getD_eq_getD_getElem?).symm.trans (hF ⟨13, .data⟩ (by simp) rfl)
            obtain ⟨f0, f1, f2, f3⟩ := KC.out W1 hM.bel
            have HM := Lib.hid hM
            clear hM hF
            go_simp
            exact did_put _ (by rw [HM.out.sz]; exact (by decide : dst 14 < 74)) (Below.refl _ _) (by rfl)
          | 15, _ =>
            cases hop
            have tg : a.tmps[40]?.getD undef = .bool true := (Array.getD_eq_getD_getElem?).symm.trans (hF ⟨6, .guard⟩ (by simp) rfl)
            refine op_g rfl (by simp [Region.wanted, yielded, got tg]) ?_
            clear tg
            have t42 : a.tmps[42]?.getD undef = .int .i64 kd := (Array.getD_eq_getD_getElem?).symm.trans (hF ⟨8, .data⟩ (by simp) rfl)
            have t48 : a.tmps[48]?.getD undef = .int .u32 x := (Array.getD_eq_getD_getElem?).symm.trans (hF ⟨14, .data⟩ (by simp) rfl)
            have HM := Lib.hid hM
            clear hM hF
            go_simp
            (with_reducible refine (hpx _).mono ?_)
            rintro e W2 ⟨rfl, hb⟩
            exact did_put _ (by rw [HM.out.sz]; exact (by decide : dst 15 < 74)) hb rfl
          | 16, _ =>
            cases hop
            refine op_ rfl rfl ?_
            have t40 : a.tmps[40]?.getD undef = .bool true := (Array.getD_eq_getD_getElem?).symm.trans (hF ⟨6, .data⟩ (by simp) rfl)
            have t49 : a.tmps[49]?.getD undef = .bool p := (Array.getD_eq_getD_getElem?).symm.trans (hF ⟨15, .data⟩ (by simp) rfl)
            have HM := Lib.hid hM
            clear hM hF
            go_simp
            exact did_put _ (by rw [HM.out.sz]; exact (by decide : dst 16 < 74)) (Below.refl _ _) (by rfl)
          | 17, _ =>
            cases hop
            refine op_ rfl rfl ?_
            have t50 : a.tmps[50]?.getD undef = .bool p := (Array.getD_eq_getD_getElem?).symm.trans (hF ⟨16, .data⟩ (by simp) rfl)
            have HM := Lib.hid hM
            clear hM hF
            go_simp
            exact did_put _ (by rw [HM.out.sz]; exact (by decide : dst 17 < 74)) (Below.refl _ _) (by rfl)
          | i + 18, h => exact absurd h (by omega)

      case done =>
        intro a W1 hM hF
        have t4 : a.tmps[4]?.getD undef = .bool p := (Array.getD_eq_getD_getElem?).symm.trans (hF 17 (by decide))
        have hd := hM.d
        have HB2 := Lib.hid hM.bel
        clear hM hF
        go_wp2
        refine bodyPost_ret (v := .bool p) (by simp [results, Try.results57, go_sem, t4]) hd ⟨ret_bool ?_, HB1.out.trans (HB2.out.mono (by omega))⟩
        unfold relOk
        have := HE.out
        have := HK.out
        simp only [Int.toNat_natCast, HG.out, HPB.out]
        cases p <;> simp <;> omega
    · have HE := Lib.hid (⟨b1, b2, b3, b4, b5, b6⟩ : _ ∧ _ ∧ _ ∧ _ ∧ _ ∧ _)
      go_enter Try.func57, Try.ntmps57
      go_upto_region 4 with fail
      go_quiet (fail)
      go_wp2
      go_ret
      exact ⟨ret_bool (by unfold relOk; have := HE.out; (try simp); first | omega | (rw [Bool.eq_iff_iff]; simp; omega) | (rw [if_neg this.2.2.2.2.2.1, if_neg this.2.2.2.2.2.2]; simp) | (rw [Bool.eq_iff_iff]; simp only [beq_iff_eq, Bool.and_eq_true, decide_eq_true_eq]; omega)), (HB.out _ _).trans ⟨rfl, rfl, rfl, Nat.le_refl _, fun _ _ => rfl⟩⟩
  · by_cases e2 : sc = 2
    · subst e2
      by_cases b6 : kd = 6
      · subst b6
        have ht := Int.tmod_eq_emod_of_nonneg (b := 4) (a := pl) (by omega)
        have HT := Lib.hid ht
        by_cases hm : pl % 4 = 0
        all_goals have hm2 := hm
        all_goals rw [← ht] at hm2
        all_goals clear ht
        all_goals by_cases b7 : pl ≤ (nd : Int) - 4
        all_goals
          have HE := Lib.hid (⟨b1, b2, b3, b4, b5, hm, b7⟩ : _ ∧ _ ∧ _ ∧ _ ∧ _ ∧ _ ∧ _)
          go_enter Try.func57, Try.ntmps57
          go_wp2
          go_ret
          exact ⟨ret_bool (by unfold relOk; have ht := HT.out; have := HE.out; (try simp); first | omega | (rw [Bool.eq_iff_iff]; simp; omega) | (rw [if_neg this.2.2.2.2.2.1, if_neg this.2.2.2.2.2.2]; simp) | (rw [Bool.eq_iff_iff]; simp only [beq_iff_eq, Bool.and_eq_true, decide_eq_true_eq]; omega)), HB.out _ _⟩
      ·
        have HE := Lib.hid (⟨b1, b2, b3, b4, b5, b6⟩ : _ ∧ _ ∧ _ ∧ _ ∧ _ ∧ _)
        go_enter Try.func57, Try.ntmps57
        go_wp2
        go_ret
        exact ⟨ret_bool (by unfold relOk; have := HE.out; (try simp); first | omega | (rw [Bool.eq_iff_iff]; simp; omega) | (rw [if_neg this.2.2.2.2.2.1, if_neg this.2.2.2.2.2.2]; simp) | (rw [Bool.eq_iff_iff]; simp only [beq_iff_eq, Bool.and_eq_true, decide_eq_true_eq]; omega)), HB.out _ _⟩
    ·
      have HE := Lib.hid (⟨b1, b2, b3, b4, b5, e1, e2⟩ : _ ∧ _ ∧ _ ∧ _ ∧ _ ∧ _ ∧ _)
      go_enter Try.func57, Try.ntmps57
      go_wp2
      go_ret
      exact ⟨ret_bool (by unfold relOk; have := HE.out; simp [this.2.2.2.2.2.1, this.2.2.2.2.2.2]; try first | omega | (rw [Bool.eq_iff_iff]; simp; omega) | (rw [if_neg this.2.2.2.2.2.1, if_neg this.2.2.2.2.2.2]; simp) | (rw [Bool.eq_iff_iff]; simp only [beq_iff_eq, Bool.and_eq_true, decide_eq_true_eq]; omega)), HB.out _ _⟩
end SB
end Go.Proofs.Ytieehjkmfmkfjaa
/-
  Package solderref05's Good: a contract. No condition but that the object lies in memory, with lengths such as memory holds.
-/
namespace Go.Proofs.Ytieehjkmfmkfjaa
open Go.RowKit
set_option linter.unusedVariables false
set_option linter.unusedSimpArgs false
namespace SC
open OO OJ OM OU ORl OCk OI
abbrev TO : TypeId := 30
theorem box0 (w : World) (x : Obj) : Below w.heap.size w (w.alloc x) := (Below.refl _ _).alloc (Nat.le_refl _) _
set_option maxRecDepth 100000 in
set_option maxHeartbeats 8000000 in
theorem lens_no {n0 n1 n2 n3 q0 q1 q2 q3 : Nat} {p0 p1 p2 p3 : Option Addr} (w : World) (m0 : n0 ≤ maxLen) (m1 : n1 ≤ maxLen) (m2 : n2 ≤ maxLen) (m3 : n3 ≤ maxLen)
    (h : ¬ (n0 ≤ 65536 ∧ n1 ≤ 65536 ∧ n1 % 8 = 0 ∧ n2 ≤ 600 ∧ n3 ≤ 65536)) :
    Calls Try.prog 30 #[.agg #[.slice p0 n0 q0, .slice p1 n1 q1, .slice p2 n2 q2, .slice p3 n3 q3]] w fun e w' => e = .returned (.bool false) ∧ Below w.heap.size w w' := by
  unfold maxLen at m0 m1 m2 m3
  by_cases g0 : (65536 : Int) < n0
  all_goals by_cases g1 : (65536 : Int) < n1
  all_goals by_cases g8 : (n1 : Int) % 8 = 0
  all_goals by_cases g2 : (600 : Int) < n2
  all_goals by_cases g3 : (65536 : Int) < n3
  all_goals first
    | (exfalso; omega)
    | skip
  all_goals
    clear h
    go_enter Try.func30, Try.ntmps30
    go_wp2
    go_ret
    exact ⟨rfl, box0 _ _⟩
def dst (i : Nat) : Nat := 42 + i
theorem dst_inj (i j : Nat) (hi : i < 18) (hj : j < 18) (h : dst i = dst j) : i = j := by unfold dst at h; omega
theorem take_any (ss : List SymV) (nm : ByteArray) (j : Nat) (h : j < ss.length) : ((ss.take (j + 1)).any fun t => decide (t.name = nm)) = (((ss.take j).any fun t => decide (t.name = nm)) || decide (ss[j].name = nm)) := by
  rw [List.take_succ_eq_append_getElem h, List.any_append]; simp
theorem take_yes {ss : List SymV} {nm : ByteArray} {j k : Nat} (h : j < ss.length) (hjk : j < k) (e : ss[j].name = nm) : ((ss.take k).any fun t => decide (t.name = nm)) = true := by
  rw [List.any_eq_true]
  exact ⟨ss[j], List.mem_take_iff_getElem.2 ⟨j, by omega, rfl⟩, by simpa using e⟩
theorem toList_ne {a b : ByteArray} (h : a ≠ b) : (a.toList == b.toList) = false := by
  rw [beq_eq_false_iff_ne]
  intro e
  refine h (ByteArray.ext (Array.toList_inj.1 ?_))
  rwa [ByteArray.toList_eq, ByteArray.toList_eq] at e
set_option maxRecDepth 100000 in
set_option maxHeartbeats 8000000 in
theorem good_lens {w : World} {n₀ : Nat} {v0 v1 v2 v3 : Value} {o : ObjV} (hn : n₀ ≤ w.heap.size) (ho : ObjAt n₀ w v0 v1 v2 v3 o) (hw : o.Wf) (hl : lensB o = true) :
    Calls Try.prog 30 #[.agg #[v0, v1, v2, v3]] w fun e w' => e = .returned (.bool (chk o)) ∧ Below w.heap.size w w' := by
  obtain ⟨p0, q0, rfl, -⟩ := ho.ws
  obtain ⟨p1, q1, rfl, -⟩ := ho.ds
  obtain ⟨p2, q2, rfl, -⟩ := ho.ss
  obtain ⟨p3, q3, rfl, -⟩ := ho.rs
  have hl' := hl
  unfold lensB at hl'
  simp only [Bool.and_eq_true, decide_eq_true_eq] at hl'
  obtain ⟨⟨h0, h1, h8⟩, h2, h3⟩ := hl'
  have h8' : (o.ds.length : Int) % 8 = 0 := by omega
  have HL := Lib.hid hl
  have HO := Lib.hid ho
  have HW := Lib.hid hw
  clear ho hw hl h8
  have g0 : ¬ (65536 : Int) < o.ws.length := by omega
  have g1 : ¬ (65536 : Int) < o.ds.length := by omega
  have g2 : ¬ (600 : Int) < o.ss.length := by omega
  have g3 : ¬ (65536 : Int) < o.rs.length := by omega
  go_enter Try.func30, Try.ntmps30
  go_upto_region 3 with fail
  clear g0 g1 g2 g3 h8'
  have HX0 := Lib.hid (heap_alloc_new w (.cells #[.slice p0 o.ws.length q0, .slice p1 o.ds.length q1, .slice p2 o.ss.length q2, .slice p3 o.rs.length q3] TO))
  have HB0 := Lib.hid (box0 w (.cells #[.slice p0 o.ws.length q0, .slice p1 o.ds.length q1, .slice p2 o.ss.length q2, .slice p3 o.rs.length q3] TO))
  generalize w.alloc (.cells #[.slice p0 o.ws.length q0, .slice p1 o.ds.length q1, .slice p2 o.ss.length q2, .slice p3 o.rs.length q3] TO) = W0 at *
  have y2 : W0.cell? ⟨w.heap.size, 2, none⟩ = some (.slice p2 o.ss.length q2) := Lib.cell_of_heap HX0.out 2
  go_wp2_with fail
  go_loopw [39] (fun i wr => ∃ k : Nat, k ≤ o.ss.length ∧ i = .int .i64 k ∧ Hid (symsTo o.ws.length o.ds.length o.ss k = true) ∧ Below w.heap.size w wr ∧ wr.heap[w.heap.size]? = some (.cells #[.slice p0 o.ws.length q0, .slice p1 o.ds.length q1, .slice p2 o.ss.length q2, .slice p3 o.rs.length q3] TO (0, 0))) (fun i _ => o.ss.length - (intOf i).toNat)
  case atStart => exact ⟨0, Nat.zero_le _, rfl, Lib.hid rfl, HB0.out, HX0.out⟩
  case round =>
    clear y2 HB0 HX0
    obtain ⟨k, hk, rfl, hq, hbl, hbx⟩ := hrel
    by_cases hlt : k < o.ss.length
    · obtain ⟨pp, c, hv, hh⟩ := HO.out.ss
      cases hv
      obtain ⟨xb, xo, rfl, hxb, -, -, hrow⟩ := hh (by omega)
      obtain ⟨s0, s1, s2, s3, s4⟩ := (hrow k _ (List.getElem?_eq_getElem hlt)).below (hbl.mono hn) hxb
      have hnm := (HW.out.ss _ (List.getElem_mem hlt)).name
      have HA := Lib.hid (symAt_eq (nt := o.ws.length) (nd := o.ds.length) hlt)
      have hsz := hbl.size
      have hN := lt_heap hbx
      have hxw : xb < wr.heap.size := by omega
      have HROW := Lib.hid hrow
      have HXB := Lib.hid hxb
      have HQ := hq
      have HLT := Lib.hid hlt
      have HBX := Lib.hid hbx
      have HBL := Lib.hid hbl
      have hk1 : (0 : Int) ≤ (k : Int) := by omega
      obtain ⟨f0, f1, f2, f3⟩ : wr.cell? ⟨w.heap.size, 0, none⟩ = some (.slice p0 o.ws.length q0) ∧ wr.cell? ⟨w.heap.size, 1, none⟩ = some (.slice p1 o.ds.length q1) ∧ wr.cell? ⟨w.heap.size, 2, none⟩ = some (.slice (some ⟨xb, xo, none⟩) o.ss.length q2) ∧ wr.cell? ⟨w.heap.size, 3, none⟩ = some (.slice p3 o.rs.length q3) :=
        ⟨Lib.cell_of_heap hbx 0, Lib.cell_of_heap hbx 1, Lib.cell_of_heap hbx 2, Lib.cell_of_heap hbx 3⟩
      have HK0 := Lib.hid (hrow k _ (List.getElem?_eq_getElem hlt)).c0
      have c0 := fun w' => ON.rname_ o.ss[k].name w' hnm
      have c1 := fun w' => SA.symbol_ (nt := o.ws.length) (nd := o.ds.length) (n2 := o.ss.length) (n3 := o.rs.length) (q0 := q0) (q1 := q1) (q2 := q2) (q3 := q3) (p0 := p0) (p1 := p1) (p2 := some ⟨xb, xo, none⟩) (p3 := p3) o.ss[k] w' (by unfold maxLen; omega) (by unfold maxLen; omega)
      clear hrow hh hq hbx hbl hxb hnm
      generalize o.ss[k] = x at *
      cases hb1 : nameB x.name with
      | false =>
        have HC := Lib.hid (show chk o = false from chk_sym HLT.out (by rw [HA.out]; unfold symOk; rw [hb1]; simp))
        rw [hb1] at c0
        clear HA hb1
        go_upto_region 6 with fail
        go_quiet ((go_at_call 55; exact Calls.quiet_of_same ((c0 _).mono fun e w' h => ⟨h.1, h.2.symm⟩)))
        go_wp2
        go_ret
        exact ⟨ret_bool HC.out.symm, HBL.out.trans ⟨rfl, rfl, rfl, Nat.le_refl _, fun _ _ => rfl⟩⟩
      | true =>
        rw [hb1] at c0
        generalize hpl : placeB o.ws.length o.ds.length x = p at *
        have HP := Lib.hid hpl
        have HB1 := Lib.hid hb1
        clear hpl hb1
        go_upto_region 6 with fail
        have KC := Lib.hid (fun (W' : World) (hb : Below wr.heap.size wr W') => (⟨Lib.cell_of_heap ((hb.block _ hN).trans HBX.out) 0, Lib.cell_of_heap ((hb.block _ hN).trans HBX.out) 1, Lib.cell_of_heap ((hb.block _ hN).trans HBX.out) 2, Lib.cell_of_heap ((hb.block _ hN).trans HBX.out) 3,
            (hb.cell (p := ⟨xb, xo + k * 5, none⟩) hxw).trans s0, (hb.cell (p := ⟨xb, xo + k * 5 + 1, none⟩) hxw).trans s1, (hb.cell (p := ⟨xb, xo + k * 5 + 2, none⟩) hxw).trans s2, (hb.cell (p := ⟨xb, xo + k * 5 + 3, none⟩) hxw).trans s3, (hb.cell (p := ⟨xb, xo + k * 5 + 4, none⟩) hxw).trans s4⟩ :
          W'.cell? ⟨w.heap.size, 0, none⟩ = some (.slice p0 o.ws.length q0) ∧ W'.cell? ⟨w.heap.size, 1, none⟩ = some (.slice p1 o.ds.length q1) ∧ W'.cell? ⟨w.heap.size, 2, none⟩ = some (.slice (some ⟨xb, xo, none⟩) o.ss.length q2) ∧ W'.cell? ⟨w.heap.size, 3, none⟩ = some (.slice p3 o.rs.length q3) ∧
          W'.cell? ⟨xb, xo + k * 5, none⟩ = some (.string x.name) ∧ W'.cell? ⟨xb, xo + k * 5 + 1, none⟩ = some (.int .i64 x.sect) ∧ W'.cell? ⟨xb, xo + k * 5 + 2, none⟩ = some (.int .i64 x.val) ∧ W'.cell? ⟨xb, xo + k * 5 + 3, none⟩ = some (.int .i64 x.frame) ∧ W'.cell? ⟨xb, xo + k * 5 + 4, none⟩ = some (.bool x.glob)))
        clear s0 s1 s2 s3 s4 f0 f1 f2 f3
        refine facts2_ (n := 18) (dst := dst) (F := Fv (fun i => match i with | 0 => some (some (.pointer (some ⟨w.heap.size, 2, none⟩))) | 1 => some (some (.slice (some ⟨xb, xo, none⟩) o.ss.length q2)) | 2 => some (some (.int .i64 (k : Int))) | 3 => some (some (.pointer (some ⟨xb, xo + k * 5, none⟩))) | 4 => some (some (.pointer (some ⟨xb, xo + k * 5, none⟩))) | 5 => some (some (.string x.name)) | 6 => some (some (.bool true)) | 7 => some (some (.bool false)) | 8 => some (some (.bool false)) | 9 => some (some (.agg #[.slice p0 o.ws.length q0, .slice p1 o.ds.length q1, .slice (some ⟨xb, xo, none⟩) o.ss.length q2, .slice p3 o.rs.length q3])) | 10 => some (some (.pointer (some ⟨w.heap.size, 2, none⟩))) | 11 => some (some (.slice (some ⟨xb, xo, none⟩) o.ss.length q2)) | 12 => some (some (.int .i64 (k : Int))) | 13 => some (some (.pointer (some ⟨xb, xo + k * 5, none⟩))) | 14 => some (some (.agg #[.string x.name, .int .i64 x.sect, .int .i64 x.val, .int .i64 x.frame, .bool x.glob])) | 15 => some (some (.bool p)) | 16 => some (some (.bool (!p))) | 17 => some (some (.bool (!p))) | _ => none)) (by kernel_rfl) (ahead_of (by kernel_rfl)) rfl dst_inj (fun _ _ _ _ h _ => h) ?step ?done
        case step =>
          intro i op hop a W1 hM hF
          have hi : i < 18 := (Array.getElem?_eq_some_iff.1 hop).1
          match i, hi with
            | 0, _ =>
              cases hop
              refine op_ rfl rfl ?_
              have t1 : a.tmps[1]?.getD undef = .pointer (some ⟨w.heap.size, 0, none⟩) := (Array.getD_eq_getD_getElem?).symm.trans ((hM.oth 1 (by intro i hi; show 42 + i ≠ _; omega)).trans rfl)
              have HM := Lib.hid hM
              clear hM hF
              go_simp
              exact did_put _ (by rw [HM.out.sz]; exact (by decide : dst 0 < 133)) (Below.refl _ _) (by exact rfl)
            | 1, _ =>
              cases hop
              refine op_ rfl rfl ?_
              have t42 : a.tmps[42]?.getD undef = .pointer (some ⟨w.heap.size, 2, none⟩) := (Array.getD_eq_getD_getElem?).symm.trans (hF ⟨0, .data⟩ (by simp) rfl)
              obtain ⟨f0, f1, f2, f3, g0, g1, g2, g3, g4⟩ := KC.out W1 hM.bel
              have HM := Lib.hid hM
              clear hM hF
              go_simp
              exact did_put _ (by rw [HM.out.sz]; exact (by decide : dst 1 < 133)) (Below.refl _ _) (by exact rfl)
            | 2, _ =>
              cases hop
              refine op_ rfl rfl ?_
              have t3 : a.tmps[3]?.getD undef = .int .i64 (k : Int) := (Array.getD_eq_getD_getElem?).symm.trans ((hM.oth 3 (by intro i hi; show 42 + i ≠ _; omega)).trans rfl)
              have HM := Lib.hid hM
              clear hM hF
              go_simp
              exact did_put _ (by rw [HM.out.sz]; exact (by decide : dst 2 < 133)) (Below.refl _ _) (by exact rfl)
            | 3, _ =>
              cases hop
              refine op_ rfl rfl ?_
              have t43 : a.tmps[43]?.getD undef = .slice (some ⟨xb, xo, none⟩) o.ss.length q2 := (Array.getD_eq_getD_getElem?).symm.trans (hF ⟨1, .data⟩ (by simp) rfl)
              have t44 : a.tmps[44]?.getD undef = .int .i64 (k : Int) := (Array.getD_eq_getD_getElem?).symm.trans (hF ⟨2, .data⟩ (by simp) rfl)
              have HM := Lib.hid hM
              clear hM hF
              go_simp
              exact did_put _ (by rw [HM.out.sz]; exact (by decide : dst 3 < 133)) (Below.refl _ _) (by exact rfl)
            | 4, _ =>
              cases hop
              refine op_ rfl rfl ?_
              have t45 : a.tmps[45]?.getD undef = .pointer (some ⟨xb, xo + k * 5, none⟩) := (Array.getD_eq_getD_getElem?).symm.trans (hF ⟨3, .data⟩ (by simp) rfl)
              have HM := Lib.hid hM
              clear hM hF
              go_simp
              exact did_put _ (by rw [HM.out.sz]; exact (by decide : dst 4 < 133)) (Below.refl _ _) (by exact rfl)
            | 5, _ =>
              cases hop
              refine op_ rfl rfl ?_
              have t46 : a.tmps[46]?.getD undef = .pointer (some ⟨xb, xo + k * 5, none⟩) := (Array.getD_eq_getD_getElem?).symm.trans (hF ⟨4, .data⟩ (by simp) rfl)
              obtain ⟨f0, f1, f2, f3, g0, g1, g2, g3, g4⟩ := KC.out W1 hM.bel
              have HM := Lib.hid hM
              clear hM hF
              go_simp
              exact did_put _ (by rw [HM.out.sz]; exact (by decide : dst 5 < 133)) (Below.refl _ _) (by exact rfl)
            | 6, _ =>
              cases hop
              refine op_ rfl rfl ?_
              have t47 : a.tmps[47]?.getD undef = .string x.name := (Array.getD_eq_getD_getElem?).symm.trans (hF ⟨5, .data⟩ (by simp) rfl)
              have HM := Lib.hid hM
              clear hM hF
              go_simp
              (with_reducible refine (c0 _).mono ?_)
              rintro e W2 ⟨rfl, rfl⟩
              exact did_put _ (by rw [HM.out.sz]; exact (by decide : dst 6 < 133)) (Below.refl _ _) (by exact rfl)
            | 7, _ =>
              cases hop
              refine op_ rfl rfl ?_
              have t48 : a.tmps[48]?.getD undef = .bool true := (Array.getD_eq_getD_getElem?).symm.trans (hF ⟨6, .data⟩ (by simp) rfl)
              have HM := Lib.hid hM
              clear hM hF
              go_simp
              exact did_put _ (by rw [HM.out.sz]; exact (by decide : dst 7 < 133)) (Below.refl _ _) (by exact rfl)
            | 8, _ =>
              cases hop
              refine op_ rfl rfl ?_
              have t49 : a.tmps[49]?.getD undef = .bool false := (Array.getD_eq_getD_getElem?).symm.trans (hF ⟨7, .data⟩ (by simp) rfl)
              have HM := Lib.hid hM
              clear hM hF
              go_simp
              exact did_put _ (by rw [HM.out.sz]; exact (by decide : dst 8 < 133)) (Below.refl _ _) (by exact rfl)
            | 9, _ =>
              cases hop
              have tg : a.tmps[50]?.getD undef = .bool false := (Array.getD_eq_getD_getElem?).symm.trans (hF ⟨8, .guard⟩ (by simp) rfl)
              refine op_g rfl (by simp [Region.wanted, yielded, got tg]) ?_
              clear tg
              have t1 : a.tmps[1]?.getD undef = .pointer (some ⟨w.heap.size, 0, none⟩) := (Array.getD_eq_getD_getElem?).symm.trans ((hM.oth 1 (by intro i hi; show 42 + i ≠ _; omega)).trans rfl)
              obtain ⟨f0, f1, f2, f3, g0, g1, g2, g3, g4⟩ := KC.out W1 hM.bel
              have HM := Lib.hid hM
              clear hM hF
              go_simp
              exact did_put _ (by rw [HM.out.sz]; exact (by decide : dst 9 < 133)) (Below.refl _ _) (by exact rfl)
            | 10, _ =>
              cases hop
              have tg : a.tmps[50]?.getD undef = .bool false := (Array.getD_eq_getD_getElem?).symm.trans (hF ⟨8, .guard⟩ (by simp) rfl)
              refine op_g rfl (by simp [Region.wanted, yielded, got tg]) ?_
              clear tg
              have t1 : a.tmps[1]?.getD undef = .pointer (some ⟨w.heap.size, 0, none⟩) := (Array.getD_eq_getD_getElem?).symm.trans ((hM.oth 1 (by intro i hi; show 42 + i ≠ _; omega)).trans rfl)
              have HM := Lib.hid hM
              clear hM hF
              go_simp
              exact did_put _ (by rw [HM.out.sz]; exact (by decide : dst 10 < 133)) (Below.refl _ _) (by exact rfl)
            | 11, _ =>
              cases hop
              have tg : a.tmps[50]?.getD undef = .bool false := (Array.getD_eq_getD_getElem?).symm.trans (hF ⟨8, .guard⟩ (by simp) rfl)
              refine op_g rfl (by simp [Region.wanted, yielded, got tg]) ?_
              clear tg
              have t52 : a.tmps[52]?.getD undef = .pointer (some ⟨w.heap.size, 2, none⟩) := (Array.getD_eq_getD_getElem?).symm.trans (hF ⟨10, .data⟩ (by simp) rfl)
              obtain ⟨f0, f1, f2, f3, g0, g1, g2, g3, g4⟩ := KC.out W1 hM.bel
              have HM := Lib.hid hM
              clear hM hF
              go_simp
              exact did_put _ (by rw [HM.out.sz]; exact (by decide : dst 11 < 133)) (Below.refl _ _) (by exact rfl)
            | 12, _ =>
              cases hop
              have tg : a.tmps[50]?.getD undef = .bool false := (Array.getD_eq_getD_getElem?).symm.trans (hF ⟨8, .guard⟩ (by simp) rfl)
              refine op_g rfl (by simp [Region.wanted, yielded, got tg]) ?_
              clear tg
              have t3 : a.tmps[3]?.getD undef = .int .i64 (k : Int) := (Array.getD_eq_getD_getElem?).symm.trans ((hM.oth 3 (by intro i hi; show 42 + i ≠ _; omega)).trans rfl)
              have HM := Lib.hid hM
              clear hM hF
              go_simp
              exact did_put _ (by rw [HM.out.sz]; exact (by decide : dst 12 < 133)) (Below.refl _ _) (by exact rfl)
            | 13, _ =>
              cases hop
              have tg : a.tmps[50]?.getD undef = .bool false := (Array.getD_eq_getD_getElem?).symm.trans (hF ⟨8, .guard⟩ (by simp) rfl)
              refine op_g rfl (by simp [Region.wanted, yielded, got tg]) ?_
              clear tg
              have t53 : a.tmps[53]?.getD undef = .slice (some ⟨xb, xo, none⟩) o.ss.length q2 := (Array.getD_eq_getD_getElem?).symm.trans (hF ⟨11, .data⟩ (by simp) rfl)
              have t54 : a.tmps[54]?.getD undef = .int .i64 (k : Int) := (Array.getD_eq_getD_getElem?).symm.trans (hF ⟨12, .data⟩ (by simp) rfl)
              have HM := Lib.hid hM
              clear hM hF
              go_simp
              exact did_put _ (by rw [HM.out.sz]; exact (by decide : dst 13 < 133)) (Below.refl _ _) (by exact rfl)
            | 14, _ =>
              cases hop
              have tg : a.tmps[50]?.getD undef = .bool false := (Array.getD_eq_getD_getElem?).symm.trans (hF ⟨8, .guard⟩ (by simp) rfl)
              refine op_g rfl (by simp [Region.wanted, yielded, got tg]) ?_
              clear tg
              have t55 : a.tmps[55]?.getD undef = .pointer (some ⟨xb, xo + k * 5, none⟩) := (Array.getD_eq_getD_getElem?).symm.trans (hF ⟨13, .data⟩ (by simp) rfl)
              obtain ⟨f0, f1, f2, f3, g0, g1, g2, g3, g4⟩ := KC.out W1 hM.bel
              have HM := Lib.hid hM
              clear hM hF
              go_simp
              exact did_put _ (by rw [HM.out.sz]; exact (by decide : dst 14 < 133)) (Below.refl _ _) (by exact rfl)
            | 15, _ =>
              cases hop
              have tg : a.tmps[50]?.getD undef = .bool false := (Array.getD_eq_getD_getElem?).symm.trans (hF ⟨8, .guard⟩ (by simp) rfl)
              refine op_g rfl (by simp [Region.wanted, yielded, got tg]) ?_
              clear tg
              have t51 : a.tmps[51]?.getD undef = .agg #[.slice p0 o.ws.length q0, .slice p1 o.ds.length q1, .slice (some ⟨xb, xo, none⟩) o.ss.length q2, .slice p3 o.rs.length q3] := (Array.getD_eq_getD_getElem?).symm.trans (hF ⟨9, .data⟩ (by simp) rfl)
              have t56 : a.tmps[56]?.getD undef = .agg #[.string x.name, .int .i64 x.sect, .int .i64 x.val, .int .i64 x.frame, .bool x.glob] := (Array.getD_eq_getD_getElem?).symm.trans (hF ⟨14, .data⟩ (by simp) rfl)
              have HM := Lib.hid hM
              clear hM hF
              go_simp
              (with_reducible refine (c1 _).mono ?_)
              rintro e W2 ⟨rfl, hb⟩
              exact did_put _ (by rw [HM.out.sz]; exact (by decide : dst 15 < 133)) hb (by exact rfl)
            | 16, _ =>
              cases hop
              have tg : a.tmps[50]?.getD undef = .bool false := (Array.getD_eq_getD_getElem?).symm.trans (hF ⟨8, .guard⟩ (by simp) rfl)
              refine op_g rfl (by simp [Region.wanted, yielded, got tg]) ?_
              clear tg
              have t57 : a.tmps[57]?.getD undef = .bool p := (Array.getD_eq_getD_getElem?).symm.trans (hF ⟨15, .data⟩ (by simp) rfl)
              have HM := Lib.hid hM
              clear hM hF
              go_simp
              exact did_put _ (by rw [HM.out.sz]; exact (by decide : dst 16 < 133)) (Below.refl _ _) (by exact rfl)
            | 17, _ =>
              cases hop
              refine op_ rfl rfl ?_
              have t50 : a.tmps[50]?.getD undef = .bool false := (Array.getD_eq_getD_getElem?).symm.trans (hF ⟨8, .data⟩ (by simp) rfl)
              have t58 : a.tmps[58]?.getD undef = .bool (!p) := (Array.getD_eq_getD_getElem?).symm.trans (hF ⟨16, .data⟩ (by simp) rfl)
              have HM := Lib.hid hM
              clear hM hF
              go_simp
              exact did_put _ (by rw [HM.out.sz]; exact (by decide : dst 17 < 133)) (Below.refl _ _) (by exact rfl)
            | i + 18, h => exact absurd h (by omega)
        case done =>
          intro u W1 hbz hF
          have u0 : u 0 = .pointer (some ⟨w.heap.size, 2, none⟩) := hF 0 (by decide)
          have u1 : u 1 = .slice (some ⟨xb, xo, none⟩) o.ss.length q2 := hF 1 (by decide)
          have u2 : u 2 = .int .i64 (k : Int) := hF 2 (by decide)
          have u3 : u 3 = .pointer (some ⟨xb, xo + k * 5, none⟩) := hF 3 (by decide)
          have u4 : u 4 = .pointer (some ⟨xb, xo + k * 5, none⟩) := hF 4 (by decide)
          have u5 : u 5 = .string x.name := hF 5 (by decide)
          have u6 : u 6 = .bool true := hF 6 (by decide)
          have u7 : u 7 = .bool false := hF 7 (by decide)
          have u8 : u 8 = .bool false := hF 8 (by decide)
          have u9 : u 9 = .agg #[.slice p0 o.ws.length q0, .slice p1 o.ds.length q1, .slice (some ⟨xb, xo, none⟩) o.ss.length q2, .slice p3 o.rs.length q3] := hF 9 (by decide)
          have u10 : u 10 = .pointer (some ⟨w.heap.size, 2, none⟩) := hF 10 (by decide)
          have u11 : u 11 = .slice (some ⟨xb, xo, none⟩) o.ss.length q2 := hF 11 (by decide)
          have u12 : u 12 = .int .i64 (k : Int) := hF 12 (by decide)
          have u13 : u 13 = .pointer (some ⟨xb, xo + k * 5, none⟩) := hF 13 (by decide)
          have u14 : u 14 = .agg #[.string x.name, .int .i64 x.sect, .int .i64 x.val, .int .i64 x.frame, .bool x.glob] := hF 14 (by decide)
          have u15 : u 15 = .bool p := hF 15 (by decide)
          have u16 : u 16 = .bool (!p) := hF 16 (by decide)
          have u17 : u 17 = .bool (!p) := hF 17 (by decide)
          simp only [putAll, dst, Nat.reduceAdd, u0, u1, u2, u3, u4, u5, u6, u7, u8, u9, u10, u11, u12, u13, u14, u15, u16, u17]
          clear hF u0 u1 u2 u3 u4 u5 u6 u7 u8 u9 u10 u11 u12 u13 u14 u15 u16 u17
          have hbl1 : Below w.heap.size w W1 := HBL.out.trans (hbz.mono HBL.out.size)
          have HBX1 := Lib.hid ((hbz.block _ hN).trans HBX.out)
          have HBL1 := Lib.hid hbl1
          clear hbl1
          cases p with
          | false =>
            have HC := Lib.hid (show chk o = false from chk_sym HLT.out (by rw [HA.out]; unfold symOk; rw [HP.out]; simp))
            go_simp
            go_wp2
            go_ret
            exact ⟨ret_bool HC.out.symm, HBL1.out⟩
          | true =>
            clear hbz HBX HBL KC
            obtain ⟨wo, rfl⟩ : ∃ wo : World, wo = wr := ⟨_, rfl⟩
            go_simp
            go_wp2_with fail
            go_loopw [4] (fun i wr => ∃ j : Nat, j ≤ k ∧ i = .int .i64 j ∧ Hid (((o.ss.take j).any fun t => decide (t.name = x.name)) = false) ∧ Below w.heap.size w wr ∧ wr.heap[w.heap.size]? = some (.cells #[.slice p0 o.ws.length q0, .slice p1 o.ds.length q1, .slice (some ⟨xb, xo, none⟩) o.ss.length q2, .slice p3 o.rs.length q3] TO (0, 0))) (fun i _ => k - (intOf i).toNat)
            case atStart => exact ⟨0, Nat.zero_le _, rfl, Lib.hid (by simp), HBL1.out, HBX1.out⟩
            case round =>
              clear HBL1 HBX1
              obtain ⟨j, hj, rfl, hz, hbl, hbx⟩ := hrel
              have HZ := hz
              have HBX := Lib.hid hbx
              have HBL := Lib.hid hbl
              have hN3 := lt_heap hbx
              by_cases hjk : j < k
              · have hjl : j < o.ss.length := by omega
                have k0 := HK0.out
                have k1 := (hbl.cell (p := ⟨xb, xo + k * 5, none⟩) (show xb < w.heap.size by have := HXB.out; omega)).trans k0
                have k2 := (hbl.cell (p := ⟨xb, xo + j * 5, none⟩) (show xb < w.heap.size by have := HXB.out; omega)).trans (HROW.out j _ (List.getElem?_eq_getElem hjl)).c0
                have f2 : wr.cell? ⟨w.heap.size, 2, none⟩ = some (.slice (some ⟨xb, xo, none⟩) o.ss.length q2) := Lib.cell_of_heap hbx 2
                have hj1 : (0 : Int) ≤ (j : Int) := by omega
                have HT := Lib.hid (take_any o.ss x.name j hjl)
                by_cases hnn : o.ss[j].name = x.name
                · have HC := Lib.hid (show chk o = false from chk_sym HLT.out (by rw [HA.out, take_yes hjl hjk hnn]; rfl))
                  clear HT
                  rw [hnn] at k2
                  clear hnn k0 hz hbl hbx
                  go_upto_region 11 with fail
                  go_quiet (fail)
                  go_wp2
                  go_ret
                  exact ⟨ret_bool HC.out.symm, HBL.out.trans ⟨rfl, rfl, rfl, Nat.le_refl _, fun _ _ => rfl⟩⟩
                · have HZ2 := Lib.hid (show ((o.ss.take (j + 1)).any fun t => decide (t.name = x.name)) = false by rw [HT.out, HZ.out]; simpa using hnn)
                  clear HT
                  generalize o.ss[j].name = y at *
                  have hne := toList_ne hnn
                  clear k0 hz hbl hbx
                  go_upto_region 11 with fail
                  go_quiet (fail)
                  go_wp2_with fail
                  go_roundw
                  case rel => exact ⟨j + 1, by omega, by go_num, HZ2, HBL.out.trans ⟨rfl, rfl, rfl, Nat.le_refl _, fun _ _ => rfl⟩, HBX.out⟩
                  case measure => simp [intOf]; omega
              · obtain rfl : j = k := by omega
                have HC := Lib.hid (show symsTo o.ws.length o.ds.length o.ss (j + 1) = true by rw [symsTo_succ, HQ.out, HA.out, HZ.out]; unfold symOk; rw [HB1.out, HP.out]; rfl)
                clear hz hbl hbx
                go_wp2_with fail
                go_roundw
                case rel => exact ⟨j + 1, by omega, by go_num, HC, HBL.out, HBX.out⟩
                case measure => simp [intOf]; omega
    · obtain rfl : k = o.ss.length := by omega
      have HQ := hq
      have y3 : wr.cell? ⟨w.heap.size, 3, none⟩ = some (.slice p3 o.rs.length q3) := Lib.cell_of_heap hbx 3
      have HB0 := Lib.hid hbl
      have HX0 := Lib.hid hbx
      clear hq hbl hbx
      obtain ⟨wo, rfl⟩ : ∃ wo : World, wo = wr := ⟨_, rfl⟩
      go_wp2_with fail
      go_loopw [82] (fun i wr => ∃ k : Nat, k ≤ o.rs.length ∧ i = .int .i64 k ∧ Hid (relsTo o.ws o.ds.length o.ss.length o.rs k = true) ∧ Below w.heap.size w wr ∧ wr.heap[w.heap.size]? = some (.cells #[.slice p0 o.ws.length q0, .slice p1 o.ds.length q1, .slice p2 o.ss.length q2, .slice p3 o.rs.length q3] TO (0, 0))) (fun i _ => o.rs.length - (intOf i).toNat)
      case atStart => exact ⟨0, Nat.zero_le _, rfl, Lib.hid rfl, HB0.out, HX0.out⟩
      case round =>
        clear y3 HB0 HX0
        obtain ⟨k, hk, rfl, hq, hbl, hbx⟩ := hrel
        by_cases hlt : k < o.rs.length
        · obtain ⟨pp, c, hv, hh⟩ := HO.out.rs
          cases hv
          obtain ⟨rb, ro, rfl, hrb, -, -, hrow⟩ := hh (by omega)
          have hr0 := hrow k _ (List.getElem?_eq_getElem hlt)
          have HLT := Lib.hid hlt
          have hN := lt_heap hbx
          have hsz := hbl.size
          have hrw : rb < wr.heap.size := by omega
          obtain ⟨s0, s1, s2, s3, s4⟩ := hr0.below (hbl.mono hn) hrb
          obtain ⟨f0, f1, f2, f3⟩ : wr.cell? ⟨w.heap.size, 0, none⟩ = some (.slice p0 o.ws.length q0) ∧ wr.cell? ⟨w.heap.size, 1, none⟩ = some (.slice p1 o.ds.length q1) ∧ wr.cell? ⟨w.heap.size, 2, none⟩ = some (.slice p2 o.ss.length q2) ∧ wr.cell? ⟨w.heap.size, 3, none⟩ = some (.slice (some ⟨rb, ro, none⟩) o.rs.length q3) :=
            ⟨Lib.cell_of_heap hbx 0, Lib.cell_of_heap hbx 1, Lib.cell_of_heap hbx 2, Lib.cell_of_heap hbx 3⟩
          have HBX := Lib.hid hbx
          have HBL := Lib.hid hbl
          have HQ2 := hq
          have hk1 : (0 : Int) ≤ (k : Int) := by omega
          have HROW := Lib.hid hrow
          have HRB := Lib.hid hrb
          have c1 := fun w' (hb : Below wr.heap.size wr w') => SB.relocation_ (n₀ := n₀) (nd := o.ds.length) (ns := o.ss.length) (n3 := o.rs.length) (q1 := q1) (q2 := q2) (q3 := q3) (p1 := p1) (p2 := p2) (p3 := some ⟨rb, ro, none⟩) o.rs[k] w' HW.out.ws (HO.out.below ((HBL.out.trans (hb.mono HBL.out.size)).mono hn)).ws (Nat.le_trans hn (Nat.le_trans hsz hb.size)) (by unfold maxLen; omega) (by unfold maxLen; omega)
          have c2 := c1 (wr.alloc (.cells #[.int .i64 o.rs[k].sect, .int .i64 o.rs[k].place, .int .i64 o.rs[k].kind, .int .i64 o.rs[k].sym, .int .i64 o.rs[k].add] 77)) (box0 _ _)
          clear hrow hh hr0 hq hbx hbl c1
          by_cases hz0 : k = 0
          · have HA := Lib.hid (show relAt o.ws o.ds.length o.ss.length o.rs k = relOk o.ws o.ds.length o.ss.length o.rs[k] by subst hz0; exact relAt_zero hlt)
            have HS := Lib.hid (relsTo_succ o.ws o.ds.length o.ss.length o.rs k)
            have HZ0 := Lib.hid hz0
            clear hz0
            generalize o.rs[k] = r at *
            cases hp : relOk o.ws o.ds.length o.ss.length r with
            | false =>
              have HC := Lib.hid (show chk o = false from chk_rel HLT.out (by rw [HA.out, hp]))
              rw [hp] at c2
              clear hp
              go_wp2_with (go_at_call 57; (with_reducible refine c2.mono ?_); rintro e w2 ⟨rfl, hb3⟩; have HB3 := Lib.hid hb3; clear hb3)
              go_ret
              exact ⟨ret_bool HC.out.symm, HBL.out.trans ((((box0 wr _)).trans (HB3.out.mono (by simp))).mono HBL.out.size)⟩
            | true =>
              have HC := Lib.hid (show relsTo o.ws o.ds.length o.ss.length o.rs (k + 1) = true by rw [HS.out, HQ2.out, HA.out, hp]; rfl)
              rw [hp] at c2
              clear hp
              go_upto_region 20 with (go_at_call 57; (with_reducible refine c2.mono ?_); rintro e w2 ⟨rfl, hb3⟩; have HB3 := Lib.hid hb3; clear hb3)
              have hd0 : decide ((0 : Int) < (k : Int)) = false := decide_eq_false (by have := HZ0.out; omega)
              have hd1 : decide (0 < k) = false := decide_eq_false (by have := HZ0.out; omega)
              have hbz : Below wr.heap.size wr w2 := (box0 wr _).trans (HB3.out.mono (by simp))
              have HBZ := Lib.hid hbz
              clear hbz
              go_quiet (fail)
              go_wp2_with fail
              go_roundw
              case rel => exact ⟨k + 1, by omega, by go_num, HC, (HBL.out.trans (HBZ.out.mono HBL.out.size)).trans ⟨rfl, rfl, rfl, Nat.le_refl _, fun _ _ => rfl⟩, (HBZ.out.block _ hN).trans HBX.out⟩
              case measure => simp [intOf]; omega
          · obtain ⟨m, hkm⟩ : ∃ m, k = m + 1 := ⟨k - 1, by omega⟩
            have hml : m < o.rs.length := by omega
            have HA := Lib.hid (show relAt o.ws o.ds.length o.ss.length o.rs k = (riseB o.rs[m] o.rs[k] && relOk o.ws o.ds.length o.ss.length o.rs[k]) by subst hkm; exact relAt_succ hlt)
            have HS := Lib.hid (relsTo_succ o.ws o.ds.length o.ss.length o.rs k)
            have HM0 := Lib.hid (HROW.out m _ (List.getElem?_eq_getElem hml))
            have HKM := Lib.hid hkm
            have hm2 : (k : Int) - 1 = (m : Int) := by omega
            clear hkm hz0
            generalize o.rs[k] = r at *
            generalize o.rs[m] = q at *
            cases hp : relOk o.ws o.ds.length o.ss.length r with
            | false =>
              have HC := Lib.hid (show chk o = false from chk_rel HLT.out (by rw [HA.out, hp]; simp))
              rw [hp] at c2
              clear hp
              go_wp2_with (go_at_call 57; (with_reducible refine c2.mono ?_); rintro e w2 ⟨rfl, hb3⟩; have HB3 := Lib.hid hb3; clear hb3)
              go_ret
              exact ⟨ret_bool HC.out.symm, HBL.out.trans ((((box0 wr _)).trans (HB3.out.mono (by simp))).mono HBL.out.size)⟩
            | true =>
              rw [hp] at c2
              have HP := Lib.hid hp
              clear hp
              go_upto_region 20 with (go_at_call 57; (with_reducible refine c2.mono ?_); rintro e w2 ⟨rfl, hb3⟩; have HB3 := Lib.hid hb3; clear hb3)
              have hd0 : decide ((0 : Int) < (k : Int)) = true := decide_eq_true (by have := HKM.out; omega)
              have hd1 : decide (0 < k) = true := decide_eq_true (by have := HKM.out; omega)
              have hbz : Below wr.heap.size wr w2 := (box0 wr _).trans (HB3.out.mono (by simp))
              have HBZ := Lib.hid hbz
              have hrow2 := HM0.out.below ((HBL.out.trans (hbz.mono HBL.out.size)).mono hn) HRB.out
              obtain ⟨m0, m1, -, -, -⟩ := hrow2
              have f3' : w2.cell? ⟨w.heap.size, 3, none⟩ = some (.slice (some ⟨rb, ro, none⟩) o.rs.length q3) := (hbz.cell (p := ⟨w.heap.size, 3, none⟩) hN).trans f3
              have e0 : w2.cell? ⟨wr.heap.size, 0, none⟩ = some (.int .i64 r.sect) := Lib.cell_of_heap ((HB3.out.block _ (by simp)).trans (heap_alloc_new _ _)) 0
              have e1 : w2.cell? ⟨wr.heap.size, 1, none⟩ = some (.int .i64 r.place) := Lib.cell_of_heap ((HB3.out.block _ (by simp)).trans (heap_alloc_new _ _)) 1
              have hm1 : (0 : Int) ≤ (m : Int) := by omega
              clear hbz s0 s1 s2 s3 s4 f0 f1 f2 f3
              obtain ⟨rs0, rs1, rs2, rs3, rs4⟩ := r
              obtain ⟨qs0, qs1, qs2, qs3, qs4⟩ := q
              simp only at m0 m1 e0 e1
              by_cases a1 : rs0 < qs0
              · have j1 : decide (rs0 < qs0) = true := decide_eq_true a1
                have HC := Lib.hid (show chk o = false from chk_rel HLT.out (by rw [HA.out, show riseB ⟨qs0, qs1, qs2, qs3, qs4⟩ ⟨rs0, rs1, rs2, rs3, rs4⟩ = false from decide_eq_false (by simp only; omega)]; rfl))
                go_quiet (fail)
                go_wp2
                go_ret
                exact ⟨ret_bool HC.out.symm, (HBL.out.trans (HBZ.out.mono HBL.out.size)).trans ⟨rfl, rfl, rfl, Nat.le_refl _, fun _ _ => rfl⟩⟩
              · have j1 : decide (rs0 < qs0) = false := decide_eq_false a1
                by_cases a2 : rs0 = qs0
                · subst a2
                  by_cases a3 : rs1 ≤ qs1
                  · have j3 : decide (rs1 ≤ qs1) = true := decide_eq_true a3
                    have HC := Lib.hid (show chk o = false from chk_rel HLT.out (by rw [HA.out, show riseB ⟨rs0, qs1, qs2, qs3, qs4⟩ ⟨rs0, rs1, rs2, rs3, rs4⟩ = false from decide_eq_false (by simp only; omega)]; rfl))
                    go_quiet (fail)
                    go_wp2
                    go_ret
                    exact ⟨ret_bool HC.out.symm, (HBL.out.trans (HBZ.out.mono HBL.out.size)).trans ⟨rfl, rfl, rfl, Nat.le_refl _, fun _ _ => rfl⟩⟩
                  · have j3 : decide (rs1 ≤ qs1) = false := decide_eq_false a3
                    have HC := Lib.hid (show relsTo o.ws o.ds.length o.ss.length o.rs (k + 1) = true by rw [HS.out, HQ2.out, HA.out, HP.out, show riseB ⟨rs0, qs1, qs2, qs3, qs4⟩ ⟨rs0, rs1, rs2, rs3, rs4⟩ = true from decide_eq_true (Or.inr ⟨rfl, by simp only; omega⟩)]; rfl)
                    go_quiet (fail)
                    go_wp2_with fail
                    go_roundw
                    case rel => exact ⟨k + 1, by omega, by go_num, HC, (HBL.out.trans (HBZ.out.mono HBL.out.size)).trans ⟨rfl, rfl, rfl, Nat.le_refl _, fun _ _ => rfl⟩, (HBZ.out.block _ hN).trans HBX.out⟩
                    case measure => simp [intOf]; omega
                · have j2 : (rs0 == qs0) = false := by simpa using a2
                  have HC := Lib.hid (show relsTo o.ws o.ds.length o.ss.length o.rs (k + 1) = true by rw [HS.out, HQ2.out, HA.out, HP.out, show riseB ⟨qs0, qs1, qs2, qs3, qs4⟩ ⟨rs0, rs1, rs2, rs3, rs4⟩ = true from decide_eq_true (by simp only; omega)]; rfl)
                  go_quiet (fail)
                  go_wp2_with fail
                  go_roundw
                  case rel => exact ⟨k + 1, by omega, by go_num, HC, (HBL.out.trans (HBZ.out.mono HBL.out.size)).trans ⟨rfl, rfl, rfl, Nat.le_refl _, fun _ _ => rfl⟩, (HBZ.out.block _ hN).trans HBX.out⟩
                  case measure => simp [intOf]; omega
        · obtain rfl : k = o.rs.length := by omega
          have HC := Lib.hid (show chk o = true from chk_yes HL.out HQ.out hq.out)
          have HBL := Lib.hid hbl
          clear hq hbl hbx
          go_wp2
          go_ret
          exact ⟨ret_bool HC.out.symm, HBL.out⟩
theorem good_ {w : World} {n₀ : Nat} {v0 v1 v2 v3 : Value} {o : ObjV} (hn : n₀ ≤ w.heap.size) (ho : ObjAt n₀ w v0 v1 v2 v3 o) (hw : o.Wf) (hm : o.ws.length ≤ maxLen ∧ o.ds.length ≤ maxLen ∧ o.ss.length ≤ maxLen ∧ o.rs.length ≤ maxLen) :
    Calls Try.prog 30 #[.agg #[v0, v1, v2, v3]] w fun e w' => e = .returned (.bool (chk o)) ∧ Below w.heap.size w w' := by
  cases hl : lensB o with
  | true => exact good_lens hn ho hw hl
  | false =>
    rw [chk_lens hl]
    obtain ⟨p0, q0, rfl, -⟩ := ho.ws
    obtain ⟨p1, q1, rfl, -⟩ := ho.ds
    obtain ⟨p2, q2, rfl, -⟩ := ho.ss
    obtain ⟨p3, q3, rfl, -⟩ := ho.rs
    refine lens_no w hm.1 hm.2.1 hm.2.2.1 hm.2.2.2 fun h => ?_
    have : lensB o = true := by
      unfold lensB
      rw [decide_eq_true (⟨h.1, h.2.1, h.2.2.1⟩ : _ ∧ _ ∧ _), decide_eq_true (⟨h.2.2.2.1, h.2.2.2.2⟩ : _ ∧ _)]; rfl
    rw [hl] at this; cases this
end SC
end Go.Proofs.Ytieehjkmfmkfjaa
/-
  Package solderref06's defines and Find: contracts. Condition: the objects lie in memory.
-/
namespace Go.Proofs.Ytieehjkmfmkfjaa
open Go.RowKit
set_option linter.unusedVariables false
set_option linter.unusedSimpArgs false
namespace SD
open OO OJ OM OU RsM RsP SC
set_option maxRecDepth 100000 in
set_option maxHeartbeats 8000000 in
theorem defines_ (s : SymV) (nm : ByteArray) (w : World) :
    Calls Try.prog 32 #[.agg #[.string s.name, .int .i64 s.sect, .int .i64 s.val, .int .i64 s.frame, .bool s.glob], .string nm] w fun e w' => e = .returned (.bool (defs s && decide (s.name = nm))) ∧ Below w.heap.size w w' := by
  obtain ⟨sn, sc, vl, fr, gl⟩ := s
  simp only
  by_cases e1 : sc = 0
  all_goals by_cases e2 : sn = nm
  all_goals cases gl
  all_goals
    have HE := Lib.hid (⟨e1, e2⟩ : _ ∧ _)
    have hne : (sn.toList == nm.toList) = decide (sn = nm) := by
      by_cases h : sn = nm
      · subst h; simp
      · rw [toList_ne h]; simp [h]
    first
      | rw [decide_eq_true e2] at hne
      | rw [decide_eq_false e2] at hne
    clear e2
    go_enter Try.func32, Try.ntmps32
    go_wp2
    go_ret
    exact ⟨ret_bool (by have := HE.out; unfold defs; simp [this.1, this.2]), box0 _ _⟩
theorem row_get {objs : List ObjV} {k j : Nat} (hk : k < objs.length) (hj : j < objs[k].ss.length) : (row objs k)[j]? = some ⟨k, j, objs[k].ss[j]⟩ := by
  unfold row
  rw [ssAt_eq hk, List.getElem?_map, List.getElem?_range hj, Option.map_some, List.getD_eq_getElem?_getD, List.getElem?_eq_getElem hj]
  rfl
theorem row_take {objs : List ObjV} {k j : Nat} (hk : k < objs.length) (hj : j < objs[k].ss.length) : (row objs k).take (j + 1) = (row objs k).take j ++ [⟨k, j, objs[k].ss[j]⟩] := by
  have hl : j < (row objs k).length := by rw [row_length, ssAt_eq hk]; exact hj
  rw [List.take_succ_eq_append_getElem hl]
  have := row_get hk hj
  rw [List.getElem?_eq_getElem hl] at this
  rw [Option.some.inj this]
theorem row_all {objs : List ObjV} {k : Nat} (hk : k < objs.length) : (row objs k).take objs[k].ss.length = row objs k := by
  apply List.take_of_length_le
  rw [row_length, ssAt_eq hk]
  exact Nat.le_refl _
theorem look_next {objs : List ObjV} {k j : Nat} {nm : ByteArray} (hk : k < objs.length) (hj : j < objs[k].ss.length) (h0 : RsP.look (flatTo objs k ++ (row objs k).take j) nm = none) (hd : (defs objs[k].ss[j] && decide (objs[k].ss[j].name = nm)) = false) :
    RsP.look (flatTo objs k ++ (row objs k).take (j + 1)) nm = none := by
  rw [row_take hk hj, ← List.append_assoc, look_snoc, h0, hd]; rfl
theorem look_hit {objs : List ObjV} {k j : Nat} {nm : ByteArray} (hk : k < objs.length) (hj : j < objs[k].ss.length) (h0 : RsP.look (flatTo objs k ++ (row objs k).take j) nm = none) (hd : (defs objs[k].ss[j] && decide (objs[k].ss[j].name = nm)) = true) :
    RsP.look (flat objs) nm = some ⟨k, j, objs[k].ss[j]⟩ := by
  obtain ⟨R, hR⟩ := flat_split objs k objs.length hk
  have h1 : RsP.look (flatTo objs k ++ (row objs k).take (j + 1)) nm = some ⟨k, j, objs[k].ss[j]⟩ := by
    rw [row_take hk hj, ← List.append_assoc, look_snoc, h0, hd]; rfl
  have h2 : flat objs = (flatTo objs k ++ (row objs k).take (j + 1)) ++ ((row objs k).drop (j + 1) ++ R) := by
    unfold flat
    rw [hR, List.append_assoc, ← List.append_assoc (List.take _ _), List.take_append_drop]
  rw [h2]
  unfold RsP.look at h1 ⊢
  rw [List.find?_append, h1]
  rfl
theorem frz {w : World} {b : Nat} {cs : Array Value} {T : TypeId} (h : w.heap[b]? = some (.cells cs T (0, 0))) (j : Nat) : w.frozen? ⟨b, j, none⟩ = false := by simp [World.frozen?, h]
def fI (objs : List ObjV) (nm : ByteArray) : Int := match RsP.look (flat objs) nm with | some x => x.i | none => 0
def fK (objs : List ObjV) (nm : ByteArray) : Int := match RsP.look (flat objs) nm with | some x => x.k | none => 0
def fB (objs : List ObjV) (nm : ByteArray) : Bool := (RsP.look (flat objs) nm).isSome
set_option maxRecDepth 100000 in
set_option maxHeartbeats 8000000 in
/-- the first definer of a name -/
theorem Find_ {w : World} {n₀ : Nat} {v : Value} {objs : List ObjV} (nm : ByteArray) (hn : n₀ ≤ w.heap.size) (h : ObjsAt n₀ w v objs) :
    Calls Try.prog 31 #[v, .string nm] w fun e w' => e = .returned (.tuple #[.agg #[.int .i64 (fI objs nm), .int .i64 (fK objs nm)], .bool (fB objs nm)]) ∧ Below w.heap.size w w' := by
  obtain ⟨p, c, rfl, hh⟩ := h
  have hlm : objs.length ≤ maxLen := by
    by_cases hz : 0 < objs.length
    · obtain ⟨b, o, -, -, k1, k2, -⟩ := hh hz; exact Nat.le_trans k1 k2
    · omega
  unfold maxLen at hlm
  have HH := Lib.hid hh
  clear hh
  go_enter Try.func31, Try.ntmps31
  go_upto_region 1 with fail
  have HX0 := Lib.hid (heap_alloc_new w (.cells #[.int .i64 0, .int .i64 0] 39))
  have HB0 := Lib.hid (box0 w (.cells #[.int .i64 0, .int .i64 0] 39))
  generalize w.alloc (.cells #[.int .i64 0, .int .i64 0] 39) = W0 at *
  go_wp2_with fail
  go_loopw [10] (fun i wr => ∃ k : Nat, k ≤ objs.length ∧ i = .int .i64 k ∧ Hid (RsP.look (flatTo objs k) nm = none) ∧ Below w.heap.size w wr ∧ wr.heap[w.heap.size]? = some (.cells #[.int .i64 0, .int .i64 0] 39 (0, 0))) (fun i _ => objs.length - (intOf i).toNat)
  case atStart => exact ⟨0, Nat.zero_le _, rfl, Lib.hid (by simp [flatTo, RsP.look]), HB0.out, HX0.out⟩
  case round =>
    clear HB0 HX0
    obtain ⟨k, hk, rfl, hq, hbl, hbx⟩ := hrel
    have HQ := hq
    have HBX := Lib.hid hbx
    have HBL := Lib.hid hbl
    have hN := lt_heap hbx
    by_cases hlt : k < objs.length
    · obtain ⟨b, o, rfl, hb, -, -, hin⟩ := HH.out (by omega)
      obtain ⟨v0, v1, v2, v3, -, -, c2, -, ho⟩ := hin k _ (List.getElem?_eq_getElem hlt)
      obtain ⟨ps, cs, rfl, hss⟩ := ho.ss
      have hbw : b < w.heap.size := by omega
      have hls : objs[k].ss.length ≤ 2 ^ 63 - 1 := by
        by_cases hz : 0 < objs[k].ss.length
        · obtain ⟨b, o, -, -, k1, k2, -⟩ := hss hz; exact Nat.le_trans k1 k2
        · omega
      have g2 : wr.cell? ⟨b, o + k * 4 + 2, none⟩ = some (.slice ps objs[k].ss.length cs) := (hbl.cell (p := ⟨b, o + k * 4 + 2, none⟩) hbw).trans c2
      have hk1 : (0 : Int) ≤ (k : Int) := by omega
      have HC2 := Lib.hid c2
      have HSS := Lib.hid hss
      clear hq hbl hbx c2 hss hin ho
      obtain ⟨wo, rfl⟩ : ∃ wo : World, wo = wr := ⟨_, rfl⟩
      go_wp2_with fail
      go_loopw [19] (fun i wr => ∃ j : Nat, j ≤ objs[k].ss.length ∧ i = .int .i64 j ∧ Hid (RsP.look (flatTo objs k ++ (row objs k).take j) nm = none) ∧ Below w.heap.size w wr ∧ wr.heap[w.heap.size]? = some (.cells #[.int .i64 0, .int .i64 0] 39 (0, 0))) (fun i _ => objs[k].ss.length - (intOf i).toNat)
      case atStart => exact ⟨0, Nat.zero_le _, rfl, Lib.hid (by simpa using HQ.out), HBL.out, HBX.out⟩
      case round =>
        clear g2 HBL HBX
        obtain ⟨j, hj, rfl, hz, hbl, hbx⟩ := hrel
        have HZ := hz
        have HBX := Lib.hid hbx
        have HBL := Lib.hid hbl
        have hN2 := lt_heap hbx
        by_cases hjl : j < objs[k].ss.length
        · obtain ⟨sb, so, rfl, hsb, -, -, hrow⟩ := HSS.out (by omega)
          obtain ⟨s0, s1, s2, s3, s4⟩ := (hrow j _ (List.getElem?_eq_getElem hjl)).below (hbl.mono hn) hsb
          have g2 : wr.cell? ⟨b, o + k * 4 + 2, none⟩ = some (.slice (some ⟨sb, so, none⟩) objs[k].ss.length cs) := (hbl.cell (p := ⟨b, o + k * 4 + 2, none⟩) hbw).trans HC2.out
          have hj1 : (0 : Int) ≤ (j : Int) := by omega
          have c1 := fun w' => defines_ objs[k].ss[j] nm w'
          have HNX := Lib.hid (look_next (nm := nm) hlt hjl HZ.out)
          have HHT := Lib.hid (look_hit (nm := nm) hlt hjl HZ.out)
          clear hz hbl hbx hrow
          generalize objs[k].ss[j] = s at *
          cases hp : (defs s && decide (s.name = nm)) with
          | true =>
            have HF := Lib.hid (HHT.out hp)
            rw [hp] at c1
            clear hp HNX HHT
            go_wp2_with (go_at_call 32; (with_reducible refine (c1 _).mono ?_); rintro e w2 ⟨rfl, hb3⟩; have h6 := (hb3.block _ hN2).trans HBX.out; have k0 := Lib.cell_of_heap h6 0; have k1 := Lib.cell_of_heap h6 1; have z0 := frz h6 0; have z1 := frz h6 1; simp only [List.getElem?_toArray, List.getElem?_cons_zero, List.getElem?_cons_succ] at k0 k1; have H6 := Lib.hid h6; clear h6; have HB3 := Lib.hid hb3; clear hb3)
            refine bodyPost_ret (v := .tuple #[.agg #[.int .i64 k, .int .i64 j], .bool true]) (by simp [results, Try.results31, go_sem, k0, k1]) rfl ?_
            exact ⟨by unfold fI fK fB; rw [HF.out]; rfl, ((HBL.out.trans (HB3.out.mono HBL.out.size)).setCell (p := ⟨_, 0, none⟩) (Nat.le_refl _) _).setCell (p := ⟨_, 1, none⟩) (Nat.le_refl _) _⟩
          | false =>
            have HF := Lib.hid (HNX.out hp)
            rw [hp] at c1
            clear hp HNX HHT
            go_wp2_with (go_at_call 32; (with_reducible refine (c1 _).mono ?_); rintro e w2 ⟨rfl, hb3⟩; have HB3 := Lib.hid hb3; clear hb3)
            go_roundw
            case rel => exact ⟨j + 1, by omega, by go_num, HF, HBL.out.trans (HB3.out.mono HBL.out.size), (HB3.out.block _ hN2).trans HBX.out⟩
            case measure => simp [intOf]; omega
        · obtain rfl : j = objs[k].ss.length := by omega
          have HF := Lib.hid (show RsP.look (flatTo objs (k + 1)) nm = none by have := HZ.out; rwa [row_all hlt, ← flatTo_succ] at this)
          clear hz hbl hbx
          go_wp2_with fail
          go_roundw
          case rel => exact ⟨k + 1, by omega, by go_num, HF, HBL.out, HBX.out⟩
          case measure => simp [intOf]; omega
    · obtain rfl : k = objs.length := by omega
      have k0 := Lib.cell_of_heap hbx 0
      have k1 := Lib.cell_of_heap hbx 1
      have z0 := frz hbx 0
      have z1 := frz hbx 1
      simp only [List.getElem?_toArray, List.getElem?_cons_zero, List.getElem?_cons_succ] at k0 k1
      clear hq hbl hbx
      go_wp2
      refine bodyPost_ret (v := .tuple #[.agg #[.int .i64 0, .int .i64 0], .bool false]) (by simp [results, Try.results31, go_sem, k0, k1]) rfl ?_
      exact ⟨by unfold fI fK fB flat; rw [HQ.out]; rfl, (HBL.out.setCell (p := ⟨_, 0, none⟩) (Nat.le_refl _) _).setCell (p := ⟨_, 1, none⟩) (Nat.le_refl _) _⟩
end SD
end Go.Proofs.Ytieehjkmfmkfjaa
/-
  An object more that hands nothing out: what Resolve means of the others. It speaks of no program.
-/
namespace Go.Proofs.Ytieehjkmfmkfjaa
open Go.RowKit Go.Maps
set_option linter.unusedVariables false
set_option linter.unusedSimpArgs false
namespace RsE
open OO OJ RsM RsP RsS RsT RsY RsQ OCk
theorem ssAt_left {objs more : List ObjV} {i : Nat} (h : i < objs.length) : ssAt (objs ++ more) i = ssAt objs i := by
  have e := List.getElem?_eq_getElem h
  rw [ssAt_some e, ssAt_some (objs := objs ++ more) (o := objs[i]) (by rw [List.getElem?_append_left h]; exact e)]
theorem row_left {objs more : List ObjV} {i : Nat} (h : i < objs.length) : row (objs ++ more) i = row objs i := by
  unfold row; rw [ssAt_left h]
theorem flatTo_left {objs more : List ObjV} : ∀ i, i ≤ objs.length → flatTo (objs ++ more) i = flatTo objs i
  | 0, _ => by simp [flatTo]
  | i + 1, h => by rw [flatTo_succ, flatTo_succ, flatTo_left i (by omega), row_left (by omega)]
theorem flat_snoc (objs : List ObjV) (m : ObjV) : flat (objs ++ [m]) = flat objs ++ row (objs ++ [m]) objs.length := by
  unfold flat
  rw [List.length_append, show objs.length + [m].length = objs.length + 1 from rfl, flatTo_succ, flatTo_left _ (Nat.le_refl _)]
theorem look_more {l r : List Ent} (hr : ∀ x ∈ r, defs x.s = false) (n : ByteArray) : RsP.look (l ++ r) n = RsP.look l n := by
  unfold RsP.look
  rw [List.find?_append]
  have : r.find? (fun x => defs x.s && decide (x.s.name = n)) = none := List.find?_eq_none.2 fun x hx => by rw [hr x hx]; simp
  rw [this]
  cases l.find? (fun x => defs x.s && decide (x.s.name = n)) <;> rfl
theorem again_more {l : List Ent} : ∀ r : List Ent, (∀ x ∈ r, defs x.s = false) → againL (l ++ r) = againL l := by
  intro r
  induction r using snoc_ind with
  | nil => intro _; rw [List.append_nil]
  | append_singleton r x ih =>
    intro h
    rw [← List.append_assoc, againL_snoc, ih fun y hy => h y (List.mem_append_left _ hy), h x (by simp)]
    simp
theorem tgI_more {l r : List Ent} (hr : ∀ x ∈ r, defs x.s = false) (x : Ent) : tgI (l ++ r) x = tgI l x := by
  unfold tgI
  rw [look_more hr]
theorem bad_more {l r : List Ent} (hr : ∀ x ∈ r, defs x.s = false) (x : Ent) : RsT.bad (l ++ r) x = RsT.bad l x := by
  unfold RsT.bad
  rw [tgI_more hr]
theorem tgs_more {l r : List Ent} (hr : ∀ x ∈ r, defs x.s = false) (x : Ent) : tgs (l ++ r) x = tgs l x := by
  unfold tgs
  rw [tgI_more hr]
theorem find_more {l r : List Ent} (hr : ∀ x ∈ r, defs x.s = false) (hs : ∀ x ∈ r, x.s.sect ≠ 0) : (l ++ r).find? (RsT.bad (l ++ r)) = l.find? (RsT.bad l) := by
  have e : RsT.bad (l ++ r) = RsT.bad l := funext fun x => bad_more hr x
  rw [e, List.find?_append]
  have : r.find? (RsT.bad l) = none := List.find?_eq_none.2 fun x hx => by
    unfold RsT.bad tgI
    rw [if_neg (hs x hx)]
    simp
  rw [this]
  cases l.find? (RsT.bad l) <;> rfl
/-- the symbols of the object more -/
theorem row_more {objs : List ObjV} {m : ObjV} {P : SymV → Prop} (h : ∀ s ∈ m.ss, P s) : ∀ x ∈ row (objs ++ [m]) objs.length, P x.s := by
  intro x hx
  have := (mem_row.1 hx).2
  rw [ssAt_some (o := m) (by simp)] at this
  exact h _ (List.mem_of_getElem? this)
theorem none_more {objs : List ObjV} {m : ObjV} (h : chk m = true) : 0 ≤ noneFrom (objs ++ [m]) 0 ↔ 0 ≤ noneFrom objs 0 := by
  rw [none_iff, none_iff]
  constructor
  · rintro ⟨o, ho, hc⟩
    rcases List.mem_append.1 ho with ho | ho
    · exact ⟨o, ho, hc⟩
    · rw [List.mem_singleton.1 ho, h] at hc; cases hc
  · rintro ⟨o, ho, hc⟩
    exact ⟨o, List.mem_append_left _ ho, hc⟩
/-- the error is the same -/
theorem code_more {objs : List ObjV} {m : ObjV} (hc : chk m = true) (hd : ∀ s ∈ m.ss, defs s = false) (hs : ∀ s ∈ m.ss, s.sect ≠ 0) : resCode (objs ++ [m]) = resCode objs := by
  have hr := row_more (objs := objs) hd
  have hr2 := row_more (objs := objs) hs
  unfold resCode
  rw [flat_snoc, again_more _ hr, find_more hr hr2]
  by_cases h0 : 0 ≤ noneFrom objs 0
  · rw [if_pos h0, if_pos ((none_more hc).2 h0)]
  · rw [if_neg h0, if_neg (fun h => h0 ((none_more hc).1 h))]
/-- and so are the targets -/
theorem rows_more {objs : List ObjV} {m : ObjV} (hd : ∀ s ∈ m.ss, defs s = false) {i : Nat} (hi : i < objs.length) :
    RsT.rowAt (flat (objs ++ [m])) (flat (objs ++ [m])) i = RsT.rowAt (flat objs) (flat objs) i := by
  have hr := row_more (objs := objs) hd
  rw [rowAt_row hi, rowAt_row (by rw [List.length_append]; omega), row_left hi]
  refine List.map_congr_left fun x _ => ?_
  rw [flat_snoc, tgs_more hr]
end RsE
end Go.Proofs.Ytieehjkmfmkfjaa
/-
  What a target is, plainly: a symbol that is defined and bears the name; and when nothing is needed. It speaks of no program.
-/
namespace Go.Proofs.Ytieehjkmfmkfjaa
open Go.RowKit Go.Maps
set_option linter.unusedVariables false
set_option linter.unusedSimpArgs false
namespace RsZ
open OO OJ RsM RsP RsS RsT RsY RsQ RsB RsJ OCk
theorem code_cases (objs : List ObjV) : resCode objs = 0 ∨ resCode objs = 2 ∨ resCode objs = 3 ∨ resCode objs = 4 := by
  unfold resCode
  split
  · exact .inr (.inl rfl)
  · split
    · exact .inr (.inr (.inr rfl))
    · split
      · exact .inr (.inr (.inl rfl))
      · exact .inl rfl
theorem code_ok {objs : List ObjV} (h : resCode objs = 0) : ¬ 0 ≤ noneFrom objs 0 ∧ againL (flat objs) = [] ∧ ∀ x ∈ flat objs, RsT.bad (flat objs) x = false := by
  unfold resCode at h
  by_cases h0 : 0 ≤ noneFrom objs 0
  · rw [if_pos h0] at h; cases h
  · rw [if_neg h0] at h
    refine ⟨h0, ?_⟩
    cases hag : againL (flat objs) with
    | cons x l => rw [hag] at h; cases h
    | nil =>
      rw [hag] at h
      cases hf : (flat objs).find? (RsT.bad (flat objs)) with
      | some x => rw [hf] at h; cases h
      | none =>
        refine ⟨rfl, fun x hx => ?_⟩
        have := List.find?_eq_none.1 hf x hx
        simpa using this
theorem miss_nil {F : List Ent} (h : ∀ x ∈ F, RsT.bad F x = false) : missL F F = [] := by
  unfold missL
  rw [List.filter_eq_nil_iff.2 (fun x hx => by rw [h x hx]; simp)]
  rfl
theorem needs_ok {objs : List ObjV} (h : resCode objs = 0) : needsL objs = [] := by
  obtain ⟨h0, -, h2⟩ := code_ok h
  unfold needsL
  rw [if_neg h0, miss_nil h2, sorted_nil]
theorem sorted_ne {ks : List (List UInt8)} (h : ks ≠ []) : sorted ks ≠ [] := by
  intro e
  unfold sorted at e
  have hl : (ks.mergeSort fun x y => decide (x ≤ y)).length = ks.length := List.length_mergeSort ks
  have h0 : 0 < ks.length := List.length_pos_iff.2 h
  have h1 : 0 < (ks.mergeSort fun x y => decide (x ≤ y)).length := by omega
  unfold Lib.compact at e
  have : ∀ m, 0 < m → (Lib.compactUpTo (ks.mergeSort fun x y => decide (x ≤ y)).toArray m).length ≠ 0 := by
    intro m hm
    induction m with
    | zero => omega
    | succ m ih =>
      rw [Lib.compactUpTo_succ, List.length_append]
      by_cases hz : m = 0
      · subst hz
        rw [if_pos (Lib.keeps_lt_one _ 0 (by omega))]
        simp
      · have := ih (by omega)
        omega
  exact this _ h1 (by rw [e]; rfl)
theorem needs_none {objs : List ObjV} (h : resCode objs = 3) : needsL objs ≠ [] := by
  unfold resCode at h
  by_cases h0 : 0 ≤ noneFrom objs 0
  · rw [if_pos h0] at h; cases h
  · rw [if_neg h0] at h
    cases hag : againL (flat objs) with
    | cons x l => rw [hag] at h; cases h
    | nil =>
      rw [hag] at h
      cases hf : (flat objs).find? (RsT.bad (flat objs)) with
      | none => rw [hf] at h; cases h
      | some x =>
        unfold needsL
        rw [if_neg h0]
        refine sorted_ne fun e => ?_
        unfold missL at e
        have hm := List.mem_of_find?_eq_some hf
        have hb := List.find?_some hf
        have : nmb x ∈ ((flat objs).filter (RsT.bad (flat objs))).map nmb := List.mem_map.2 ⟨x, List.mem_filter.2 ⟨hm, hb⟩, rfl⟩
        rw [e] at this
        cases this
theorem tgL_ne {objs : List ObjV} (h : resCode objs ≠ 0) : tgL objs = [] := by unfold tgL; rw [if_neg h]
theorem tgL_ok {objs : List ObjV} (h : resCode objs = 0) : (tgL objs).length = objs.length := by unfold tgL; rw [if_pos h]; simp
/-- the row of an object -/
theorem row_ok {objs : List ObjV} (h : resCode objs = 0) {i : Nat} {o : ObjV} (ho : objs[i]? = some o) : ∃ r, (tgL objs)[i]? = some r ∧ r.length = o.ss.length ∧
    ∀ k s, o.ss[k]? = some s → ∃ (ti tk : Nat) (o' : ObjV) (d : SymV), r[k]? = some ((ti : Int), (tk : Int)) ∧ objs[ti]? = some o' ∧ o'.ss[tk]? = some d ∧ d.name = s.name ∧ d.sect ≠ 0 ∧ (s.sect = 0 → d.glob = true) ∧ (s.sect ≠ 0 → ti = i ∧ tk = k) := by
  have hi : i < objs.length := (List.getElem?_eq_some_iff.1 ho).1
  obtain ⟨-, -, hb⟩ := code_ok h
  refine ⟨RsT.rowAt (flat objs) (flat objs) i, ?_, ?_, ?_⟩
  · unfold tgL
    rw [if_pos h, List.getElem?_map, List.getElem?_range hi]; rfl
  · rw [rowAt_row hi, List.length_map, row_length, ssAt_eq hi]
    rw [List.getElem?_eq_getElem hi] at ho
    cases ho; rfl
  · intro k s hs
    have hk : k < o.ss.length := (List.getElem?_eq_some_iff.1 hs).1
    have hss : ssAt objs i = o.ss := by
      rw [ssAt_eq hi]
      rw [List.getElem?_eq_getElem hi] at ho
      cases ho; rfl
    have hrow : (row objs i)[k]? = some ⟨i, k, s⟩ := by
      unfold row
      rw [List.getElem?_map, List.getElem?_range (by rw [hss]; exact hk)]
      simp only [Option.map_some, Option.some.injEq]
      rw [hss, List.getD_eq_getElem?_getD, hs]; rfl
    have hmem : (⟨i, k, s⟩ : Ent) ∈ flat objs := by
      unfold flat flatTo
      exact List.mem_flatMap.2 ⟨i, List.mem_range.2 hi, List.mem_of_getElem? hrow⟩
    have hbad := hb _ hmem
    rw [rowAt_row hi, List.getElem?_map, hrow]
    simp only [Option.map_some]
    unfold RsT.bad at hbad
    unfold tgs
    unfold tgI at hbad ⊢
    by_cases hz : s.sect = 0
    · rw [if_pos hz] at hbad
      cases hl : RsP.look (flat objs) s.name with
      | none => rw [hl] at hbad; cases hbad
      | some y =>
        have hy := look_some hl
        obtain ⟨oo, h1, h2⟩ := mem_flat hy.1
        refine ⟨y.i, y.k, oo, y.s, ?_, h1, h2, hy.2.2, ?_, fun _ => ?_, fun hne => absurd hz hne⟩
        · rw [if_pos hz]
        · have hd := hy.2.1
          unfold defs at hd
          simp only [Bool.and_eq_true, Bool.not_eq_true', beq_eq_false_iff_ne] at hd
          exact hd.2
        · have hd := hy.2.1
          unfold defs at hd
          simp only [Bool.and_eq_true] at hd
          exact hd.1
    · refine ⟨i, k, o, s, ?_, ho, hs, rfl, hz, fun e => absurd e hz, fun _ => ⟨rfl, rfl⟩⟩
      rw [if_neg hz]
end RsZ
end Go.Proofs.Ytieehjkmfmkfjaa
/-
  The object more of ResolveMore, plainly: it defines just what nobody does; with it all is defined; a second one brings an error. It speaks of no program.
-/
namespace Go.Proofs.Ytieehjkmfmkfjaa
open Go.RowKit Go.Maps
set_option linter.unusedVariables false
set_option linter.unusedSimpArgs false
namespace RsH
open OO OJ RsM RsP RsS RsT RsY RsQ RsB RsJ RsZ RsE OCk OU OM
/-! ### a sorted list without what is there twice -/
theorem up_mem {d : Array (List UInt8)} : ∀ m, ∀ x, x ∈ Lib.compactUpTo d m ↔ ∃ j, j < m ∧ d[j]! = x := by
  intro m
  induction m with
  | zero => intro x; simp [Lib.compactUpTo]
  | succ m ih =>
    intro x
    rw [Lib.compactUpTo_succ, List.mem_append, ih]
    constructor
    · rintro (⟨j, hj, e⟩ | h)
      · exact ⟨j, by omega, e⟩
      · split at h
        · exact ⟨m, by omega, (List.mem_singleton.1 h).symm⟩
        · cases h
    · rintro ⟨j, hj, e⟩
      by_cases hm : j < m
      · exact .inl ⟨j, hm, e⟩
      · obtain rfl : j = m := by omega
        cases hk : Lib.keeps d j with
        | true => right; simp [e]
        | false =>
          left
          have hne : ¬ (j = 0 ∨ d[j]! ≠ d[j - 1]!) := by
            intro h
            unfold Lib.keeps at hk
            rw [decide_eq_true h] at hk
            cases hk
          have h1 : ¬ j = 0 := fun h => hne (.inl h)
          have h2 : d[j]! = d[j - 1]! := Classical.byContradiction fun h => hne (.inr h)
          exact ⟨j - 1, by omega, by rw [← h2]; exact e⟩
theorem up_nodup {d : Array (List UInt8)} (hs : ∀ i j, i ≤ j → j < d.size → d[i]! ≤ d[j]!) : ∀ m, m ≤ d.size → (Lib.compactUpTo d m).Nodup := by
  intro m
  induction m with
  | zero => intro _; simp [Lib.compactUpTo]
  | succ m ih =>
    intro hm
    rw [Lib.compactUpTo_succ]
    cases hk : Lib.keeps d m with
    | false => simpa using ih (by omega)
    | true =>
      rw [if_pos rfl, List.nodup_append]
      refine ⟨ih (by omega), by simp, fun a ha b hb => ?_⟩
      rw [List.mem_singleton.1 hb]
      intro e
      obtain ⟨j, hj, rfl⟩ := (up_mem m a).1 ha
      unfold Lib.keeps at hk
      have hk := of_decide_eq_true hk
      rcases hk with hk | hk
      · omega
      · refine hk ?_
        have h1 := hs j (m - 1) (by omega) (by omega)
        have h2 := hs (m - 1) m (by omega) (by omega)
        rw [e] at h1
        exact List.le_antisymm h1 h2
theorem sort_le (ks : List (List UInt8)) : ∀ i j, i ≤ j → j < (ks.mergeSort fun x y => decide (x ≤ y)).toArray.size → (ks.mergeSort fun x y => decide (x ≤ y)).toArray[i]! ≤ (ks.mergeSort fun x y => decide (x ≤ y)).toArray[j]! := by
  intro i j hij hj
  have hp : (ks.mergeSort fun x y => decide (x ≤ y)).Pairwise (fun x y => decide (x ≤ y) = true) :=
    List.pairwise_mergeSort (fun a b c h k => by simp only [decide_eq_true_eq] at *; exact List.le_trans h k) (fun a b => by simp only [Bool.or_eq_true, decide_eq_true_eq]; exact List.le_total a b) ks
  generalize (ks.mergeSort fun x y => decide (x ≤ y)) = l at *
  have hj' : j < l.length := by simpa using hj
  rw [getElem!_pos l.toArray i (by simpa using (by omega : i < l.length)), getElem!_pos l.toArray j hj]
  simp only [List.getElem_toArray]
  by_cases e : i = j
  · subst e; exact List.le_refl _
  · have := List.pairwise_iff_getElem.1 hp i j (by omega) hj' (by omega)
    exact of_decide_eq_true this
theorem sorted_nodup (ks : List (List UInt8)) : (sorted ks).Nodup := by
  unfold sorted Lib.compact
  exact up_nodup (sort_le ks) _ (by simp)
theorem sorted_mem (ks : List (List UInt8)) (x : List UInt8) : x ∈ sorted ks ↔ x ∈ ks := by
  unfold sorted Lib.compact
  rw [up_mem]
  have hm : x ∈ (ks.mergeSort fun x y => decide (x ≤ y)) ↔ x ∈ ks := List.mem_mergeSort
  rw [← hm]
  generalize (ks.mergeSort fun x y => decide (x ≤ y)) = l
  constructor
  · rintro ⟨j, hj, e⟩
    rw [getElem!_pos l.toArray j (by simpa using hj)] at e
    simp only [List.getElem_toArray] at e
    rw [← e]
    exact List.getElem_mem hj
  · intro h
    obtain ⟨j, hj, e⟩ := List.mem_iff_getElem.1 h
    refine ⟨j, hj, ?_⟩
    rw [getElem!_pos l.toArray j (by simpa using hj)]
    simpa using e
/-! ### the object more -/
def bs (n : List UInt8) : ByteArray := ⟨n.toArray⟩
theorem bs_inj {m n : List UInt8} (h : bs m = bs n) : m = n := by
  unfold bs at h
  injection h with h
  exact List.toArray_inj h
theorem bs_nmb (x : Ent) : bs (nmb x) = x.s.name := by unfold bs nmb; simp
def symM (n : List UInt8) : SymV := ⟨bs n, 1, 0, 0, true⟩
def mo (N : List (List UInt8)) : ObjV := ⟨[19], [], N.map symM, []⟩
theorem mo_get {N : List (List UInt8)} {k : Nat} (h : k < N.length) : (mo N).ss[k]? = some (symM N[k]) := by
  show (N.map symM)[k]? = _
  rw [List.getElem?_map, List.getElem?_eq_getElem h]; rfl
theorem mo_len (N : List (List UInt8)) : (mo N).ss.length = N.length := by simp [mo]
/-- what is needed -/
structure Nd (objs : List ObjV) (N : List (List UInt8)) : Prop where
  nd : N.Nodup
  mem : ∀ n, n ∈ N ↔ ∃ x ∈ flat objs, RsT.bad (flat objs) x = true ∧ nmb x = n
  chk : ∀ o ∈ objs, OCk.chk o = true
  un : Uniq (flat objs)
theorem nd_of {objs : List ObjV} (h : resCode objs = 0 ∨ resCode objs = 3) : Nd objs (needsL objs) := by
  have h0 : ¬ 0 ≤ noneFrom objs 0 := fun h0 => by
    unfold resCode at h
    rw [if_pos h0] at h
    rcases h with h | h <;> cases h
  have hag : againL (flat objs) = [] := by
    unfold resCode at h
    rw [if_neg h0] at h
    cases hag : againL (flat objs) with
    | nil => rfl
    | cons x l => rw [hag] at h; rcases h with h | h <;> cases h
  unfold needsL
  rw [if_neg h0]
  refine ⟨sorted_nodup _, fun n => ?_, fun o ho => ?_, (again_uniq (flat_nodup _)).1 hag⟩
  · rw [sorted_mem]
    unfold missL
    rw [List.mem_map]
    constructor
    · rintro ⟨x, hx, e⟩
      obtain ⟨a, b⟩ := List.mem_filter.1 hx
      exact ⟨x, a, b, e⟩
    · rintro ⟨x, a, b, e⟩
      exact ⟨x, List.mem_filter.2 ⟨a, b⟩, e⟩
  · cases e : OCk.chk o with
    | true => rfl
    | false => exact absurd (none_iff.2 ⟨o, ho, e⟩) h0
/-- it is an object -/
theorem mo_chk {objs : List ObjV} {N : List (List UInt8)} (h : Nd objs N) (hl : N.length ≤ 500) : chk (mo N) = true := by
  have hname : ∀ n ∈ N, nameB (bs n) = true := fun n hm => by
    obtain ⟨x, hx, -, rfl⟩ := (h.mem n).1 hm
    obtain ⟨o, ho, hs⟩ := RsM.mem_flat hx
    have hc := h.chk o (List.mem_of_getElem? ho)
    unfold chk at hc
    simp only [Bool.and_eq_true] at hc
    have hk : x.k < o.ss.length := (List.getElem?_eq_some_iff.1 hs).1
    have h1 := List.all_eq_true.1 hc.2.1 x.k (List.mem_range.2 hk)
    unfold symAt at h1
    rw [hs] at h1
    simp only [Bool.and_eq_true] at h1
    unfold symOk at h1
    simp only [Bool.and_eq_true] at h1
    rw [bs_nmb]
    exact h1.2.1
  have hlen := mo_len N
  refine chk_yes ?_ ?_ rfl
  · unfold lensB
    simp only [Bool.and_eq_true, decide_eq_true_eq]
    rw [hlen]
    refine ⟨?_, ?_, ?_⟩
    · simp [mo]
    · omega
    · simp [mo]
  · unfold symsTo
    rw [List.all_eq_true]
    intro k hk
    have hk := List.mem_range.1 hk
    have hkm : k < N.length := by rw [← hlen]; exact hk
    unfold symAt
    rw [mo_get hkm]
    simp only [Bool.and_eq_true, Bool.not_eq_true']
    refine ⟨?_, ?_⟩
    · rw [List.any_eq_false]
      intro t ht
      simp only [decide_eq_true_eq]
      intro e
      obtain ⟨j, hjt⟩ := List.mem_iff_getElem?.1 ht
      have hj := (List.getElem?_eq_some_iff.1 hjt).1
      have hjk : j < k := by rw [List.length_take] at hj; omega
      rw [List.getElem?_take, if_pos hjk, mo_get (by omega)] at hjt
      cases hjt
      have e2 : N[j] = N[k] := bs_inj e
      have := (List.pairwise_iff_getElem.1 h.nd) j k (by omega) hkm hjk
      exact this e2
    · unfold symOk
      rw [Bool.and_eq_true]
      refine ⟨hname _ (List.getElem_mem hkm), ?_⟩
      unfold placeB symM mo
      simp
theorem mo_defs (n : List UInt8) : defs (symM n) = true := rfl
theorem mem_mo {objs : List ObjV} {N : List (List UInt8)} {x : Ent} (h : x ∈ row (objs ++ [mo N]) objs.length) : x.i = objs.length ∧ x.k < N.length ∧ ∃ hk : x.k < N.length, x.s = symM N[x.k] := by
  obtain ⟨h1, h2⟩ := mem_row.1 h
  rw [ssAt_some (o := mo N) (by simp)] at h2
  have hk : x.k < N.length := by have := (List.getElem?_eq_some_iff.1 h2).1; rwa [mo_len] at this
  rw [mo_get hk] at h2
  exact ⟨h1, hk, hk, (Option.some.inj h2).symm⟩
theorem mo_mem {objs : List ObjV} {N : List (List UInt8)} {n : List UInt8} (h : n ∈ N) : ∃ x ∈ row (objs ++ [mo N]) objs.length, x.s = symM n := by
  obtain ⟨k, hk, rfl⟩ := List.mem_iff_getElem.1 h
  refine ⟨⟨objs.length, k, symM N[k]⟩, mem_row.2 ⟨rfl, ?_⟩, rfl⟩
  rw [ssAt_some (o := mo N) (by simp)]
  exact mo_get hk
/-- nobody defines what is needed -/
theorem bad_no {F : List Ent} {x : Ent} (h : RsT.bad F x = true) : x.s.sect = 0 ∧ RsP.look F x.s.name = none := by
  unfold RsT.bad tgI at h
  by_cases hz : x.s.sect = 0
  · rw [if_pos hz] at h
    refine ⟨hz, ?_⟩
    cases hl : RsP.look F x.s.name with
    | none => rfl
    | some y => rw [hl] at h; cases h
  · rw [if_neg hz] at h; cases h
theorem bad_iff {F : List Ent} {x : Ent} : RsT.bad F x = true ↔ x.s.sect = 0 ∧ RsP.look F x.s.name = none := by
  refine ⟨bad_no, fun ⟨hz, hl⟩ => ?_⟩
  unfold RsT.bad tgI
  rw [if_pos hz, hl]; rfl
theorem un_more {objs : List ObjV} {N : List (List UInt8)} (h : Nd objs N) : Uniq (flat (objs ++ [mo N])) := by
  rw [flat_snoc]
  have cross : ∀ x ∈ flat objs, ∀ y ∈ row (objs ++ [mo N]) objs.length, defs x.s = true → x.s.name ≠ y.s.name := fun x hx y hy dx e => by
    obtain ⟨-, -, hk, es⟩ := mem_mo hy
    obtain ⟨z, hz, hb, en⟩ := (h.mem N[y.k]).1 (List.getElem_mem hk)
    have hn := (bad_no hb).2
    refine look_none.1 hn x hx dx ?_
    rw [e, es]
    show bs N[y.k] = z.s.name
    rw [← en, bs_nmb]
  intro x hx y hy dx dy e
  rcases List.mem_append.1 hx with hx | hx
  · rcases List.mem_append.1 hy with hy | hy
    · exact h.un x hx y hy dx dy e
    · exact absurd e (cross x hx y hy dx)
  · rcases List.mem_append.1 hy with hy | hy
    · exact absurd e.symm (cross y hy x hx dy)
    · obtain ⟨i1, -, k1, s1⟩ := mem_mo hx
      obtain ⟨i2, -, k2, s2⟩ := mem_mo hy
      obtain ⟨xi, xk, xs⟩ := x
      obtain ⟨yi, yk, ys⟩ := y
      simp only at i1 i2 k1 k2 s1 s2 e
      subst i1 i2 s1 s2
      have e2 : N[xk] = N[yk] := bs_inj e
      have : xk = yk := by
        rcases Nat.lt_trichotomy xk yk with hlt | hlt | hlt
        · exact absurd e2 ((List.pairwise_iff_getElem.1 h.nd) xk yk k1 k2 hlt)
        · exact hlt
        · exact absurd e2.symm ((List.pairwise_iff_getElem.1 h.nd) yk xk k2 k1 hlt)
      subst this
      rfl
theorem look_app {l r : List Ent} {n : ByteArray} (h : RsP.look (l ++ r) n = none) : RsP.look l n = none ∧ RsP.look r n = none :=
  ⟨look_none.2 fun x hx => look_none.1 h x (List.mem_append_left _ hx), look_none.2 fun x hx => look_none.1 h x (List.mem_append_right _ hx)⟩
theorem none_no {objs : List ObjV} (h : ∀ o ∈ objs, chk o = true) : ¬ 0 ≤ noneFrom objs 0 := fun h0 => by
  obtain ⟨o, ho, hc⟩ := none_iff.1 h0
  rw [h o ho] at hc
  cases hc
/-- with the object more all is defined -/
theorem code_more {objs : List ObjV} {N : List (List UInt8)} (h : Nd objs N) (hl : N.length ≤ 500) : resCode (objs ++ [mo N]) = 0 := by
  have hc := mo_chk h hl
  have h0 : ¬ 0 ≤ noneFrom (objs ++ [mo N]) 0 := none_no fun o ho => by
    rcases List.mem_append.1 ho with ho | ho
    · exact h.chk o ho
    · rw [List.mem_singleton.1 ho]; exact hc
  have hag : againL (flat (objs ++ [mo N])) = [] := (again_uniq (flat_nodup _)).2 (un_more h)
  unfold resCode
  rw [if_neg h0, hag]
  have hf : (flat (objs ++ [mo N])).find? (RsT.bad (flat (objs ++ [mo N]))) = none := List.find?_eq_none.2 fun x hx hb => by
    obtain ⟨hz, hln⟩ := bad_no hb
    rw [flat_snoc] at hx hln
    obtain ⟨l1, l2⟩ := look_app hln
    rcases List.mem_append.1 hx with hx | hx
    · have hbx : RsT.bad (flat objs) x = true := bad_iff.2 ⟨hz, l1⟩
      have hn : nmb x ∈ N := (h.mem _).2 ⟨x, hx, hbx, rfl⟩
      obtain ⟨y, hy, es⟩ := mo_mem (objs := objs) hn
      refine look_none.1 l2 y hy (by rw [es]; rfl) ?_
      rw [es]
      exact bs_nmb x
    · obtain ⟨-, -, hk, es⟩ := mem_mo hx
      rw [es] at hz
      exact absurd hz (show ¬ (1 : Int) = 0 by decide)
  rw [hf]
/-- all that is handed out again -/
theorem again_all {l : List Ent} : ∀ r : List Ent, (∀ x ∈ r, defs x.s = true ∧ ∃ y ∈ l, defs y.s = true ∧ y.s.name = x.s.name) → againL (l ++ r) = againL l ++ r := by
  intro r
  induction r using snoc_ind with
  | nil => intro _; simp
  | append_singleton r x ih =>
    intro h
    rw [← List.append_assoc, againL_snoc, ih fun y hy => h y (List.mem_append_left _ hy)]
    obtain ⟨hd, y, hy, dy, en⟩ := h x (by simp)
    have hh : Maps.has (namesD (l ++ r)) (key x.s) = true := by
      rw [key_eq, (names_look (l ++ r) x.s.name).1]
      cases hl : RsP.look (l ++ r) x.s.name with
      | some z => rfl
      | none => exact absurd en (look_none.1 hl y (List.mem_append_left _ hy) dy)
    rw [hd, hh]
    simp
/-- what Resolve tells of a place: the first of what is wrong -/
def placeOf (objs : List ObjV) : Int × Int :=
  if 0 ≤ noneFrom objs 0 then (noneFrom objs 0, 0) else
  match againL (flat objs) with
  | x :: _ => (x.i, x.k)
  | [] => match (flat objs).find? (RsT.bad (flat objs)) with
    | some x => (x.i, x.k)
    | none => (0, 0)
theorem out_place {objs : List ObjV} {W : World} {tv : Value} {i k e : Int} (h : RsV.Out objs W tv i k e) : i = (placeOf objs).1 ∧ k = (placeOf objs).2 := by
  unfold RsV.Out at h
  unfold placeOf
  by_cases h0 : 0 ≤ noneFrom objs 0
  · rw [if_pos h0] at h ⊢
    exact ⟨h.2.1, h.2.2.1⟩
  · rw [if_neg h0] at h ⊢
    cases hag : againL (flat objs) with
    | cons x l =>
      rw [hag] at h
      exact ⟨h.2.1, h.2.2.1⟩
    | nil =>
      rw [hag] at h
      cases hf : (flat objs).find? (RsT.bad (flat objs)) with
      | some x =>
        rw [hf] at h
        exact ⟨h.2.1, h.2.2.1⟩
      | none =>
        rw [hf] at h
        exact ⟨h.1, h.2.1⟩
/-- a second one brings an error, at its own place -/
theorem code_twice {objs : List ObjV} {N : List (List UInt8)} (h : Nd objs N) (hl : N.length ≤ 500) (hne : 0 < N.length) : resCode (objs ++ [mo N] ++ [mo N]) = 4 ∧ (placeOf (objs ++ [mo N] ++ [mo N])).1 = (objs.length : Int) + 1 := by
  have hc := mo_chk h hl
  have h0 : ¬ 0 ≤ noneFrom (objs ++ [mo N] ++ [mo N]) 0 := none_no fun o ho => by
    rcases List.mem_append.1 ho with ho | ho
    · rcases List.mem_append.1 ho with ho | ho
      · exact h.chk o ho
      · rw [List.mem_singleton.1 ho]; exact hc
    · rw [List.mem_singleton.1 ho]; exact hc
  have hag : againL (flat (objs ++ [mo N])) = [] := (again_uniq (flat_nodup _)).2 (un_more h)
  have hlen1 : (objs ++ [mo N]).length = objs.length + 1 := by simp
  have hag2 : againL (flat (objs ++ [mo N] ++ [mo N])) = row (objs ++ [mo N] ++ [mo N]) (objs ++ [mo N]).length := by
    rw [flat_snoc, again_all, hag, List.nil_append]
    intro x hx
    obtain ⟨-, -, hk, es⟩ := mem_mo hx
    refine ⟨by rw [es]; rfl, ?_⟩
    obtain ⟨y, hy, ey⟩ := mo_mem (objs := objs) (List.getElem_mem hk)
    refine ⟨y, ?_, by rw [ey]; rfl, by rw [ey, es]⟩
    rw [flat_snoc]
    exact List.mem_append_right _ hy
  have hrow : row (objs ++ [mo N] ++ [mo N]) (objs ++ [mo N]).length ≠ [] := by
    intro e
    obtain ⟨x, hx, -⟩ := mo_mem (objs := objs ++ [mo N]) (List.getElem_mem (l := N) (n := 0) hne)
    rw [e] at hx
    cases hx
  unfold resCode placeOf
  rw [if_neg h0, if_neg h0, hag2]
  cases hr : row (objs ++ [mo N] ++ [mo N]) (objs ++ [mo N]).length with
  | nil => exact absurd hr hrow
  | cons x l =>
    refine ⟨rfl, ?_⟩
    have hx : x ∈ row (objs ++ [mo N] ++ [mo N]) (objs ++ [mo N]).length := by rw [hr]; simp
    have := (mem_mo hx).1
    show (x.i : Int) = _
    rw [this, hlen1]
    push_cast
    rfl
end RsH
end Go.Proofs.Ytieehjkmfmkfjaa
/-
  Plain facts on what the document's Resolve looks for: the first that defines a name again, the first that nobody defines. No program.
-/
namespace Go.Proofs.Ytieehjkmfmkfjaa
open Go.RowKit Go.Maps Go.WideMaps
set_option linter.unusedVariables false
set_option linter.unusedSimpArgs false
namespace XM
open OO OJ RsM RsI RsP RsS RsT OCk RsQ RsH RsY RsB SD
theorem again_pre (a b : List Ent) : ∃ r, againL (a ++ b) = againL a ++ r := by
  induction b using snoc_ind with
  | nil => exact ⟨[], by simp⟩
  | append_singleton l x ih =>
    obtain ⟨r, hr⟩ := ih
    rw [← List.append_assoc, againL_snoc, hr, List.append_assoc]
    exact ⟨_, rfl⟩
instance (a b : SymV) : Decidable (a = b) := decidable_of_iff (a.name = b.name ∧ a.sect = b.sect ∧ a.val = b.val ∧ a.frame = b.frame ∧ a.glob = b.glob) (by cases a; cases b; simp)
instance (a b : Ent) : Decidable (a = b) := decidable_of_iff (a.i = b.i ∧ a.k = b.k ∧ a.s = b.s) (by cases a; cases b; simp)
/-- does an entry define a name that another one defines first? -/
def tw (F : List Ent) (x : Ent) : Bool := defs x.s && !decide (RsP.look F x.s.name = some x)
theorem look_mid (a b : List Ent) (x : Ent) (hd : defs x.s = true) : RsP.look (a ++ (x :: b)) x.s.name = (RsP.look a x.s.name).or (some x) := by
  unfold RsP.look
  rw [List.find?_append, List.find?_cons]
  simp [hd]
theorem again_at {F : List Ent} {p : Nat} (hp : p < F.length) (h0 : againL (F.take p) = []) (hn : F.Nodup) : againL (F.take (p + 1)) = if tw F F[p] then [F[p]] else [] := by
  rw [List.take_succ_eq_append_getElem hp, againL_snoc, h0, List.nil_append, key_eq, (names_look _ _).1]
  have hs : F = F.take p ++ (F[p] :: F.drop (p + 1)) := by rw [← List.drop_eq_getElem_cons hp, List.take_append_drop]
  unfold tw
  cases hd : defs F[p].s with
  | false => rfl
  | true =>
    have hl := look_mid (F.take p) (F.drop (p + 1)) F[p] hd
    rw [← hs] at hl
    rw [hl]
    cases hk : RsP.look (F.take p) F[p].s.name with
    | none => simp
    | some y =>
      have hy := (look_some hk).1
      have hne : y ≠ F[p] := by
        rintro rfl
        have hn2 := hn
        rw [hs] at hn2
        have := (List.nodup_append.1 hn2).2.2 _ hy _ (List.mem_cons_self ..)
        exact this rfl
      simp [hne]
theorem again_none {F : List Ent} (h : againL (F.take F.length) = []) : againL F = [] := by rwa [List.take_length] at h
theorem again_cons {F : List Ent} {p : Nat} {x : Ent} (h : againL (F.take p) = [x]) : ∃ r, againL F = x :: r := by
  obtain ⟨r, hr⟩ := again_pre (F.take p) (F.drop p)
  rw [List.take_append_drop, h] at hr
  exact ⟨r, hr⟩
/-- the document's test: is what Find tells another place? -/
theorem tw_find {objs : List ObjV} {i k : Nat} (hi : i < objs.length) (hk : k < objs[i].ss.length) :
    tw (flat objs) ⟨i, k, objs[i].ss[k]⟩ = (defs objs[i].ss[k] && (!decide (fI objs objs[i].ss[k].name = (i : Int)) || !decide (fK objs objs[i].ss[k].name = (k : Int)))) := by
  obtain ⟨hp, hx⟩ := flat_get hi hk
  have hmem : (⟨i, k, objs[i].ss[k]⟩ : Ent) ∈ flat objs := by rw [← hx]; exact List.getElem_mem hp
  unfold tw
  cases hd : defs objs[i].ss[k] with
  | false => rfl
  | true =>
    simp only [Bool.true_and]
    unfold fI fK
    cases hl : RsP.look (flat objs) objs[i].ss[k].name with
    | none => exact absurd rfl (look_none.1 hl _ hmem hd)
    | some y =>
      have hy := (look_some hl).1
      obtain ⟨o1, a1, a2⟩ := mem_iff.1 hy
      obtain ⟨o2, b1, b2⟩ := mem_iff.1 hmem
      by_cases e1 : y.i = i
      · by_cases e2 : y.k = k
        · have : y = ⟨i, k, objs[i].ss[k]⟩ := by
            obtain ⟨yi, yk, ys⟩ := y
            simp only at e1 e2 a1 a2 b1 b2
            subst e1 e2
            rw [a1] at b1
            cases b1
            rw [a2] at b2
            cases b2
            rfl
          simp [this]
        · have : y ≠ ⟨i, k, objs[i].ss[k]⟩ := fun e => e2 (by rw [e])
          have e3 : ¬ (y.k : Int) = (k : Int) := by omega
          simp [this, e3]
      · have : y ≠ ⟨i, k, objs[i].ss[k]⟩ := fun e => e1 (by rw [e])
        have e3 : ¬ (y.i : Int) = (i : Int) := by omega
        simp [this, e3]
/-- nothing defined again ahead of a place -/
def T2 (objs : List ObjV) (p : Nat) : Prop := againL ((flat objs).take p) = []
theorem t2_next {objs : List ObjV} {i k : Nat} (hi : i < objs.length) (hk : k < objs[i].ss.length) (h : T2 objs (pos objs i k)) (ht : tw (flat objs) ⟨i, k, objs[i].ss[k]⟩ = false) : T2 objs (pos objs i (k + 1)) := by
  obtain ⟨hp, hx⟩ := flat_get hi hk
  unfold T2 at h ⊢
  have := again_at hp h (flat_nodup objs)
  rw [hx, ht] at this
  exact this
theorem t2_hit {objs : List ObjV} {i k : Nat} (hi : i < objs.length) (hk : k < objs[i].ss.length) (h : T2 objs (pos objs i k)) (ht : tw (flat objs) ⟨i, k, objs[i].ss[k]⟩ = true) : ∃ r, againL (flat objs) = ⟨i, k, objs[i].ss[k]⟩ :: r := by
  obtain ⟨hp, hx⟩ := flat_get hi hk
  unfold T2 at h
  have := again_at hp h (flat_nodup objs)
  rw [hx, ht] at this
  exact again_cons this
theorem t2_row {objs : List ObjV} {i : Nat} (hi : i < objs.length) (h : T2 objs (pos objs i objs[i].ss.length)) : T2 objs (pos objs (i + 1) 0) := by
  rw [pos_succ, ssAt_eq hi]; exact h
theorem t2_end {objs : List ObjV} (h : T2 objs (pos objs objs.length 0)) : againL (flat objs) = [] := by
  unfold T2 at h
  rw [pos_end] at h
  exact again_none h
/-- nothing that nobody defines ahead of a place -/
def T3 (objs : List ObjV) (p : Nat) : Prop := ∀ x ∈ (flat objs).take p, RsT.bad (flat objs) x = false
theorem t3_next {objs : List ObjV} {i k : Nat} (hi : i < objs.length) (hk : k < objs[i].ss.length) (h : T3 objs (pos objs i k)) (ht : RsT.bad (flat objs) ⟨i, k, objs[i].ss[k]⟩ = false) : T3 objs (pos objs i (k + 1)) := by
  obtain ⟨hp, hx⟩ := flat_get hi hk
  intro x hxm
  rw [show pos objs i (k + 1) = pos objs i k + 1 from rfl, List.take_succ_eq_append_getElem hp, hx] at hxm
  rcases List.mem_append.1 hxm with h1 | h1
  · exact h x h1
  · rw [List.mem_singleton.1 h1]; exact ht
theorem t3_hit {objs : List ObjV} {i k : Nat} (hi : i < objs.length) (hk : k < objs[i].ss.length) (h : T3 objs (pos objs i k)) (ht : RsT.bad (flat objs) ⟨i, k, objs[i].ss[k]⟩ = true) : (flat objs).find? (RsT.bad (flat objs)) = some ⟨i, k, objs[i].ss[k]⟩ := by
  obtain ⟨hp, hx⟩ := flat_get hi hk
  have hs : flat objs = (flat objs).take (pos objs i k) ++ ((flat objs)[pos objs i k] :: (flat objs).drop (pos objs i k + 1)) := by rw [← List.drop_eq_getElem_cons hp, List.take_append_drop]
  rw [hx] at hs
  have e : (flat objs).find? (RsT.bad (flat objs)) = ((flat objs).take (pos objs i k) ++ (⟨i, k, objs[i].ss[k]⟩ :: (flat objs).drop (pos objs i k + 1))).find? (RsT.bad (flat objs)) := by rw [← hs]
  rw [e, List.find?_append, List.find?_eq_none.2 (fun x hxm => by rw [h x hxm]; simp), List.find?_cons, ht]
  rfl
theorem t3_row {objs : List ObjV} {i : Nat} (hi : i < objs.length) (h : T3 objs (pos objs i objs[i].ss.length)) : T3 objs (pos objs (i + 1) 0) := by
  rw [pos_succ, ssAt_eq hi]; exact h
theorem t3_end {objs : List ObjV} (h : T3 objs (pos objs objs.length 0)) : (flat objs).find? (RsT.bad (flat objs)) = none := by
  unfold T3 at h
  rw [pos_end, List.take_length] at h
  exact List.find?_eq_none.2 (fun x hxm => by rw [h x hxm]; simp)
/-- what is answered, in the four cases -/
theorem r_none {objs : List ObjV} {i : Nat} (h : noneFrom objs 0 = (i : Int)) : resCode objs = 2 ∧ placeOf objs = ((i : Int), 0) ∧ tgL objs = [] := by
  have e : resCode objs = 2 := by unfold resCode; rw [if_pos (by omega)]
  refine ⟨e, by unfold placeOf; rw [if_pos (by omega), h], by unfold tgL; rw [if_neg (by omega)]⟩
theorem r_again {objs : List ObjV} {i k : Nat} {s : SymV} {r : List Ent} (h0 : noneFrom objs 0 = -1) (h : againL (flat objs) = ⟨i, k, s⟩ :: r) : resCode objs = 4 ∧ placeOf objs = ((i : Int), (k : Int)) ∧ tgL objs = [] := by
  have e : resCode objs = 4 := by unfold resCode; rw [if_neg (by omega), h]
  refine ⟨e, by unfold placeOf; rw [if_neg (by omega), h], by unfold tgL; rw [if_neg (by omega)]⟩
theorem r_bad {objs : List ObjV} {i k : Nat} {s : SymV} (h0 : noneFrom objs 0 = -1) (h : againL (flat objs) = []) (hf : (flat objs).find? (RsT.bad (flat objs)) = some ⟨i, k, s⟩) : resCode objs = 3 ∧ placeOf objs = ((i : Int), (k : Int)) ∧ tgL objs = [] := by
  have e : resCode objs = 3 := by unfold resCode; rw [if_neg (by omega), h, hf]
  refine ⟨e, by unfold placeOf; rw [if_neg (by omega), h, hf], by unfold tgL; rw [if_neg (by omega)]⟩
/-- the rows of the first i objects -/
def rws (objs : List ObjV) (i : Nat) : List (List (Int × Int)) := (List.range i).map fun j => (row objs j).map (tgs (flat objs))
theorem rws_zero (objs : List ObjV) : rws objs 0 = [] := rfl
theorem rws_succ (objs : List ObjV) (i : Nat) : rws objs (i + 1) = rws objs i ++ [(row objs i).map (tgs (flat objs))] := by unfold rws; rw [List.range_succ, List.map_append]; rfl
theorem rws_len (objs : List ObjV) (i : Nat) : (rws objs i).length = i := by simp [rws]
theorem r_ok {objs : List ObjV} (h0 : noneFrom objs 0 = -1) (h : againL (flat objs) = []) (hf : (flat objs).find? (RsT.bad (flat objs)) = none) : resCode objs = 0 ∧ placeOf objs = (0, 0) ∧ tgL objs = rws objs objs.length := by
  have e : resCode objs = 0 := by unfold resCode; rw [if_neg (by omega), h, hf]
  refine ⟨e, by unfold placeOf; rw [if_neg (by omega), h, hf], ?_⟩
  unfold tgL rws
  rw [if_pos e]
  exact List.map_congr_left fun i hi => rowAt_row (List.mem_range.1 hi)
theorem tgs_find {objs : List ObjV} (i k : Nat) (s : SymV) : tgs (flat objs) ⟨i, k, s⟩ = (if s.sect = 0 then (fI objs s.name, fK objs s.name) else ((i : Int), (k : Int))) ∧ RsT.bad (flat objs) ⟨i, k, s⟩ = (decide (s.sect = 0) && !fB objs s.name) := by
  unfold tgs RsT.bad tgI fI fK fB
  by_cases e : s.sect = 0
  · simp only [e, if_true, decide_true, Bool.true_and]
    cases RsP.look (flat objs) s.name <;> simp
  · simp [e]
end XM
end Go.Proofs.Ytieehjkmfmkfjaa
/-
  Rows of targets in a slice that grows, in memory of their own. No condition.
-/
namespace Go.Proofs.Ytieehjkmfmkfjaa
open Go.RowKit Go.Maps Go.WideMaps
set_option linter.unusedVariables false
set_option linter.unusedSimpArgs false
namespace XR
open OO OJ RsM RsP RsT RsV
abbrev TTR : TypeId := 39
abbrev TSR : TypeId := 74
structure RO (base : Nat) (W : World) (vo : Value) (R : List (List (Int × Int))) (vs : List Value) : Prop where
  own : W.ownsRow base TSR 1 vo R.length vs
  row : ∀ (j : Nat) (v : Value), vs[j]? = some v → W.ownsRow base TTR 2 v (R.getD j []).length (pairCells (R.getD j []))
  apart : ∀ (j : Nat) (v : Value), vs[j]? = some v → v.ownBlock = none ∨ v.ownBlock ≠ vo.ownBlock
variable {base : Nat} {W W' : World} {vo vo' l : Value} {R : List (List (Int × Int))} {vs : List Value}
theorem RO.nil (base : Nat) (W : World) : RO base W (.slice none 0 0) [] [] := ⟨World.ownsRow_nil _ _ _ _, fun j v h => by simp at h, fun j v h => by simp at h⟩
theorem RO.len (h : RO base W vo R vs) : vs.length = R.length := by have := h.own.1; omega
theorem RO.kept {row : Option Nat} (h : RO base W vo R vs) (hg : W.grownBy W' row) (h1 : vo.ownBlock = none ∨ vo.ownBlock ≠ row) (h2 : ∀ (j : Nat) (v : Value), vs[j]? = some v → v.ownBlock = none ∨ v.ownBlock ≠ row) : RO base W' vo R vs :=
  ⟨h.own.kept hg h1, fun j v hv => (h.row j v hv).kept hg (h2 j v hv), h.apart⟩
theorem grown_below (hb : Below W.heap.size W W') : W.grownBy W' none := ⟨hb.os, hb.tape, hb.output, hb.size, fun i hi _ => hb.block i hi⟩
theorem some_none (v : Value) : v.ownBlock = none ∨ v.ownBlock ≠ none := by cases e : v.ownBlock <;> simp
theorem RO.below (h : RO base W vo R vs) (hb : Below W.heap.size W W') : RO base W' vo R vs := h.kept (grown_below hb) (some_none _) fun _ v _ => some_none v
theorem RO.push {r : List (Int × Int)} (h : RO base W vo R vs) (hl : W.ownsRow base TTR 2 l r.length (pairCells r)) (hla : l.ownBlock = none ∨ l.ownBlock ≠ vo.ownBlock)
    (hown : W'.ownsRow base TSR 1 vo' (R.length + 1) (vs ++ [l])) (hg : W.grownBy W' vo.ownBlock) (hat : vo'.ownBlock = vo.ownBlock ∨ vo'.ownBlock = some W.heap.size) : RO base W' vo' (R ++ [r]) (vs ++ [l]) := by
  have hlen := h.len
  have new : ∀ v : Value, (v.ownBlock = none ∨ v.ownBlock ≠ vo.ownBlock) → (∀ k, v.ownBlock = some k → k < W.heap.size) → (v.ownBlock = none ∨ v.ownBlock ≠ vo'.ownBlock) := fun v h1 h2 => by
    rcases hat with e | e
    · rw [e]; exact h1
    · rw [e]
      cases hv : v.ownBlock with
      | none => exact .inl rfl
      | some g => exact .inr (fun e2 => by have := h2 g hv; simp at e2; omega)
  refine ⟨by simpa using hown, fun j v hv => ?_, fun j v hv => ?_⟩
  · by_cases hj : j < vs.length
    · rw [List.getElem?_append_left hj] at hv
      rw [List.getD_eq_getElem?_getD, List.getElem?_append_left (by omega), ← List.getD_eq_getElem?_getD]
      exact (h.row j v hv).kept hg (h.apart j v hv)
    · have hj2 : j = vs.length := by
        have := (List.getElem?_eq_some_iff.1 hv).1
        simp at this
        omega
      subst hj2
      rw [List.getElem?_append_right (Nat.le_refl _)] at hv
      simp at hv
      subst hv
      rw [List.getD_eq_getElem?_getD, hlen, List.getElem?_append_right (Nat.le_refl _)]
      simp only [Nat.sub_self, List.getElem?_cons_zero, Option.getD_some]
      exact hl.kept hg hla
  · by_cases hj : j < vs.length
    · rw [List.getElem?_append_left hj] at hv
      exact new v (h.apart j v hv) fun k hk => ((h.row j v hv).lt k hk).2
    · have hj2 : j = vs.length := by
        have := (List.getElem?_eq_some_iff.1 hv).1
        simp at this
        omega
      subst hj2
      rw [List.getElem?_append_right (Nat.le_refl _)] at hv
      simp at hv
      subst hv
      exact new l hla fun k hk => (hl.lt k hk).2
theorem RO.tgts (h : RO base W vo R vs) : TgtsAt W vo R := by
  have hlen := h.len
  unfold TgtsAt
  rcases h.own.2 with ⟨rfl, e⟩ | ⟨g, cap, cur, rfl, _, hg, h1, h2, _, _⟩
  · exact ⟨none, 0, by rw [e], fun h0 => by omega⟩
  · refine ⟨some ⟨g, 0, none⟩, cap, rfl, fun h0 => ⟨g, 0, rfl, lt_heap hg, h1, h2, fun i r hr => ?_⟩⟩
    have hi : i < R.length := (List.getElem?_eq_some_iff.1 hr).1
    have hv := List.getElem?_eq_getElem (show i < vs.length by omega)
    refine ⟨_, by rw [Nat.zero_add]; exact (h.own.cellAt i (by omega)).trans hv, ?_⟩
    have hrow := h.row i _ hv
    rw [List.getD_eq_getElem?_getD, hr, Option.getD_some] at hrow
    generalize vs[i]'(by omega) = v at hrow
    rcases hrow.2 with ⟨rfl, e⟩ | ⟨g, cap, cur, rfl, hb, hg, h3, h4, _⟩
    · exact ⟨none, 0, by rw [e], fun h0 => by omega⟩
    · refine ⟨some ⟨g, 0, none⟩, cap, rfl, fun _ => ⟨g, 0, rfl, lt_heap hg, h3, h4, fun j t ht => ?_⟩⟩
      have e0 := hrow.cells (g := g) rfl (j * 2) _ (pair_get _ _ _ ht).1
      have e1 := hrow.cells (g := g) rfl (j * 2 + 1) _ (pair_get _ _ _ ht).2
      rw [OO.add_plain, Nat.zero_add] at e0 e1
      rw [Nat.zero_add]
      exact ⟨e0, e1⟩
/-- the row under way, and the rows behind -/
structure RL (base : Nat) (W : World) (vo : Value) (R : List (List (Int × Int))) (vs : List Value) (l : Value) (r : List (Int × Int)) : Prop where
  ro : RO base W vo R vs
  row : W.ownsRow base TTR 2 l r.length (pairCells r)
  apart : l.ownBlock = none ∨ l.ownBlock ≠ vo.ownBlock
  others : ∀ (j : Nat) (v : Value), vs[j]? = some v → v.ownBlock = none ∨ v.ownBlock ≠ l.ownBlock
theorem RL.start (h : RO base W vo R vs) : RL base W vo R vs (.slice none 0 0) [] := ⟨h, World.ownsRow_nil _ _ _ _, .inl rfl, fun j v hv => some_none v⟩
theorem RL.below {r : List (Int × Int)} (h : RL base W vo R vs l r) (hb : Below W.heap.size W W') : RL base W' vo R vs l r := ⟨h.ro.below hb, h.row.kept (grown_below hb) (some_none _), h.apart, h.others⟩
theorem RL.app {r : List (Int × Int)} {l' : Value} {t : Int × Int} (h : RL base W vo R vs l r) (hown : W'.ownsRow base TTR 2 l' (r.length + 1) (pairCells r ++ [.int .i64 t.1, .int .i64 t.2])) (hg : W.grownBy W' l.ownBlock) (hat : l'.ownBlock = l.ownBlock ∨ l'.ownBlock = some W.heap.size) : RL base W' vo R vs l' (r ++ [t]) := by
  have hvo : vo.ownBlock = none ∨ vo.ownBlock ≠ l.ownBlock := by
    rcases h.apart with e | e
    · rw [e]; exact some_none _
    · exact .inr fun e2 => e e2.symm
  refine ⟨h.ro.kept hg hvo h.others, by rw [pairCells_snoc, List.length_append]; exact hown, ?_, fun j v hv => ?_⟩
  · rcases hat with e | e
    · rw [e]; exact h.apart
    · rw [e]
      refine .inr fun e2 => ?_
      have := (h.ro.own.lt _ e2.symm).2
      omega
  · rcases hat with e | e
    · rw [e]; exact h.others j v hv
    · rw [e]
      cases hv2 : v.ownBlock with
      | none => exact .inl rfl
      | some g => exact .inr (fun e2 => by have := ((h.ro.row j v hv).lt g hv2).2; simp at e2; omega)
end XR
end Go.Proofs.Ytieehjkmfmkfjaa
/-
  The document's Resolve: a contract. Condition: the objects lie in memory, and have not too many symbols.
-/
namespace Go.Proofs.Ytieehjkmfmkfjaa
open Go.RowKit Go.Maps Go.WideMaps
set_option linter.unusedVariables false
set_option linter.unusedSimpArgs false
namespace XV
open OO OJ RsM RsP RsS RsT RsV RsY RsB RsH OCk SD XM XR
abbrev TSI : TypeId := 74
theorem infoT : (Try.prog.info? TTR).map (fun i => (i.zero, i.size, i.bytes)) = some (some (tgtV 0 0), 2, 16) := by kernel_rfl
abbrev TSO : TypeId := 38
theorem infoS : (Try.prog.info? TSR).map (fun i => (i.zero, i.size, i.bytes)) = some (some (.slice none 0 0), 1, 24) := by kernel_rfl
/-- what Resolve answers: its targets, its place, its error -/
def RRes (objs : List ObjV) (w : World) (e : Ending) (w' : World) : Prop :=
  ∃ p c, e = .returned (.tuple #[.slice p (tgL objs).length c, .agg #[.int .i64 (placeOf objs).1, .int .i64 (placeOf objs).2], .int .i64 (resCode objs)]) ∧ TgtsAt w' (.slice p (tgL objs).length c) (tgL objs) ∧ Below w.heap.size w w'
theorem rres_bad {objs : List ObjV} {w w' : World} {i k c : Int} (h : resCode objs = c ∧ placeOf objs = (i, k) ∧ tgL objs = []) (hb : Below w.heap.size w w') : RRes objs w (.returned (.tuple #[.slice none 0 0, .agg #[.int .i64 i, .int .i64 k], .int .i64 c])) w' := by
  obtain ⟨h1, h2, h3⟩ := h
  refine ⟨none, 0, by rw [h1, h2, h3]; rfl, by rw [h3]; exact tgts_none _, hb⟩
abbrev Z2 : Obj := .cells #[.int .i64 0, .int .i64 0] TTR
theorem zero_at {w W : World} (hN : W.heap[w.heap.size]? = some Z2) : W.cell? ⟨w.heap.size, 0, none⟩ = some (.int .i64 0) ∧ W.cell? ⟨w.heap.size, 1, none⟩ = some (.int .i64 0) ∧ W.frozen? ⟨w.heap.size, 0, none⟩ = false ∧ W.frozen? ⟨w.heap.size, 1, none⟩ = false :=
  ⟨Lib.cell_of_heap hN 0, Lib.cell_of_heap hN 1, frz hN 0, frz hN 1⟩
theorem set2 {w W : World} (hb : Below w.heap.size w W) (a b : Value) : Below w.heap.size w ((W.setCell ⟨w.heap.size, 0, none⟩ a).setCell ⟨w.heap.size, 1, none⟩ b) :=
  (hb.setCell (p := ⟨w.heap.size, 0, none⟩) (Nat.le_refl _) _).setCell (p := ⟨w.heap.size, 1, none⟩) (Nat.le_refl _) _
theorem sym5 {W : World} {b : Nat} {T : TypeId} {p q r s t : Value} (h : W.heap[b]? = some (.cells #[p, q, r, s, t] T (0, 0))) (o : Obj) :
    (W.alloc o).cell? ⟨b, 0, none⟩ = some p ∧ (W.alloc o).cell? ⟨b, 1, none⟩ = some q ∧ (W.alloc o).cell? ⟨b, 2, none⟩ = some r ∧ (W.alloc o).cell? ⟨b, 3, none⟩ = some s ∧ (W.alloc o).cell? ⟨b, 4, none⟩ = some t := by
  have h2 : (W.alloc o).heap[b]? = some (.cells #[p, q, r, s, t] T (0, 0)) := (Lib.alloc_old _ _ _ (lt_heap h)).trans h
  exact ⟨Lib.cell_of_heap h2 0, Lib.cell_of_heap h2 1, Lib.cell_of_heap h2 2, Lib.cell_of_heap h2 3, Lib.cell_of_heap h2 4⟩
theorem after_set {w2 : World} {r : Nat} {T : TypeId} {a0 b0 : Value} (h6 : w2.heap[r + 1]? = some (.cells #[a0, b0] T (0, 0))) {wr : World} (hr : wr.heap.size ≤ r + 1) (hb : Below wr.heap.size wr w2) (a b : Value) :
    ((w2.setCell ⟨r + 1, 0, none⟩ a).setCell ⟨r + 1, 1, none⟩ b).heap[r + 1]? = some (.cells #[a, b] T (0, 0)) ∧ Below wr.heap.size wr ((w2.setCell ⟨r + 1, 0, none⟩ a).setCell ⟨r + 1, 1, none⟩ b) := by
  have h1 := heap_setCell_same w2 (r + 1) 0 _ _ a h6
  have h2 := heap_setCell_same _ (r + 1) 1 _ _ b h1
  exact ⟨h2, (hb.setCell (p := ⟨r + 1, 0, none⟩) hr _).setCell (p := ⟨r + 1, 1, none⟩) hr _⟩
theorem own_shape {w : World} {base n m size : Nat} {e : TypeId} {v : Value} {xs : List Value} (h : w.ownsRow base e size v n xs) (hn : n = m) : ∃ p c, v = .slice p m c := by
  rcases h.2 with ⟨rfl, e⟩ | ⟨g, cap, cur, rfl, -⟩
  · exact ⟨none, 0, by rw [← hn, e]⟩
  · exact ⟨_, _, by rw [hn]⟩
/-- the row is grown by a target -/
theorem pushed {w X w5 : World} {vo l l' : Value} {R : List (List (Int × Int))} {vs : List Value} {r : List (Int × Int)} {a b : Int} {o : Obj} (HBW : Below w.heap.size w X) (HBX : X.heap[w.heap.size]? = some Z2) (HRX : RL (w.heap.size + 1) X vo R vs l r)
    (hown : w5.ownsRow (w.heap.size + 1) TTR 2 l' (r.length + 1) (pairCells r ++ [.int .i64 a, .int .i64 b])) (hg : (X.alloc o).grownBy w5 l.ownBlock) (hat : l'.ownBlock = l.ownBlock ∨ l'.ownBlock = some (X.alloc o).heap.size) :
    RL (w.heap.size + 1) w5 vo R vs l' (r ++ [(a, b)]) ∧ Below w.heap.size w w5 ∧ w5.heap[w.heap.size]? = some Z2 := by
  have hl := lt_heap HBX
  have hlow : ∀ g, l.ownBlock = some g → w.heap.size + 1 ≤ g := fun g e => (HRX.row.lt g e).1
  refine ⟨(HRX.below ((Below.refl _ _).alloc (Nat.le_refl _) o)).app (t := (a, b)) hown hg hat, ?_, ?_⟩
  · exact (HBW.alloc HBW.size o).grown hg (by rw [World.size_alloc]; omega) fun g e => by have := hlow g e; omega
  · rw [hg.block _ (by rw [World.size_alloc]; omega) (fun e => by have := hlow _ e.symm; omega)]
    exact (Lib.alloc_old _ _ _ hl).trans HBX
/-- the rows are grown by the row -/
theorem pushed2 {w X w5 : World} {vo vo' l : Value} {R : List (List (Int × Int))} {vs : List Value} {r : List (Int × Int)} {o : Obj} (HBW : Below w.heap.size w X) (HBX : X.heap[w.heap.size]? = some Z2) (HRX : RL (w.heap.size + 1) X vo R vs l r)
    (hown : w5.ownsRow (w.heap.size + 1) TSR 1 vo' (R.length + 1) (vs ++ [l])) (hg : (X.alloc o).grownBy w5 vo.ownBlock) (hat : vo'.ownBlock = vo.ownBlock ∨ vo'.ownBlock = some (X.alloc o).heap.size) :
    RO (w.heap.size + 1) w5 vo' (R ++ [r]) (vs ++ [l]) ∧ Below w.heap.size w w5 ∧ w5.heap[w.heap.size]? = some Z2 := by
  have hl := lt_heap HBX
  have hlow : ∀ g, vo.ownBlock = some g → w.heap.size + 1 ≤ g := fun g e => (HRX.ro.own.lt g e).1
  have hA := HRX.below ((Below.refl _ _).alloc (Nat.le_refl _) o)
  refine ⟨hA.ro.push hA.row hA.apart hown hg hat, ?_, ?_⟩
  · exact (HBW.alloc HBW.size o).grown hg (by rw [World.size_alloc]; omega) fun g e => by have := hlow g e; omega
  · rw [hg.block _ (by rw [World.size_alloc]; omega) (fun e => by have := hlow _ e.symm; omega)]
    exact (Lib.alloc_old _ _ _ hl).trans HBX
theorem set2_grown (W : World) (r : Nat) (a b : Value) : W.grownBy ((W.setCell ⟨r, 0, none⟩ a).setCell ⟨r, 1, none⟩ b) (some r) :=
  ⟨rfl, rfl, rfl, by simp, fun i _ hi => (heap_setCell_other _ ⟨r, 1, none⟩ i b (fun e => hi (by rw [e]))).trans (heap_setCell_other _ ⟨r, 0, none⟩ i a (fun e => hi (by rw [e])))⟩
theorem ro_set2 {w W : World} {vo : Value} {R : List (List (Int × Int))} {vs : List Value} (h : RO (w.heap.size + 1) W vo R vs) (a b : Value) : RO (w.heap.size + 1) ((W.setCell ⟨w.heap.size, 0, none⟩ a).setCell ⟨w.heap.size, 1, none⟩ b) vo R vs := by
  refine h.kept (set2_grown W _ a b) ?_ fun j v hv => ?_
  · cases e : vo.ownBlock with
    | none => exact .inl rfl
    | some g => exact .inr (fun e2 => by have := (h.own.lt g e).1; simp at e2; omega)
  · cases e : v.ownBlock with
    | none => exact .inl rfl
    | some g => exact .inr (fun e2 => by have := ((h.row j v hv).lt g e).1; simp at e2; omega)
set_option maxRecDepth 100000 in
set_option maxHeartbeats 16000000 in
theorem rres_ {w : World} {n₀ : Nat} {v : Value} {objs : List ObjV} (hn : n₀ ≤ w.heap.size) (ho : ObjsAt n₀ w v objs) (hw : ∀ o ∈ objs, o.Wf) (hm : objs.length ≤ 100000) (hms : ∀ o ∈ objs, o.ss.length ≤ 100000) :
    Calls Try.prog 14 #[v] w (RRes objs w) := by
  have HOA := Lib.hid ho
  obtain ⟨p, c, rfl, hsl⟩ := ho
  have HO := Lib.hid hsl
  have HW := Lib.hid hw
  have HMS := Lib.hid hms
  obtain ⟨i0, hi, hz0, hz1, hz2⟩ := info_parts infoT
  obtain ⟨j0, gi, gz0, gz1, gz2⟩ := info_parts infoS
  clear hsl hw hms
  go_enter Try.func14, Try.ntmps14
  go_upto_region 1 with fail
  have HX0 := Lib.hid (heap_alloc_new w Z2)
  have HB0 := Lib.hid (SC.box0 w Z2)
  generalize w.alloc Z2 = W0 at *
  go_wp2_with fail
  go_loopw [20] (fun i wr => ∃ k : Nat, k ≤ objs.length ∧ i = .int .i64 k ∧ Hid (noneFrom objs 0 = noneFrom objs k) ∧ Below w.heap.size w wr ∧ wr.heap[w.heap.size]? = some Z2) (fun i _ => objs.length - (intOf i).toNat)
  case atStart => exact ⟨0, Nat.zero_le _, rfl, Lib.hid rfl, HB0.out, HX0.out⟩
  case round =>
    clear HB0 HX0
    obtain ⟨k, hk, rfl, hq, hbl, hbx⟩ := hrel
    have HBX := Lib.hid hbx
    have HBL := Lib.hid hbl
    have hN := lt_heap hbx
    by_cases hlt : k < objs.length
    · obtain ⟨b, o, rfl, hb, -, -, hall⟩ := HO.out (by omega)
      obtain ⟨v0, v1, v2, v3, k0, k1, k2, k3, hoa⟩ := (hall k _ (List.getElem?_eq_getElem hlt)).same (Same.of hbl hn) hb
      have cn := SC.good_ (w := wr) (Nat.le_trans hn hbl.size) hoa (HW.out _ (List.getElem_mem hlt)) (OB.lens hoa)
      have hy := Lib.hid (fun h => noneFrom_yes hlt h)
      have hx := Lib.hid (fun h => noneFrom_no hlt h)
      obtain ⟨p0, q0, rfl, -⟩ := hoa.ws
      obtain ⟨p1, q1, rfl, -⟩ := hoa.ds
      obtain ⟨p2, q2, rfl, -⟩ := hoa.ss
      obtain ⟨p3, q3, rfl, -⟩ := hoa.rs
      clear hall hbl hbx
      generalize chk objs[k] = cb at *
      clear hoa
      cases cb
      · go_wp2_with (go_at_call 30; (with_reducible refine cn.mono ?_); rintro e w1 ⟨rfl, hb1⟩; obtain ⟨t0, t1, z0, z1⟩ := zero_at ((hb1.block _ hN).trans HBX.out); have H1 := Lib.hid hb1; clear hb1)
        refine bodyPost_ret (v := .tuple #[.slice none 0 0, .agg #[.int .i64 k, .int .i64 0], .int .i64 2]) (by simp [results, Try.results14, go_sem, t0, t1]) rfl ?_
        exact rres_bad (r_none (by rw [hq.out]; first | exact hy.out rfl | exact hy.out trivial)) (set2 (HBL.out.trans (H1.out.mono HBL.out.size)) _ _)
      · go_wp2_with (go_at_call 30; (with_reducible refine cn.mono ?_); rintro e w1 ⟨rfl, hb1⟩; have H1 := Lib.hid hb1; clear hb1)
        go_roundw
        case rel => exact ⟨k + 1, by omega, by go_num, Lib.hid (hq.out.trans (by first | exact hx.out rfl | exact hx.out trivial)), HBL.out.trans (H1.out.mono HBL.out.size), (H1.out.block _ hN).trans HBX.out⟩
        case measure => simp [intOf]; omega
    · obtain rfl : k = objs.length := by omega
      have HNO := Lib.hid (show noneFrom objs 0 = -1 by rw [hq.out]; exact noneFrom_end objs)
      clear hbx hq hbl hlt hk hN
      go_wp2_with fail
      go_loopw [34] (fun i wr => ∃ k : Nat, k ≤ objs.length ∧ i = .int .i64 k ∧ Hid (T2 objs (pos objs k 0)) ∧ Below w.heap.size w wr ∧ wr.heap[w.heap.size]? = some Z2) (fun i _ => objs.length - (intOf i).toNat)
      case atStart => exact ⟨0, Nat.zero_le _, rfl, Lib.hid (by rw [pos_zero]; rfl), HBL.out, HBX.out⟩
      case round =>
        clear HBX HBL
        obtain ⟨k, hk, rfl, HT, hbl, hbx⟩ := hrel
        have HBX := Lib.hid hbx
        have HBL := Lib.hid hbl
        have hN := lt_heap hbx
        by_cases hlt : k < objs.length
        · obtain ⟨b, o, rfl, hb, -, -, hin⟩ := HO.out (by omega)
          obtain ⟨v0, v1, v2, v3, -, -, c2, -, hoa⟩ := hin k _ (List.getElem?_eq_getElem hlt)
          obtain ⟨ps, cs, rfl, hss⟩ := hoa.ss
          have hbw : b < w.heap.size := by omega
          have hls : objs[k].ss.length ≤ 100000 := HMS.out _ (List.getElem_mem hlt)
          have g2 : wr.cell? ⟨b, o + k * 4 + 2, none⟩ = some (.slice ps objs[k].ss.length cs) := (hbl.cell (p := ⟨b, o + k * 4 + 2, none⟩) hbw).trans c2
          have hk1 : (0 : Int) ≤ (k : Int) := by omega
          have HC2 := Lib.hid c2
          have HSS := Lib.hid hss
          clear hbl hbx c2 hss hin hoa
          go_wp2_with fail
          go_loopw [43] (fun i wr => ∃ j : Nat, j ≤ objs[k].ss.length ∧ i = .int .i64 j ∧ Hid (T2 objs (pos objs k j)) ∧ Below w.heap.size w wr ∧ wr.heap[w.heap.size]? = some Z2) (fun i _ => objs[k].ss.length - (intOf i).toNat)
          case atStart => exact ⟨0, Nat.zero_le _, rfl, HT, HBL.out, HBX.out⟩
          case round =>
            clear g2 HBL HBX HT
            obtain ⟨j, hj, rfl, HT, hbl, hbx⟩ := hrel
            have HBX := Lib.hid hbx
            have HBL := Lib.hid hbl
            have hN2 := lt_heap hbx
            by_cases hjl : j < objs[k].ss.length
            · obtain ⟨sb, so, rfl, hsb, -, -, hrow⟩ := HSS.out (by omega)
              obtain ⟨s0, s1, s2, s3, s4⟩ := (hrow j _ (List.getElem?_eq_getElem hjl)).below (hbl.mono hn) hsb
              have g2 : wr.cell? ⟨b, o + k * 4 + 2, none⟩ = some (.slice (some ⟨sb, so, none⟩) objs[k].ss.length cs) := (hbl.cell (p := ⟨b, o + k * 4 + 2, none⟩) hbw).trans HC2.out
              have hj1 : (0 : Int) ≤ (j : Int) := by omega
              have c1 := fun (W : World) (h : Below w.heap.size w W) => Find_ objs[k].ss[j].name (Nat.le_trans hn h.size) (HOA.out.same (Same.of h hn))
              have c3 := fun W => defines_ objs[k].ss[j] objs[k].ss[j].name W
              simp only [decide_true, Bool.and_true] at c3
              have HTW := Lib.hid (tw_find hlt hjl)
              have HNX := Lib.hid (fun h => t2_next hlt hjl HT.out h)
              have HHT := Lib.hid (fun h => t2_hit hlt hjl HT.out h)
              clear hbl hbx hrow
              generalize objs[k].ss[j] = s at *
              generalize tw (flat objs) ⟨k, j, s⟩ = tb at *
              generalize fI objs s.name = fi at *
              generalize fK objs s.name = fk at *
              generalize fB objs s.name = fb at *
              generalize defs s = ds at *
              obtain ⟨nm, sc, vl, fr, gl⟩ := s
              simp only at c1 c3 s0 s1 s2 s3 s4 HNX HHT
              have cw := c1 (wr.alloc (.cells #[.string nm, .int .i64 sc, .int .i64 vl, .int .i64 fr, .bool gl] 52)) (HBL.out.alloc HBL.out.size _)
              clear c1
              go_upto_region 15 with (go_at_call 31; (with_reducible refine cw.mono ?_); rintro e w2 ⟨rfl, hb2⟩; obtain ⟨hsy, hb2'⟩ := CT.row1 hb2; obtain ⟨u0, u1, u2, u3, u4⟩ := sym5 hsy (.cells #[.int .i64 fi, .int .i64 fk] TTR); have HB2 := Lib.hid hb2'; have HSY := Lib.hid hsy; clear hb2 hb2' hsy)
              have AD := c3
              clear c3 cw s0 s1 s2 s3 s4
              cases ds
              · go_wp2_with (go_at_call 32; (with_reducible refine (AD _).mono ?_); rintro e w3 ⟨rfl, hb3⟩; obtain ⟨htc, hb3'⟩ := CT.row1 hb3; have HB3 := Lib.hid hb3'; clear hb3 hb3' htc)
                go_roundw
                case rel => exact ⟨j + 1, by omega, by go_num, Lib.hid (HNX.out HTW.out), HBL.out.trans ((HB2.out.trans (HB3.out.mono HB2.out.size)).mono HBL.out.size), (HB3.out.block _ (Nat.lt_of_lt_of_le hN2 HB2.out.size)).trans ((HB2.out.block _ hN2).trans HBX.out)⟩
                case measure => simp [intOf]; omega
              · by_cases e1 : fi = (k : Int)
                · by_cases e2 : fk = (j : Int)
                  · subst e1
                    subst e2
                    go_wp2_with (go_at_call 32; (with_reducible refine (AD _).mono ?_); rintro e w3 ⟨rfl, hb3⟩; obtain ⟨htc, hb3'⟩ := CT.row1 hb3; have f0 := Lib.cell_of_heap htc 0; have f1 := Lib.cell_of_heap htc 1; simp only [List.getElem?_toArray, List.getElem?_cons_zero, List.getElem?_cons_succ] at f0 f1; have HB3 := Lib.hid hb3'; clear hb3 hb3' htc)
                    go_roundw
                    case rel => exact ⟨j + 1, by omega, by go_num, Lib.hid (HNX.out (by rw [HTW.out]; simp)), HBL.out.trans ((HB2.out.trans (HB3.out.mono HB2.out.size)).mono HBL.out.size), (HB3.out.block _ (Nat.lt_of_lt_of_le hN2 HB2.out.size)).trans ((HB2.out.block _ hN2).trans HBX.out)⟩
                    case measure => simp [intOf]; omega
                  · subst e1
                    have HE2 := Lib.hid e2
                    go_wp2_with (go_at_call 32; (with_reducible refine (AD _).mono ?_); rintro e w3 ⟨rfl, hb3⟩; obtain ⟨htc, hb3'⟩ := CT.row1 hb3; have f0 := Lib.cell_of_heap htc 0; have f1 := Lib.cell_of_heap htc 1; simp only [List.getElem?_toArray, List.getElem?_cons_zero, List.getElem?_cons_succ] at f0 f1; obtain ⟨t0, t1, z0, z1⟩ := zero_at ((hb3'.block _ (Nat.lt_of_lt_of_le hN2 HB2.out.size)).trans ((HB2.out.block _ hN2).trans HBX.out)); have HB3 := Lib.hid hb3'; clear hb3 hb3' htc)
                    refine bodyPost_ret (v := .tuple #[.slice none 0 0, .agg #[.int .i64 k, .int .i64 j], .int .i64 4]) (by simp [results, Try.results14, go_sem, t0, t1]) rfl ?_
                    obtain ⟨r, hr⟩ := HHT.out (by rw [HTW.out]; simp [HE2.out])
                    exact rres_bad (r_again HNO.out hr) (set2 (HBL.out.trans ((HB2.out.trans (HB3.out.mono HB2.out.size)).mono HBL.out.size)) _ _)
                · have HE1 := Lib.hid e1
                  go_wp2_with (go_at_call 32; (with_reducible refine (AD _).mono ?_); rintro e w3 ⟨rfl, hb3⟩; obtain ⟨htc, hb3'⟩ := CT.row1 hb3; have f0 := Lib.cell_of_heap htc 0; have f1 := Lib.cell_of_heap htc 1; simp only [List.getElem?_toArray, List.getElem?_cons_zero, List.getElem?_cons_succ] at f0 f1; obtain ⟨t0, t1, z0, z1⟩ := zero_at ((hb3'.block _ (Nat.lt_of_lt_of_le hN2 HB2.out.size)).trans ((HB2.out.block _ hN2).trans HBX.out)); have HB3 := Lib.hid hb3'; clear hb3 hb3' htc)
                  refine bodyPost_ret (v := .tuple #[.slice none 0 0, .agg #[.int .i64 k, .int .i64 j], .int .i64 4]) (by simp [results, Try.results14, go_sem, t0, t1]) rfl ?_
                  obtain ⟨r, hr⟩ := HHT.out (by rw [HTW.out]; simp [HE1.out])
                  exact rres_bad (r_again HNO.out hr) (set2 (HBL.out.trans ((HB2.out.trans (HB3.out.mono HB2.out.size)).mono HBL.out.size)) _ _)
            · obtain rfl : j = objs[k].ss.length := by omega
              have HT2 := Lib.hid (t2_row hlt HT.out)
              clear hbl hbx
              go_wp2_with fail
              go_roundw
              case rel => exact ⟨k + 1, by omega, by go_num, HT2, HBL.out, HBX.out⟩
              case measure => simp [intOf]; omega
        · obtain rfl : k = objs.length := by omega
          have HAG := Lib.hid (t2_end HT.out)
          clear hbx hbl hlt hk hN HT
          go_wp2_with fail
          go_loopw [11, 84] (fun out i wr => ∃ (k : Nat) (q : Option Addr) (cq : Nat) (vs : List Value), k ≤ objs.length ∧ i = .int .i64 k ∧ out = .slice q k cq ∧ Hid (T3 objs (pos objs k 0)) ∧ Hid (RO (w.heap.size + 1) wr (.slice q k cq) (rws objs k) vs) ∧ Below w.heap.size w wr ∧ wr.heap[w.heap.size]? = some Z2) (fun _ i _ => objs.length - (intOf i).toNat)
          case atStart => exact ⟨0, none, 0, [], Nat.zero_le _, rfl, rfl, Lib.hid (by rw [pos_zero]; intro x hx; simp at hx), Lib.hid (RO.nil _ _), HBL.out, HBX.out⟩
          case round =>
            clear HBX HBL
            obtain ⟨k, q, cq, vs, hk, rfl, rfl, HT, HR, hbl, hbx⟩ := hrel
            have HBX := Lib.hid hbx
            have HBL := Lib.hid hbl
            have hN := lt_heap hbx
            by_cases hlt : k < objs.length
            · obtain ⟨b, o, rfl, hb, -, -, hin⟩ := HO.out (by omega)
              obtain ⟨v0, v1, v2, v3, -, -, c2, -, hoa⟩ := hin k _ (List.getElem?_eq_getElem hlt)
              obtain ⟨ps, cs, rfl, hss⟩ := hoa.ss
              have hbw : b < w.heap.size := by omega
              have hls : objs[k].ss.length ≤ 100000 := HMS.out _ (List.getElem_mem hlt)
              have g2 : wr.cell? ⟨b, o + k * 4 + 2, none⟩ = some (.slice ps objs[k].ss.length cs) := (hbl.cell (p := ⟨b, o + k * 4 + 2, none⟩) hbw).trans c2
              have hk1 : (0 : Int) ≤ (k : Int) := by omega
              have HC2 := Lib.hid c2
              have HSS := Lib.hid hss
              clear hbl hbx c2 hss hin hoa
              go_wp2_with fail
              go_loopw [13, 93] (fun l i wr => ∃ (j : Nat) (ql : Option Addr) (cl : Nat), j ≤ objs[k].ss.length ∧ i = .int .i64 j ∧ l = .slice ql j cl ∧ Hid (T3 objs (pos objs k j)) ∧ Hid (RL (w.heap.size + 1) wr (.slice q k cq) (rws objs k) vs (.slice ql j cl) (((row objs k).take j).map (tgs (flat objs)))) ∧ Below w.heap.size w wr ∧ wr.heap[w.heap.size]? = some Z2) (fun _ i _ => objs[k].ss.length - (intOf i).toNat)
              case atStart => exact ⟨0, none, 0, Nat.zero_le _, rfl, rfl, HT, Lib.hid (RL.start HR.out), HBL.out, HBX.out⟩
              case round =>
                clear g2 HBL HBX HT HR
                obtain ⟨j, ql, cl, hj, rfl, rfl, HT, HR, hbl, hbx⟩ := hrel
                have HBX := Lib.hid hbx
                have HBL := Lib.hid hbl
                have hN2 := lt_heap hbx
                by_cases hjl : j < objs[k].ss.length
                · obtain ⟨sb, so, rfl, hsb, -, -, hrow⟩ := HSS.out (by omega)
                  obtain ⟨s0, s1, s2, s3, s4⟩ := (hrow j _ (List.getElem?_eq_getElem hjl)).below (hbl.mono hn) hsb
                  have g2 : wr.cell? ⟨b, o + k * 4 + 2, none⟩ = some (.slice (some ⟨sb, so, none⟩) objs[k].ss.length cs) := (hbl.cell (p := ⟨b, o + k * 4 + 2, none⟩) hbw).trans HC2.out
                  have hj1 : (0 : Int) ≤ (j : Int) := by omega
                  have c1 := fun (W : World) (h : Below w.heap.size w W) => Find_ objs[k].ss[j].name (Nat.le_trans hn h.size) (HOA.out.same (Same.of h hn))
                  obtain ⟨htg, hbd⟩ := tgs_find (objs := objs) k j objs[k].ss[j]
                  have HNX := Lib.hid (fun h => t3_next hlt hjl HT.out h)
                  have HHT := Lib.hid (fun h => t3_hit hlt hjl HT.out h)
                  have HMP := Lib.hid (show ((row objs k).take (j + 1)).map (tgs (flat objs)) = ((row objs k).take j).map (tgs (flat objs)) ++ [tgs (flat objs) ⟨k, j, objs[k].ss[j]⟩] by rw [row_take hlt hjl, List.map_append]; rfl)
                  have HLN := Lib.hid (show (((row objs k).take j).map (tgs (flat objs))).length = j by rw [List.length_map, List.length_take, row_length, ssAt_eq hlt]; omega)
                  clear hbl hbx hrow
                  generalize objs[k].ss[j] = s at *
                  generalize fI objs s.name = fi at *
                  generalize fK objs s.name = fk at *
                  generalize fB objs s.name = fb at *
                  generalize ((row objs k).take j).map (tgs (flat objs)) = R at *
                  generalize tgs (flat objs) ⟨k, j, s⟩ = tg at *
                  have HBD := Lib.hid hbd
                  clear hbd
                  obtain ⟨nm, sc, vl, fr, gl⟩ := s
                  simp only at c1 htg s0 s1 s2 s3 s4 HNX HHT HBD
                  have HTG := Lib.hid htg
                  clear htg
                  have A2B := ((Below.refl wr.heap.size wr).alloc (Nat.le_refl _) (.cells #[.string nm, .int .i64 sc, .int .i64 vl, .int .i64 fr, .bool gl] 52)).alloc (by simp) (.cells #[.int .i64 (k : Int), .int .i64 (j : Int)] TTR)
                  have A2H : ((wr.alloc (.cells #[.string nm, .int .i64 sc, .int .i64 vl, .int .i64 fr, .bool gl] 52)).alloc (.cells #[.int .i64 (k : Int), .int .i64 (j : Int)] TTR)).heap[wr.heap.size + 1]? = some (.cells #[.int .i64 (k : Int), .int .i64 (j : Int)] TTR (0, 0)) := by
                    have := heap_alloc_new (wr.alloc (.cells #[.string nm, .int .i64 sc, .int .i64 vl, .int .i64 fr, .bool gl] 52)) (.cells #[.int .i64 (k : Int), .int .i64 (j : Int)] TTR)
                    rwa [World.size_alloc] at this
                  have cw := c1 _ (HBL.out.trans (A2B.mono HBL.out.size))
                  have HA2B := Lib.hid A2B
                  have HA2H := Lib.hid A2H
                  clear c1 A2B A2H
                  by_cases e0 : sc = 0
                  · subst e0
                    go_upto_region 32 with (go_at_call 31; (with_reducible refine cw.mono ?_); rintro e w2 ⟨rfl, hb2⟩; have h6 := (hb2.block _ (lt_heap HA2H.out)).trans HA2H.out; have t0 := Lib.cell_of_heap h6 0; have t1 := Lib.cell_of_heap h6 1; have z0 := frz h6 0; have z1 := frz h6 1; simp only [List.getElem?_toArray, List.getElem?_cons_zero, List.getElem?_cons_succ] at t0 t1; have H6 := Lib.hid h6; clear h6; have HB2 := Lib.hid (HA2B.out.trans (hb2.mono HA2B.out.size)); clear hb2)
                    obtain ⟨hx1, hx2⟩ := after_set H6.out (by omega) HB2.out (.int .i64 fi) (.int .i64 fk)
                    have HRX := Lib.hid (HR.out.below hx2)
                    have y0 := Lib.cell_of_heap hx1 0
                    have y1 := Lib.cell_of_heap hx1 1
                    simp only [List.getElem?_toArray, List.getElem?_cons_zero, List.getElem?_cons_succ] at y0 y1
                    have HXB := Lib.hid hx2
                    clear hx1 hx2 t0 t1 z0 z1 H6 HB2 HA2B HA2H cw
                    generalize (w2.setCell ⟨wr.heap.size + 1, 0, none⟩ (.int .i64 fi)).setCell ⟨wr.heap.size + 1, 1, none⟩ (.int .i64 fk) = X at *
                    cases fb
                    · obtain ⟨t0, t1, z0, z1⟩ := zero_at ((HXB.out.block _ hN2).trans HBX.out)
                      go_wp2
                      refine bodyPost_ret (v := .tuple #[.slice none 0 0, .agg #[.int .i64 k, .int .i64 j], .int .i64 3]) (by simp [results, Try.results14, go_sem, t0, t1]) rfl ?_
                      exact rres_bad (r_bad HNO.out HAG.out (HHT.out (by rw [HBD.out]; rfl))) (set2 (HBL.out.trans (HXB.out.mono HBL.out.size)) _ _)
                    · have HBW := Lib.hid (HBL.out.trans (HXB.out.mono HBL.out.size))
                      have HBZ := Lib.hid ((HXB.out.block _ hN2).trans HBX.out)
                      have HSZ := Lib.hid (show w.heap.size + 1 ≤ X.heap.size from lt_heap HBZ.out)
                      go_wp2_with (at_builtin; refine wpList_append_own_at _ rfl _ _ TSI rfl (w.heap.size + 1) TTR i0 (tgtV 0 0) 2 16 Try.underlying74 hi hz0 hz1 hz2 rfl (by decide) _ _ _ rfl (HRX.out.row.alloc _) ⟨X.heap.size, 0, none⟩ 1 1 [.int .i64 fi, .int .i64 fk] rfl rfl (World.news_of_block (cs := #[.int .i64 fi, .int .i64 fk]) (t := TTR) (fr := (0, 0)) (heap_alloc_new _ _)) (by simp [Value.oneCell']) (by have := HLN.out; unfold maxLen; omega) (by have := HLN.out; omega) (by have := HSZ.out; rw [World.size_alloc]; omega) ?_; intro l' w5 hown5 hgrow5 _ hat5; obtain ⟨q5, c5, rfl⟩ := own_shape hown5 (show _ = j + 1 by rw [HLN.out]); obtain ⟨p1, p2, p3⟩ := pushed HBW.out HBZ.out HRX.out hown5 hgrow5 hat5; have P1 := Lib.hid p1; have P2 := Lib.hid p2; have P3 := Lib.hid p3; clear hown5 hgrow5 hat5 p1 p2 p3)
                      refine ⟨⟨j + 1, q5, c5, by omega, by go_num, rfl, Lib.hid (HNX.out (by rw [HBD.out]; rfl)), Lib.hid (by rw [HMP.out, HTG.out]; exact P1.out), P2.out, P3.out⟩, by simp [intOf]; omega⟩
                  · have HE0 := Lib.hid e0
                    go_upto_region 32 with fail
                    have HRX := Lib.hid (HR.out.below HA2B.out)
                    have y0 := Lib.cell_of_heap HA2H.out 0
                    have y1 := Lib.cell_of_heap HA2H.out 1
                    simp only [List.getElem?_toArray, List.getElem?_cons_zero, List.getElem?_cons_succ] at y0 y1
                    have HXB := Lib.hid HA2B.out
                    clear HA2B HA2H cw
                    generalize (wr.alloc (.cells #[.string nm, .int .i64 sc, .int .i64 vl, .int .i64 fr, .bool gl] 52)).alloc (.cells #[.int .i64 (k : Int), .int .i64 (j : Int)] TTR) = X at *
                    have HBW := Lib.hid (HBL.out.trans (HXB.out.mono HBL.out.size))
                    have HBZ := Lib.hid ((HXB.out.block _ hN2).trans HBX.out)
                    have HSZ := Lib.hid (show w.heap.size + 1 ≤ X.heap.size from lt_heap HBZ.out)
                    go_wp2_with (at_builtin; refine wpList_append_own_at _ rfl _ _ TSI rfl (w.heap.size + 1) TTR i0 (tgtV 0 0) 2 16 Try.underlying74 hi hz0 hz1 hz2 rfl (by decide) _ _ _ rfl (HRX.out.row.alloc _) ⟨X.heap.size, 0, none⟩ 1 1 [.int .i64 (k : Int), .int .i64 (j : Int)] rfl rfl (World.news_of_block (cs := #[.int .i64 (k : Int), .int .i64 (j : Int)]) (t := TTR) (fr := (0, 0)) (heap_alloc_new _ _)) (by simp [Value.oneCell']) (by have := HLN.out; unfold maxLen; omega) (by have := HLN.out; omega) (by have := HSZ.out; rw [World.size_alloc]; omega) ?_; intro l' w5 hown5 hgrow5 _ hat5; obtain ⟨q5, c5, rfl⟩ := own_shape hown5 (show _ = j + 1 by rw [HLN.out]); obtain ⟨p1, p2, p3⟩ := pushed HBW.out HBZ.out HRX.out hown5 hgrow5 hat5; have P1 := Lib.hid p1; have P2 := Lib.hid p2; have P3 := Lib.hid p3; clear hown5 hgrow5 hat5 p1 p2 p3)
                    refine ⟨⟨j + 1, q5, c5, by omega, by go_num, rfl, Lib.hid (HNX.out (by rw [HBD.out]; simp [HE0.out])), Lib.hid (by rw [HMP.out, HTG.out, if_neg HE0.out]; exact P1.out), P2.out, P3.out⟩, by simp [intOf]; omega⟩
                · obtain rfl : j = objs[k].ss.length := by omega
                  have HT2 := Lib.hid (t3_row hlt HT.out)
                  have HRR := Lib.hid (show rws objs (k + 1) = rws objs k ++ [((row objs k).take objs[k].ss.length).map (tgs (flat objs))] by rw [rws_succ, row_all hlt])
                  have HRL := Lib.hid (rws_len objs k)
                  have HSZ := Lib.hid (show w.heap.size + 1 ≤ wr.heap.size from hN2)
                  clear hbl hbx
                  generalize ((row objs k).take objs[k].ss.length).map (tgs (flat objs)) = R at *
                  generalize objs[k].ss.length = m at *
                  go_wp2_with (at_builtin; refine wpList_append_own_at _ rfl _ _ TSO rfl (w.heap.size + 1) TSI j0 (.slice none 0 0) 1 24 Try.underlying38 gi gz0 gz1 gz2 rfl (by decide) _ _ _ rfl (HR.out.ro.own.alloc _) ⟨wr.heap.size, 0, none⟩ 1 1 [.slice ql m cl] rfl rfl (World.news_of_block (cs := #[.slice ql m cl]) (t := TSI) (fr := (0, 0)) (heap_alloc_new _ _)) (by simp [Value.oneCell']) (by have := HRL.out; unfold maxLen; omega) (by have := HRL.out; omega) (by have := HSZ.out; rw [World.size_alloc]; omega) ?_; intro o5 w5 hown5 hgrow5 _ hat5; obtain ⟨q5, c5, rfl⟩ := own_shape hown5 (show _ = k + 1 by rw [HRL.out]); obtain ⟨p1, p2, p3⟩ := pushed2 HBL.out HBX.out HR.out hown5 hgrow5 hat5; have P1 := Lib.hid p1; have P2 := Lib.hid p2; have P3 := Lib.hid p3; clear hown5 hgrow5 hat5 p1 p2 p3)
                  refine ⟨⟨k + 1, q5, c5, _, by omega, by go_num, rfl, HT2, Lib.hid (by rw [HRR.out]; exact P1.out), P2.out, P3.out⟩, by simp [intOf]; omega⟩
            · obtain rfl : k = objs.length := by omega
              obtain ⟨t0, t1, z0, z1⟩ := zero_at hbx
              obtain ⟨r1, r2, r3⟩ := r_ok HNO.out HAG.out (t3_end HT.out)
              have HR1 := Lib.hid r1
              have HR2 := Lib.hid r2
              have HR3 := Lib.hid r3
              clear hbl hbx r1 r2 r3
              go_wp2
              refine bodyPost_ret (v := .tuple #[.slice q objs.length cq, .agg #[.int .i64 0, .int .i64 0], .int .i64 0]) (by simp [results, Try.results14, go_sem, t0, t1]) rfl ?_
              exact ⟨q, cq, by rw [HR1.out, HR2.out, HR3.out, rws_len], by rw [HR3.out, rws_len]; exact (ro_set2 HR.out _ _).tgts, set2 HBL.out _ _⟩
end XV
end Go.Proofs.Ytieehjkmfmkfjaa
/-
  The document's Main: a contract. Condition: the objects lie in memory, and have not too many symbols.
-/
namespace Go.Proofs.Ytieehjkmfmkfjaa
open Go.RowKit Go.Maps Go.WideMaps
set_option linter.unusedVariables false
set_option linter.unusedSimpArgs false
namespace XW
open OO OJ RsM RsP RsS RsT RsV RsY RsB RsH OCk SD XM XR XV
theorem two_set2 {W : World} {r : Nat} {a b c d : Value} (h : W.heap[r]? = some (.cells #[c, d] TTR (0, 0))) : ((W.setCell ⟨r, 0, none⟩ a).setCell ⟨r, 1, none⟩ b).heap[r]? = some (.cells #[a, b] TTR (0, 0)) :=
  heap_setCell_same _ r 1 _ _ b (heap_setCell_same W r 0 _ _ a h)
set_option maxRecDepth 100000 in
set_option maxHeartbeats 16000000 in
theorem rmain_ {w : World} {n₀ : Nat} {v : Value} {objs : List ObjV} (hn : n₀ ≤ w.heap.size) (ho : ObjsAt n₀ w v objs) (hw : ∀ o ∈ objs, o.Wf) (hm : objs.length ≤ 100000) (hms : ∀ o ∈ objs, o.ss.length ≤ 100000) :
    Calls Try.prog 18 #[v] w fun e w' => e = .returned (.tuple #[.agg #[.int .i64 (mainOut objs).1, .int .i64 (mainOut objs).2.1], .int .i64 (mainOut objs).2.2]) ∧ Below w.heap.size w w' := by
  have hb0 : Below w.heap.size w (w.alloc Z2) := (Below.refl _ _).alloc (Nat.le_refl _) _
  obtain ⟨rc, hrc⟩ : ∃ rc, rc = resCode objs := ⟨_, rfl⟩
  have cr : Calls Try.prog 14 #[v] (w.alloc Z2) fun e w' => ∃ (p : Option Addr) (n c : Nat) (i k : Int), e = .returned (.tuple #[.slice p n c, .agg #[.int .i64 i, .int .i64 k], .int .i64 rc]) ∧ Below (w.alloc Z2).heap.size (w.alloc Z2) w' := by
    refine (rres_ (w := w.alloc Z2) (n₀ := n₀) (by simp only [World.size_alloc]; omega) (ObjsAt.same ho (Same.of hb0 hn)) hw hm hms).mono ?_
    rintro e w' ⟨p, c, rfl, -, hb⟩
    exact ⟨p, _, c, _, _, by rw [hrc], hb⟩
  have x0 : (w.alloc Z2).heap[w.heap.size]? = some Z2 := heap_alloc_new w _
  have HO := Lib.hid ho
  have HB0 := Lib.hid hb0
  have X0 := Lib.hid x0
  obtain ⟨p, c, rfl, -⟩ := ho
  clear hw hms hb0 x0
  by_cases hz : rc = 0
  · subst hz
    have HRC := Lib.hid hrc
    obtain ⟨mo, hmo⟩ : ∃ mo, mo = mainOut objs := ⟨_, rfl⟩
    rw [← hmo]
    have HMO : Hid (mo = match RsP.look (flat objs) mainB with
      | some y => if y.s.sect = 1 then ((y.i : Int), (y.k : Int), 0) else (0, 0, 16)
      | none => (0, 0, 16)) := Lib.hid (by rw [hmo]; unfold mainOut; rw [← hrc, if_neg (by simp)]; rfl)
    clear hmo hrc
    go_enter Try.func18, Try.ntmps18
    go_upto_region 4 with (go_at_call 14; (with_reducible refine cr.mono ?_); rintro e w1 ⟨q, n, cq, i, k, rfl, hb1⟩; have HB1 := Lib.hid hb1; clear hb1 cr)
    have hs1 := HB1.out.size
    simp only [World.size_alloc] at hs1
    have hbw1 : Below w.heap.size w (w1.alloc (.cells #[.int .i64 i, .int .i64 k] TTR)) := (HB0.out.trans (HB1.out.mono (by simp only [World.size_alloc]; omega))).alloc (by omega) _
    have y0 : (w1.alloc (.cells #[.int .i64 i, .int .i64 k] TTR)).heap[w.heap.size]? = some Z2 := (Lib.alloc_old _ _ _ (by omega)).trans ((HB1.out.block _ (by simp only [World.size_alloc]; omega)).trans X0.out)
    have cd := Find_ (w := w1.alloc (.cells #[.int .i64 i, .int .i64 k] TTR)) (n₀ := n₀) mainB (by simp only [World.size_alloc]; omega) (ObjsAt.same HO.out (Same.of hbw1 hn))
    have hs2 : w.heap.size + 1 ≤ (w1.alloc (.cells #[.int .i64 i, .int .i64 k] TTR)).heap.size := by simp only [World.size_alloc]; omega
    have Y0 := Lib.hid y0
    have HBW1 := Lib.hid hbw1
    clear y0 hbw1 HB1 HB0 X0
    generalize w1.alloc (.cells #[.int .i64 i, .int .i64 k] TTR) = w2 at *
    cases hl : RsP.look (flat objs) mainB with
    | none =>
      rw [hl] at HMO
      have HMO2 : Hid (mo = (0, 0, 16)) := Lib.hid HMO.out
      rw [show fI objs mainB = 0 by unfold fI; rw [hl], show fK objs mainB = 0 by unfold fK; rw [hl], show fB objs mainB = false by unfold fB; rw [hl]; rfl] at cd
      unfold mainB at cd
      clear HMO hl
      go_upto_region 5 with (go_at_call 31; (with_reducible refine cd.mono ?_); rintro e w3 ⟨rfl, hb3⟩; have HB3 := Lib.hid hb3; clear hb3 cd)
      have hs3 := HB3.out.size
      have hbel : Below w.heap.size w (w3.alloc (.cells #[.int .i64 0, .int .i64 0] TTR)) := (HBW1.out.trans (HB3.out.mono (by omega))).alloc (by omega) _
      have y5 : (w3.alloc (.cells #[.int .i64 0, .int .i64 0] TTR)).heap[w.heap.size]? = some Z2 := (Lib.alloc_old _ _ _ (by omega)).trans ((HB3.out.block _ (by omega)).trans Y0.out)
      have t5 : (w3.alloc (.cells #[.int .i64 0, .int .i64 0] TTR)).heap[w3.heap.size]? = some (.cells #[.int .i64 0, .int .i64 0] TTR (0, 0)) := heap_alloc_new _ _
      have k0 := Lib.cell_of_heap y5 0
      have k1 := Lib.cell_of_heap y5 1
      have f0 := Lib.frozen_of_heap y5 0
      have f1 := Lib.frozen_of_heap y5 1
      have u0 := Lib.cell_of_heap t5 0
      have u1 := Lib.cell_of_heap t5 1
      simp only [List.getElem?_toArray, List.getElem?_cons_zero, List.getElem?_cons_succ] at k0 k1 u0 u1
      have HY5 := Lib.hid y5
      have HBEL := Lib.hid hbel
      have nw : ¬ w.heap.size = w3.heap.size := by omega
      clear y5 t5 hbel HB3
      generalize w3.alloc (.cells #[.int .i64 0, .int .i64 0] TTR) = w5 at *
      go_quiet (fail)
      go_wp2
      have z0 := two_set2 (a := .int .i64 0) (b := .int .i64 0) (show (w5.drewN nq).heap[w.heap.size]? = _ from HY5.out)
      have q0 := Lib.cell_of_heap z0 0
      have q1 := Lib.cell_of_heap z0 1
      simp only [List.getElem?_toArray, List.getElem?_cons_zero, List.getElem?_cons_succ] at q0 q1
      have HBEL2 := Lib.hid (((⟨HBEL.out.os, HBEL.out.tape, HBEL.out.output, HBEL.out.size, HBEL.out.block⟩ : Below w.heap.size w (w5.drewN nq)).setCell (p := ⟨w.heap.size, 0, none⟩) (Nat.le_refl _) (.int .i64 0)).setCell (p := ⟨w.heap.size, 1, none⟩) (Nat.le_refl _) (.int .i64 0))
      clear z0 k0 k1 f0 f1
      generalize ((w5.drewN nq).setCell ⟨w.heap.size, 0, none⟩ (.int .i64 0)).setCell ⟨w.heap.size, 1, none⟩ (.int .i64 0) = W9 at *
      exact bodyPost_ret (v := .tuple #[.agg #[.int .i64 0, .int .i64 0], .int .i64 16]) (by simp [results, Try.results18, go_sem, q0, q1]) rfl ⟨by rw [HMO2.out], HBEL2.out⟩
    | some y =>
      rw [hl] at HMO
      have HMO1 : Hid (mo = if y.s.sect = 1 then ((y.i : Int), (y.k : Int), 0) else (0, 0, 16)) := Lib.hid HMO.out
      rw [show fI objs mainB = (y.i : Int) by unfold fI; rw [hl], show fK objs mainB = (y.k : Int) by unfold fK; rw [hl], show fB objs mainB = true by unfold fB; rw [hl]; rfl] at cd
      unfold mainB at cd
      obtain ⟨oo, hoo, hss⟩ := mem_flat (List.mem_of_find?_eq_some (show (flat objs).find? _ = some y from hl))
      have hyi : y.i < objs.length := (List.getElem?_eq_some_iff.1 hoo).1
      have hyk : y.k < oo.ss.length := (List.getElem?_eq_some_iff.1 hss).1
      have HOO := Lib.hid hoo
      have HSS := Lib.hid hss
      clear HMO hl hoo hss
      go_upto_region 5 with (go_at_call 31; (with_reducible refine cd.mono ?_); rintro e w3 ⟨rfl, hb3⟩; have HB3 := Lib.hid hb3; clear hb3 cd)
      have hs3 := HB3.out.size
      have hbel : Below w.heap.size w (w3.alloc (.cells #[.int .i64 (y.i : Int), .int .i64 (y.k : Int)] TTR)) := (HBW1.out.trans (HB3.out.mono (by omega))).alloc (by omega) _
      have y5 : (w3.alloc (.cells #[.int .i64 (y.i : Int), .int .i64 (y.k : Int)] TTR)).heap[w.heap.size]? = some Z2 := (Lib.alloc_old _ _ _ (by omega)).trans ((HB3.out.block _ (by omega)).trans Y0.out)
      have t5 : (w3.alloc (.cells #[.int .i64 (y.i : Int), .int .i64 (y.k : Int)] TTR)).heap[w3.heap.size]? = some (.cells #[.int .i64 (y.i : Int), .int .i64 (y.k : Int)] TTR (0, 0)) := heap_alloc_new _ _
      have k0 := Lib.cell_of_heap y5 0
      have k1 := Lib.cell_of_heap y5 1
      have f0 := Lib.frozen_of_heap y5 0
      have f1 := Lib.frozen_of_heap y5 1
      have u0 := Lib.cell_of_heap t5 0
      have u1 := Lib.cell_of_heap t5 1
      simp only [List.getElem?_toArray, List.getElem?_cons_zero, List.getElem?_cons_succ] at k0 k1 u0 u1
      have HY5 := Lib.hid y5
      have HBEL := Lib.hid hbel
      have nw : ¬ w.heap.size = w3.heap.size := by omega
      clear y5 t5 hbel HB3
      generalize w3.alloc (.cells #[.int .i64 (y.i : Int), .int .i64 (y.k : Int)] TTR) = w5 at *
      obtain ⟨p', c', hv, hh⟩ := ObjsAt.same HO.out (Same.of HBEL.out hn)
      cases hv
      obtain ⟨b, o, rfl, hb, -, -, hall⟩ := hh (by omega)
      obtain ⟨v0, v1, v2, v3, g0, g1, g2, g3, hoa⟩ := hall y.i oo HOO.out
      obtain ⟨p2, q2, rfl, hh2⟩ := hoa.ss
      obtain ⟨b2, o2, rfl, hb2, -, -, hrow⟩ := hh2 (by omega)
      obtain ⟨s0, s1, s2, s3, s4⟩ := hrow y.k _ HSS.out
      clear hall hoa hrow hh hh2 HO
      by_cases hs : y.s.sect = 1
      · have HMO2 : Hid (mo = ((y.i : Int), (y.k : Int), 0)) := Lib.hid (HMO1.out.trans (if_pos hs))
        have hs1' : (y.s.sect != 1) = false := by simpa using hs
        clear HMO1 hs
        go_quiet (fail)
        go_wp2
        have z0 := two_set2 (a := .int .i64 (y.i : Int)) (b := .int .i64 (y.k : Int)) (show (w5.drewN nq).heap[w.heap.size]? = _ from HY5.out)
        have q0 := Lib.cell_of_heap z0 0
        have q1 := Lib.cell_of_heap z0 1
        simp only [List.getElem?_toArray, List.getElem?_cons_zero, List.getElem?_cons_succ] at q0 q1
        have HBEL2 := Lib.hid (((⟨HBEL.out.os, HBEL.out.tape, HBEL.out.output, HBEL.out.size, HBEL.out.block⟩ : Below w.heap.size w (w5.drewN nq)).setCell (p := ⟨w.heap.size, 0, none⟩) (Nat.le_refl _) (.int .i64 (y.i : Int))).setCell (p := ⟨w.heap.size, 1, none⟩) (Nat.le_refl _) (.int .i64 (y.k : Int)))
        clear z0 k0 k1 f0 f1
        generalize ((w5.drewN nq).setCell ⟨w.heap.size, 0, none⟩ (.int .i64 (y.i : Int))).setCell ⟨w.heap.size, 1, none⟩ (.int .i64 (y.k : Int)) = W9 at *
        exact bodyPost_ret (v := .tuple #[.agg #[.int .i64 (y.i : Int), .int .i64 (y.k : Int)], .int .i64 0]) (by simp [results, Try.results18, go_sem, q0, q1]) rfl ⟨by rw [HMO2.out], HBEL2.out⟩
      · have HMO2 : Hid (mo = (0, 0, 16)) := Lib.hid (HMO1.out.trans (if_neg hs))
        have hs1' : (y.s.sect != 1) = true := by simpa using hs
        clear HMO1 hs
        go_quiet (fail)
        go_wp2
        have z0 := two_set2 (a := .int .i64 0) (b := .int .i64 0) (show (w5.drewN nq).heap[w.heap.size]? = _ from HY5.out)
        have q0 := Lib.cell_of_heap z0 0
        have q1 := Lib.cell_of_heap z0 1
        simp only [List.getElem?_toArray, List.getElem?_cons_zero, List.getElem?_cons_succ] at q0 q1
        have HBEL2 := Lib.hid (((⟨HBEL.out.os, HBEL.out.tape, HBEL.out.output, HBEL.out.size, HBEL.out.block⟩ : Below w.heap.size w (w5.drewN nq)).setCell (p := ⟨w.heap.size, 0, none⟩) (Nat.le_refl _) (.int .i64 0)).setCell (p := ⟨w.heap.size, 1, none⟩) (Nat.le_refl _) (.int .i64 0))
        clear z0 k0 k1 f0 f1
        generalize ((w5.drewN nq).setCell ⟨w.heap.size, 0, none⟩ (.int .i64 0)).setCell ⟨w.heap.size, 1, none⟩ (.int .i64 0) = W9 at *
        exact bodyPost_ret (v := .tuple #[.agg #[.int .i64 0, .int .i64 0], .int .i64 16]) (by simp [results, Try.results18, go_sem, q0, q1]) rfl ⟨by rw [HMO2.out], HBEL2.out⟩
  · have hne : (rc != 0) = true := by simpa using hz
    have HM : Hid (mainOut objs = (0, 0, rc)) := Lib.hid (by unfold mainOut; rw [← hrc, if_pos hz])
    clear hrc
    rw [HM.out]
    clear hz HM
    go_enter Try.func18, Try.ntmps18
    go_wp2_with (go_at_call 14; (with_reducible refine cr.mono ?_); rintro e w1 ⟨q, n, cq, i, k, rfl, hb1⟩; have HB1 := Lib.hid hb1; have y0 : (w1.alloc (.cells #[.int .i64 i, .int .i64 k] TTR)).heap[w.heap.size]? = some Z2 := (Lib.alloc_old _ _ _ (by have := hb1.size; simp only [World.size_alloc] at this; omega)).trans ((hb1.block _ (by simp only [World.size_alloc]; omega)).trans X0.out); have k0 := Lib.cell_of_heap y0 0; have k1 := Lib.cell_of_heap y0 1; have f0 := Lib.frozen_of_heap y0 0; have f1 := Lib.frozen_of_heap y0 1; clear hb1 cr)
    have z0 := two_set2 (a := .int .i64 0) (b := .int .i64 0) y0
    have q0 := Lib.cell_of_heap z0 0
    have q1 := Lib.cell_of_heap z0 1
    simp only [List.getElem?_toArray, List.getElem?_cons_zero, List.getElem?_cons_succ] at q0 q1
    have hsz := HB1.out.size
    simp only [World.size_alloc] at hsz
    have hbel : Below w.heap.size w (((w1.alloc (.cells #[.int .i64 i, .int .i64 k] TTR)).setCell ⟨w.heap.size, 0, none⟩ (.int .i64 0)).setCell ⟨w.heap.size, 1, none⟩ (.int .i64 0)) := (((HB0.out.trans (HB1.out.mono (by simp only [World.size_alloc]; omega))).alloc (by omega) _).setCell (Nat.le_refl _) _).setCell (Nat.le_refl _) _
    have HBEL := Lib.hid hbel
    clear hbel z0 y0 k0 k1 f0 f1
    generalize ((w1.alloc (.cells #[.int .i64 i, .int .i64 k] TTR)).setCell ⟨w.heap.size, 0, none⟩ (.int .i64 0)).setCell ⟨w.heap.size, 1, none⟩ (.int .i64 0) = W9 at *
    exact bodyPost_ret (v := .tuple #[.agg #[.int .i64 0, .int .i64 0], .int .i64 rc]) (by simp [results, Try.results18, go_sem, q0, q1]) rfl ⟨rfl, HBEL.out⟩
end XW
end Go.Proofs.Ytieehjkmfmkfjaa
/-
  Names in a rising list, put in one by one: plain facts, and the document's put: a contract. Condition: the list lies in memory.
-/
namespace Go.Proofs.Ytieehjkmfmkfjaa
open Go.RowKit Go.Maps Go.WideMaps Go.Sort
set_option linter.unusedVariables false
set_option linter.unusedSimpArgs false
namespace XN
open OO OJ RsM RsP RsS RsT RsV RsY RsB RsH RsJ OCk SD XM XR XV
abbrev Nm := List UInt8
theorem lt_of {a b : Nm} (h : ¬ a < b) (hne : a ≠ b) : b < a := Classical.byContradiction fun h2 => hne (List.le_antisymm (List.not_lt.1 h2) (List.not_lt.1 h))
theorem ltt {a b c : Nm} (h : a < b) (k : b < c) : a < c := List.lt_trans h k
theorem lti (a : Nm) : ¬ a < a := List.lt_irrefl a
theorem nlt {a b : Nm} (h : a < b) : ¬ b < a := fun k => lti a (ltt h k)
def pstep (s : Nm) (r : List Nm × Bool) (x : Nm) : List Nm × Bool := if (!r.2 && decide (s < x)) = true then (r.1 ++ [s] ++ [x], true) else (r.1 ++ [x], r.2)
def pfold (s : Nm) (l : List Nm) : List Nm × Bool := l.foldl (pstep s) ([], false)
theorem pfold_snoc (s : Nm) (l : List Nm) (x : Nm) : pfold s (l ++ [x]) = pstep s (pfold s l) x := by simp [pfold, List.foldl_append]
def putL (l : List Nm) (s : Nm) : List Nm := if s ∈ l then l else if (pfold s l).2 = true then (pfold s l).1 else (pfold s l).1 ++ [s]
def Inc (l : List Nm) : Prop := l.Pairwise (· < ·)
theorem inc_snoc {l : List Nm} {x : Nm} : Inc (l ++ [x]) ↔ Inc l ∧ ∀ y ∈ l, y < x := by
  unfold Inc
  rw [List.pairwise_append]
  simp
theorem pfold_inv (s : Nm) : ∀ l : List Nm, Inc l → s ∉ l → (∀ x, x ∈ (pfold s l).1 ↔ (x ∈ l ∨ ((pfold s l).2 = true ∧ x = s))) ∧ Inc (pfold s l).1 ∧ ((pfold s l).2 = false → ∀ x ∈ l, x < s) ∧ ((pfold s l).2 = true → ∃ x ∈ l, s < x) := by
  intro l
  induction l using snoc_ind with
  | nil => intro _ _; exact ⟨fun x => by simp [pfold], by simp [pfold, Inc], fun _ x hx => by simp at hx, fun h => by simp [pfold] at h⟩
  | append_singleton l x ih =>
    intro hi hs
    obtain ⟨hi1, hi2⟩ := inc_snoc.1 hi
    obtain ⟨a1, a2, a3, a4⟩ := ih hi1 (fun h => hs (List.mem_append_left _ h))
    have hsx : s ≠ x := fun e => hs (by simp [e])
    rw [pfold_snoc]
    generalize pfold s l = r at *
    obtain ⟨o, d⟩ := r
    simp only at a1 a2 a3 a4
    unfold pstep
    cases d with
    | true =>
      simp only [Bool.not_true, Bool.false_and, Bool.false_eq_true, if_false]
      obtain ⟨y, hy, hsy⟩ := a4 rfl
      refine ⟨fun z => ?_, inc_snoc.2 ⟨a2, fun z hz => ?_⟩, fun h => by simp at h, fun _ => ⟨y, by simp [hy], hsy⟩⟩
      · simp only [List.mem_append, List.mem_singleton, a1, true_and]
        constructor
        · rintro ((h | h) | h)
          · exact .inl (.inl h)
          · exact .inr h
          · exact .inl (.inr h)
        · rintro ((h | h) | h)
          · exact .inl (.inl h)
          · exact .inr h
          · exact .inl (.inr h)
      · rcases (a1 z).1 hz with h | ⟨_, rfl⟩
        · exact hi2 z h
        · exact ltt hsy (hi2 y hy)
    | false =>
      have ha : ∀ z, z ∈ o ↔ z ∈ l := fun z => by rw [a1]; simp
      by_cases hlt : s < x
      · simp only [Bool.not_false, Bool.true_and, hlt, decide_true, if_true]
        refine ⟨fun z => ?_, inc_snoc.2 ⟨inc_snoc.2 ⟨a2, fun z hz => a3 rfl z ((ha z).1 hz)⟩, fun z hz => ?_⟩, fun h => by simp at h, fun _ => ⟨x, by simp, hlt⟩⟩
        · simp only [List.mem_append, List.mem_singleton, ha, true_and]
          constructor
          · rintro ((h | h) | h)
            · exact .inl (.inl h)
            · exact .inr h
            · exact .inl (.inr h)
          · rintro ((h | h) | h)
            · exact .inl (.inl h)
            · exact .inr h
            · exact .inl (.inr h)
        · rcases List.mem_append.1 hz with h | h
          · exact hi2 z ((ha z).1 h)
          · rw [List.mem_singleton.1 h]; exact hlt
      · simp only [Bool.not_false, Bool.true_and, hlt, decide_false, Bool.false_eq_true, if_false]
        refine ⟨fun z => by simp [ha], inc_snoc.2 ⟨a2, fun z hz => hi2 z ((ha z).1 hz)⟩, fun _ z hz => ?_, fun h => by simp at h⟩
        rcases List.mem_append.1 hz with h | h
        · exact a3 rfl z h
        · rw [List.mem_singleton.1 h]; exact lt_of hlt hsx
theorem put_inc {l : List Nm} (s : Nm) (h : Inc l) : Inc (putL l s) ∧ ∀ x, x ∈ putL l s ↔ (x ∈ l ∨ x = s) := by
  unfold putL
  by_cases hs : s ∈ l
  · rw [if_pos hs]
    exact ⟨h, fun x => ⟨.inl, fun k => k.elim id (fun e => e ▸ hs)⟩⟩
  · rw [if_neg hs]
    obtain ⟨a1, a2, a3, a4⟩ := pfold_inv s l h hs
    generalize pfold s l = r at *
    obtain ⟨o, d⟩ := r
    cases d with
    | true => simp only [if_true]; exact ⟨a2, fun x => by rw [a1]; simp⟩
    | false =>
      simp only [Bool.false_eq_true, if_false]
      have ha : ∀ z, z ∈ o ↔ z ∈ l := fun z => by rw [a1]; simp
      exact ⟨inc_snoc.2 ⟨a2, fun z hz => a3 rfl z ((ha z).1 hz)⟩, fun x => by simp [ha]⟩
theorem pfold_le (s : Nm) (l : List Nm) : (pfold s l).1.length ≤ l.length + (if (pfold s l).2 = true then 1 else 0) := by
  induction l using snoc_ind with
  | nil => simp [pfold]
  | append_singleton l x ih =>
    rw [pfold_snoc]
    generalize pfold s l = r at *
    obtain ⟨o, d⟩ := r
    unfold pstep
    cases d with
    | true =>
      simp only [Bool.not_true, Bool.false_and, Bool.false_eq_true, if_false, if_true, List.length_append, List.length_singleton] at ih ⊢
      omega
    | false =>
      by_cases hlt : s < x
      · simp only [Bool.not_false, Bool.true_and, hlt, decide_true, if_true, Bool.false_eq_true, if_false, List.length_append, List.length_singleton] at ih ⊢
        omega
      · simp only [Bool.not_false, Bool.true_and, hlt, decide_false, Bool.false_eq_true, if_false, List.length_append, List.length_singleton] at ih ⊢
        omega
theorem put_le (l : List Nm) (s : Nm) : (putL l s).length ≤ l.length + 1 := by
  unfold putL
  have := pfold_le s l
  split
  · omega
  · split at this
    · rename_i h; rw [if_pos h]; omega
    · rename_i h; rw [if_neg h]; simp; omega
theorem inc_eq : ∀ {a b : List Nm}, Inc a → Inc b → (∀ x, x ∈ a ↔ x ∈ b) → a = b
  | [], [], _, _, _ => rfl
  | [], y :: b, _, _, h => absurd ((h y).2 (by simp)) (by simp)
  | x :: a, [], _, _, h => absurd ((h x).1 (by simp)) (by simp)
  | x :: a, y :: b, ha, hb, h => by
    obtain ⟨h1, h2⟩ := List.pairwise_cons.1 ha
    obtain ⟨k1, k2⟩ := List.pairwise_cons.1 hb
    have hxy : x = y := Classical.byContradiction fun e => by
      have m1 := (h x).1 (by simp)
      have m2 := (h y).2 (by simp)
      rcases List.mem_cons.1 m1 with m1 | m1
      · exact e m1
      · rcases List.mem_cons.1 m2 with m2 | m2
        · exact e m2.symm
        · exact nlt (k1 x m1) (h1 y m2)
    subst hxy
    rw [inc_eq h2 k2 fun z => ?_]
    constructor
    · intro hz
      rcases List.mem_cons.1 ((h z).1 (List.mem_cons_of_mem _ hz)) with e | e
      · exact absurd (h1 z hz) (by rw [e]; exact lti x)
      · exact e
    · intro hz
      rcases List.mem_cons.1 ((h z).2 (List.mem_cons_of_mem _ hz)) with e | e
      · exact absurd (k1 z hz) (by rw [e]; exact lti x)
      · exact e
theorem up_inc {d : Array Nm} (hs : ∀ i j, i ≤ j → j < d.size → d[i]! ≤ d[j]!) : ∀ m, m ≤ d.size → Inc (Lib.compactUpTo d m) := by
  intro m
  induction m with
  | zero => intro _; simp [Lib.compactUpTo, Inc]
  | succ m ih =>
    intro hm
    rw [Lib.compactUpTo_succ]
    cases hk : Lib.keeps d m with
    | false => simpa using ih (by omega)
    | true =>
      rw [if_pos rfl]
      refine inc_snoc.2 ⟨ih (by omega), fun a ha => ?_⟩
      obtain ⟨j, hj, rfl⟩ := (up_mem m a).1 ha
      unfold Lib.keeps at hk
      have hk := of_decide_eq_true hk
      rcases hk with hk | hk
      · omega
      · refine lt_of (List.not_lt.2 (hs j m (by omega) (by omega))) fun e => hk ?_
        have h1 := hs j (m - 1) (by omega) (by omega)
        have h2 := hs (m - 1) m (by omega) (by omega)
        rw [← e] at h1
        exact List.le_antisymm h1 h2
theorem sorted_inc (ks : List Nm) : Inc (sorted ks) := by
  unfold sorted Lib.compact
  exact up_inc (sort_le ks) _ (by simp)
/-- the names that nobody defines of the entries so far, as the document gathers them -/
def NS (F l : List Ent) (R : List Nm) : Prop := Inc R ∧ ∀ x, x ∈ R ↔ x ∈ missL F l
theorem ns_nil (F : List Ent) : NS F [] [] := ⟨by simp [Inc], fun x => by simp [missL]⟩
theorem ns_no {F l : List Ent} {R : List Nm} {x : Ent} (h : NS F l R) (hx : RsT.bad F x = false) : NS F (l ++ [x]) R := ⟨h.1, fun y => by rw [missL_no hx]; exact h.2 y⟩
theorem ns_yes {F l : List Ent} {R : List Nm} {x : Ent} (h : NS F l R) (hx : RsT.bad F x = true) : NS F (l ++ [x]) (putL R (nmb x)) := by
  obtain ⟨a, b⟩ := put_inc (nmb x) h.1
  exact ⟨a, fun y => by rw [b, missL_yes hx, h.2]; simp⟩
theorem ns_end {F : List Ent} {R : List Nm} (h : NS F F R) : R = sorted (missL F F) := inc_eq h.1 (sorted_inc _) fun x => by rw [h.2, sorted_mem]
end XN
end Go.Proofs.Ytieehjkmfmkfjaa
/-
  The document's put: a contract. Condition: the list lies in memory.
-/
namespace Go.Proofs.Ytieehjkmfmkfjaa
open Go.RowKit Go.Maps Go.WideMaps Go.Sort
set_option linter.unusedVariables false
set_option linter.unusedSimpArgs false
namespace XP
open OO OJ RsM RsP RsS RsT RsV RsY RsB RsH RsJ OCk SD XM XR XV XN
def bsv (n : Nm) : ByteArray := ⟨n.toArray⟩
theorem bsv_list (n : Nm) : (bsv n).toList = n := by rw [Lib.toList_data]; rfl
theorem enc_bsv (n : Nm) : encStr n = .string (bsv n) := rfl
theorem lss_ (a b : Nm) : Op.bytesLess (bsv a).toList (bsv b).toList = decide (a < b) := by rw [bytesLess_eq, bsv_list, bsv_list]
theorem eql_ (a b : Nm) : ((bsv a).toList == (bsv b).toList) = decide (a = b) := by
  rw [bsv_list, bsv_list]
  by_cases h : a = b
  · subst h; simp
  · rw [decide_eq_false h, beq_eq_false_iff_ne]; exact h
theorem shape {w : World} {base n size : Nat} {e : TypeId} {v : Value} {xs : List Value} (h : w.ownsRow base e size v n xs) : ∃ p c, v = .slice p n c := own_shape h rfl
theorem one_new (w : World) (a : Value) (T : TypeId) : ∀ j u, [a][j]? = some u → (w.alloc (.cells #[a] T)).cell? ((⟨w.heap.size, 0, none⟩ : Addr).add j) = some u := by
  intro j u hj
  rw [OO.add_plain, Nat.zero_add, Lib.cell_of_heap (heap_alloc_new w _)]
  simpa using hj
theorem one_one (s : ByteArray) : ∀ u ∈ [Value.string s], u.oneCell' = true := by
  intro u hu
  simp at hu
  subst hu; rfl
/-- the row so far, grown by a name -/
theorem grow_ {w W w5 : World} {v : Value} {n : Nat} {xs : List Value} {o : Obj} (hb : Below w.heap.size w W) (hr : W.ownsRow w.heap.size TST 1 v n xs) (hg : (W.alloc o).grownBy w5 v.ownBlock) : Below w.heap.size w w5 :=
  (hb.alloc hb.size o).grown hg (by have := hb.size; rw [World.size_alloc]; omega) fun g e => (hr.lt g e).1
theorem row_next {W : World} {base n : Nat} {v : Value} {ol : List Nm} {x : Nm} {X : ByteArray} (h : W.ownsRow base TST 1 v (n + 1) (ol.map encStr ++ [.string X])) (hX : bsv x = X) : ∃ p c, v = .slice p (n + 1) c ∧ W.ownsRow base TST 1 v (n + 1) ((ol ++ [x]).map encStr) := by
  obtain ⟨p, c, e⟩ := shape h
  refine ⟨p, c, e, ?_⟩
  rw [List.map_append, List.map_cons, List.map_nil, enc_bsv, hX]
  exact h
def PRes (w : World) (R : List Nm) (e : Ending) (w' : World) : Prop := ∃ p c, e = .returned (.slice p R.length c) ∧ StrsAt w' (.slice p R.length c) R ∧ Below w.heap.size w w'
set_option maxRecDepth 100000 in
set_option maxHeartbeats 16000000 in
theorem put_ {w : World} {v : Value} {ks : List Nm} (k : Nm) (h : StrsAt w v ks) (hl : ks.length ≤ 100000) : Calls Try.prog 38 #[v, .string (bsv k)] w (PRes w (putL ks k)) := by
  have hA := Lib.hid h
  obtain ⟨p, c, rfl, hh⟩ := h
  have HH := Lib.hid hh
  clear hh
  obtain ⟨i0, hi, hz0, hz1, hz2⟩ := info_parts (show (Try.prog.info? TST).map (fun i => (i.zero, i.size, i.bytes)) = some (some (.string ByteArray.empty), 1, 16) by kernel_rfl)
  go_enter Try.func38, Try.ntmps38
  go_wp2
  go_loopw [5, 6, 10] (fun o d i wr => ∃ (j : Nat) (q : Option Addr) (cq : Nat), j ≤ ks.length ∧ i = .int .i64 j ∧ o = .slice q (pfold k (ks.take j)).1.length cq ∧ d = .bool (pfold k (ks.take j)).2 ∧ Hid (k ∉ ks.take j) ∧ Hid (wr.ownsRow w.heap.size TST 1 (.slice q (pfold k (ks.take j)).1.length cq) (pfold k (ks.take j)).1.length ((pfold k (ks.take j)).1.map encStr)) ∧ Hid (Below w.heap.size w wr)) (fun _ _ i _ => ks.length - (intOf i).toNat)
  case atStart => exact ⟨0, none, 0, Nat.zero_le _, rfl, rfl, rfl, Lib.hid (by simp), Lib.hid (World.ownsRow_nil _ _ _ _), Lib.hid (Below.refl _ _)⟩
  case round =>
    obtain ⟨j, q, cq, hj, rfl, rfl, rfl, HK, HR, HB⟩ := hrel
    have HLE := Lib.hid (pfold_le k (ks.take j))
    by_cases hlt : j < ks.length
    · obtain ⟨b, o, rfl, hb, -, -, hcells⟩ := HH.out (by omega)
      have g1 : wr.cell? ⟨b, o + j, none⟩ = some (.string (bsv ks[j])) := (HB.out.cell (p := ⟨b, o + j, none⟩) hb).trans (hcells j _ (List.getElem?_eq_getElem hlt))
      have HST := Lib.hid (show pfold k (ks.take (j + 1)) = pstep k (pfold k (ks.take j)) ks[j] by rw [List.take_succ_eq_append_getElem hlt, pfold_snoc])
      have HTK := Lib.hid (show ks.take (j + 1) = ks.take j ++ [ks[j]] from List.take_succ_eq_append_getElem hlt)
      have HTL := Lib.hid (show (ks.take j).length ≤ 100000 by rw [List.length_take]; omega)
      have hj1 : (0 : Int) ≤ (j : Int) := by omega
      have q1 := eql_ ks[j] k
      have q2 := lss_ k ks[j]
      have HC0 := Lib.hid (hcells j _ (List.getElem?_eq_getElem hlt))
      have HMEM := Lib.hid (List.getElem_mem hlt)
      clear hcells
      rw [enc_bsv] at HC0
      generalize ks[j] = x at *
      generalize hX : bsv x = X at *
      generalize hS : bsv k = S at *
      have HX := Lib.hid hX
      have HS := Lib.hid hS
      clear hX hS
      by_cases he : x = k
      · rw [decide_eq_true he] at q1
        have HE := Lib.hid he
        clear he q2
        go_wp2
        go_ret
        have hm : putL ks k = ks := by unfold putL; rw [if_pos (by rw [← HE.out]; exact HMEM.out)]
        refine ⟨_, c, by rw [hm]; rfl, ?_, HB.out⟩
        rw [hm]
        exact hA.out.mono HB.out.size fun b' o' hlt' hr i s hs => (HB.out.cell (p := ⟨b', o' + i, none⟩) hlt').trans (hr i s hs)
      · rw [decide_eq_false he] at q1
        have HNK := Lib.hid (show k ∉ ks.take (j + 1) by rw [HTK.out]; intro hm; rcases List.mem_append.1 hm with h1 | h1; exact HK.out h1; exact he (List.mem_singleton.1 h1).symm)
        clear he
        generalize pfold k (ks.take j) = r at *
        obtain ⟨ol, d⟩ := r
        simp only at HR HLE ⊢
        have HOL := Lib.hid (show ol.length ≤ 100001 by have := HLE.out; have := HTL.out; cases d <;> simp at * <;> omega)
        cases d with
        | true =>
          have HS1 : Hid (pfold k (ks.take (j + 1)) = (ol ++ [x], true)) := Lib.hid (by rw [HST.out]; simp [pstep])
          clear q2
          go_wp2_with (at_builtin; refine wpList_append_own_at _ rfl _ _ TSS rfl w.heap.size TST i0 (.string ByteArray.empty) 1 16 Try.underlying48 hi hz0 hz1 hz2 rfl (by decide) _ _ _ rfl (HR.out.alloc _) ⟨wr.heap.size, 0, none⟩ 1 1 [.string X] rfl rfl (one_new _ _ _) (one_one _) (by have := HOL.out; unfold maxLen; omega) (by have := HOL.out; omega) (by have := HB.out.size; rw [World.size_alloc]; omega) ?_; intro v5 HR5w ho5 hg5 _ _; obtain ⟨HR5q, HR5c, rfl, ho6⟩ := row_next ho5 HX.out; have HR5 := Lib.hid ho6; have HB5 := Lib.hid (grow_ HB.out HR.out hg5); clear ho5 hg5 ho6)
          exact ⟨⟨j + 1, HR5q, HR5c, by omega, by go_num, by rw [HS1.out]; simp, by rw [HS1.out], HNK, Lib.hid (by rw [HS1.out]; simp only [List.length_append, List.length_singleton]; exact HR5.out), HB5⟩, by simp [intOf]; omega⟩
        | false =>
          by_cases hlx : k < x
          · rw [decide_eq_true hlx] at q2
            have HS1 : Hid (pfold k (ks.take (j + 1)) = (ol ++ [k] ++ [x], true)) := Lib.hid (by rw [HST.out]; simp [pstep, hlx])
            clear hlx
            go_upto_region 10 with (at_builtin; refine wpList_append_own_at _ rfl _ _ TSS rfl w.heap.size TST i0 (.string ByteArray.empty) 1 16 Try.underlying48 hi hz0 hz1 hz2 rfl (by decide) _ _ _ rfl (HR.out.alloc _) ⟨wr.heap.size, 0, none⟩ 1 1 [.string S] rfl rfl (one_new _ _ _) (one_one _) (by have := HOL.out; unfold maxLen; omega) (by have := HOL.out; omega) (by have := HB.out.size; rw [World.size_alloc]; omega) ?_; intro v5 HR5w ho5 hg5 _ _; obtain ⟨HR5q, HR5c, rfl, ho6⟩ := row_next ho5 HS.out; have HR5 := Lib.hid ho6; have HB5 := Lib.hid (grow_ HB.out HR.out hg5); clear ho5 hg5 ho6)
            have g2 : HR5w.cell? ⟨b, o + j, none⟩ = some (.string X) := (HB5.out.cell (p := ⟨b, o + j, none⟩) hb).trans HC0.out
            clear HR g1
            go_wp2_with (at_builtin; refine wpList_append_own_at _ rfl _ _ TSS rfl w.heap.size TST i0 (.string ByteArray.empty) 1 16 Try.underlying48 hi hz0 hz1 hz2 rfl (by decide) _ _ _ rfl (HR5.out.alloc _) ⟨HR5w.heap.size, 0, none⟩ 1 1 [.string X] rfl rfl (one_new _ _ _) (one_one _) (by have := HOL.out; unfold maxLen; omega) (by have := HOL.out; omega) (by have := HB5.out.size; rw [World.size_alloc]; omega) ?_; intro v5 HR6w ho5 hg5 _ _; obtain ⟨HR6q, HR6c, rfl, ho6⟩ := row_next ho5 HX.out; have HR6 := Lib.hid ho6; have HB6 := Lib.hid (grow_ HB5.out HR5.out hg5); clear ho5 hg5 ho6)
            exact ⟨⟨j + 1, HR6q, HR6c, by omega, by go_num, by rw [HS1.out]; simp, by rw [HS1.out], HNK, Lib.hid (by rw [HS1.out]; simp only [List.length_append, List.length_singleton]; exact HR6.out), HB6⟩, by simp [intOf]; omega⟩
          · rw [decide_eq_false hlx] at q2
            have HS1 : Hid (pfold k (ks.take (j + 1)) = (ol ++ [x], false)) := Lib.hid (by rw [HST.out]; simp [pstep, hlx])
            clear hlx
            go_wp2_with (at_builtin; refine wpList_append_own_at _ rfl _ _ TSS rfl w.heap.size TST i0 (.string ByteArray.empty) 1 16 Try.underlying48 hi hz0 hz1 hz2 rfl (by decide) _ _ _ rfl (HR.out.alloc _) ⟨wr.heap.size, 0, none⟩ 1 1 [.string X] rfl rfl (one_new _ _ _) (one_one _) (by have := HOL.out; unfold maxLen; omega) (by have := HOL.out; omega) (by have := HB.out.size; rw [World.size_alloc]; omega) ?_; intro v5 HR5w ho5 hg5 _ _; obtain ⟨HR5q, HR5c, rfl, ho6⟩ := row_next ho5 HX.out; have HR5 := Lib.hid ho6; have HB5 := Lib.hid (grow_ HB.out HR.out hg5); clear ho5 hg5 ho6)
            exact ⟨⟨j + 1, HR5q, HR5c, by omega, by go_num, by rw [HS1.out]; simp, by rw [HS1.out], HNK, Lib.hid (by rw [HS1.out]; simp only [List.length_append, List.length_singleton]; exact HR5.out), HB5⟩, by simp [intOf]; omega⟩
    · obtain rfl : j = ks.length := by omega
      have HPL := Lib.hid (show putL ks k = if (pfold k ks).2 = true then (pfold k ks).1 else (pfold k ks).1 ++ [k] by unfold putL; rw [if_neg (by have := HK.out; rwa [List.take_length] at this)])
      rw [List.take_length] at HR HLE ⊢
      generalize pfold k ks = r at *
      obtain ⟨ol, d⟩ := r
      simp only at HR HLE HPL ⊢
      have HOL := Lib.hid (show ol.length ≤ 100001 by have := HLE.out; cases d <;> simp at this <;> omega)
      obtain ⟨S, hS⟩ : ∃ S, bsv k = S := ⟨_, rfl⟩
      have HS2 := Lib.hid hS
      rw [hS]
      clear hS
      cases d with
      | true =>
        have HP2 := Lib.hid (show putL ks k = ol by rw [HPL.out, if_pos rfl])
        go_wp2
        go_ret
        exact ⟨q, cq, by rw [HP2.out]; rfl, by rw [HP2.out]; exact strs_of rfl HR.out, HB.out⟩
      | false =>
        have HP2 := Lib.hid (show putL ks k = ol ++ [k] by rw [HPL.out, if_neg (by simp)])
        go_wp2_with (at_builtin; refine wpList_append_own_at _ rfl _ _ TSS rfl w.heap.size TST i0 (.string ByteArray.empty) 1 16 Try.underlying48 hi hz0 hz1 hz2 rfl (by decide) _ _ _ rfl (HR.out.alloc _) ⟨wr.heap.size, 0, none⟩ 1 1 [.string S] rfl rfl (one_new _ _ _) (one_one _) (by have := HOL.out; unfold maxLen; omega) (by have := HOL.out; omega) (by have := HB.out.size; rw [World.size_alloc]; omega) ?_; intro v5 HR5w ho5 hg5 _ _; obtain ⟨HR5q, HR5c, rfl, ho6⟩ := row_next ho5 HS2.out; have HR5 := Lib.hid ho6; have HB5 := Lib.hid (grow_ HB.out HR.out hg5); clear ho5 hg5 ho6)
        go_ret
        exact ⟨HR5q, HR5c, by rw [HP2.out]; simp, by rw [HP2.out]; simp only [List.length_append, List.length_singleton]; exact strs_of (by simp) HR5.out, HB5.out⟩
end XP
end Go.Proofs.Ytieehjkmfmkfjaa
/-
  The document's Needs: a contract. Condition: the objects lie in memory, and have not too many symbols.
-/
namespace Go.Proofs.Ytieehjkmfmkfjaa
open Go.RowKit Go.Maps Go.WideMaps Go.Sort
set_option linter.unusedVariables false
set_option linter.unusedSimpArgs false
namespace XQ
open OO OJ RsM RsP RsS RsT RsV RsY RsB RsH RsJ OCk SD XM XR XV XN XP
theorem bsv_nmb (x : Ent) : bsv (nmb x) = x.s.name := by unfold bsv nmb; simp
theorem strs_below {W W' : World} {v : Value} {ks : List Nm} (h : StrsAt W v ks) (hb : Below W.heap.size W W') : StrsAt W' v ks :=
  h.mono hb.size fun b o hlt hr i s hs => (hb.cell (p := ⟨b, o + i, none⟩) hlt).trans (hr i s hs)
theorem strs_nil (W : World) : StrsAt W (.slice none 0 0) [] := ⟨none, 0, rfl, fun h => absurd h (by simp)⟩
set_option maxRecDepth 100000 in
set_option maxHeartbeats 16000000 in
theorem rneeds_ {w : World} {n₀ : Nat} {v : Value} {objs : List ObjV} (hn : n₀ ≤ w.heap.size) (ho : ObjsAt n₀ w v objs) (hw : ∀ o ∈ objs, o.Wf) (hm : objs.length ≤ 100000) (hms : ∀ o ∈ objs, o.ss.length ≤ 100000) (hN : (flat objs).length ≤ 100000) :
    Calls Try.prog 20 #[v] w (NRes objs w) := by
  have HOA := Lib.hid ho
  obtain ⟨p, c, rfl, hsl⟩ := ho
  have HO := Lib.hid hsl
  have HW := Lib.hid hw
  have HMS := Lib.hid hms
  have HFN := Lib.hid hN
  clear hsl hw hms hN
  go_enter Try.func20, Try.ntmps20
  go_wp2_with fail
  go_loopw [12] (fun i wr => ∃ k : Nat, k ≤ objs.length ∧ i = .int .i64 k ∧ Hid (noneFrom objs 0 = noneFrom objs k) ∧ Hid (Below w.heap.size w wr)) (fun i _ => objs.length - (intOf i).toNat)
  case atStart => exact ⟨0, Nat.zero_le _, rfl, Lib.hid rfl, Lib.hid (Below.refl _ _)⟩
  case round =>
    obtain ⟨k, hk, rfl, hq, HBL⟩ := hrel
    have hbl := HBL.out
    by_cases hlt : k < objs.length
    · obtain ⟨b, o, rfl, hb, -, -, hall⟩ := HO.out (by omega)
      obtain ⟨v0, v1, v2, v3, k0, k1, k2, k3, hoa⟩ := (hall k _ (List.getElem?_eq_getElem hlt)).same (Same.of hbl hn) hb
      have cn := SC.good_ (w := wr) (Nat.le_trans hn hbl.size) hoa (HW.out _ (List.getElem_mem hlt)) (OB.lens hoa)
      have hy := Lib.hid (fun h => noneFrom_yes hlt h)
      have hx := Lib.hid (fun h => noneFrom_no hlt h)
      obtain ⟨p0, q0, rfl, -⟩ := hoa.ws
      obtain ⟨p1, q1, rfl, -⟩ := hoa.ds
      obtain ⟨p2, q2, rfl, -⟩ := hoa.ss
      obtain ⟨p3, q3, rfl, -⟩ := hoa.rs
      clear hall hbl
      generalize chk objs[k] = cb at *
      clear hoa
      cases cb
      · go_wp2_with (go_at_call 30; (with_reducible refine cn.mono ?_); rintro e w1 ⟨rfl, hb1⟩; have H1 := Lib.hid hb1; clear hb1)
        go_ret
        have hne : needsL objs = [] := by unfold needsL; rw [if_pos (by rw [hq.out]; have : noneFrom objs k = (k : Int) := by first | exact hy.out rfl | exact hy.out trivial
                                                                        omega)]
        exact ⟨none, 0, by rw [hne]; rfl, by rw [hne]; exact strs_nil _, HBL.out.trans (H1.out.mono HBL.out.size)⟩
      · go_wp2_with (go_at_call 30; (with_reducible refine cn.mono ?_); rintro e w1 ⟨rfl, hb1⟩; have H1 := Lib.hid hb1; clear hb1)
        go_roundw
        case rel => exact ⟨k + 1, by omega, by go_num, Lib.hid (hq.out.trans (by first | exact hx.out rfl | exact hx.out trivial)), Lib.hid (HBL.out.trans (H1.out.mono HBL.out.size))⟩
        case measure => simp [intOf]; omega
    · obtain rfl : k = objs.length := by omega
      have HNO := Lib.hid (show noneFrom objs 0 = -1 by rw [hq.out]; exact noneFrom_end objs)
      clear hq hbl hlt hk
      go_wp2_with fail
      go_loopw [3, 24] (fun out i wr => ∃ (k : Nat) (R : List Nm) (q : Option Addr) (cq : Nat), k ≤ objs.length ∧ i = .int .i64 k ∧ out = .slice q R.length cq ∧ Hid (NS (flat objs) (flatTo objs k) R ∧ R.length ≤ (flatTo objs k).length) ∧ Hid (StrsAt wr (.slice q R.length cq) R) ∧ Hid (Below w.heap.size w wr)) (fun _ i _ => objs.length - (intOf i).toNat)
      case atStart => exact ⟨0, [], none, 0, Nat.zero_le _, rfl, rfl, Lib.hid ⟨ns_nil _, by simp⟩, Lib.hid (strs_nil _), HBL⟩
      case round =>
        clear HBL
        obtain ⟨k, R, q, cq, hk, rfl, rfl, HT, HR, HBL⟩ := hrel
        by_cases hlt : k < objs.length
        · obtain ⟨b, o, rfl, hb, -, -, hin⟩ := HO.out (by omega)
          obtain ⟨v0, v1, v2, v3, -, -, c2, -, hoa⟩ := hin k _ (List.getElem?_eq_getElem hlt)
          obtain ⟨ps, cs, rfl, hss⟩ := hoa.ss
          have hbw : b < w.heap.size := by omega
          have hls : objs[k].ss.length ≤ 100000 := HMS.out _ (List.getElem_mem hlt)
          have g2 : wr.cell? ⟨b, o + k * 4 + 2, none⟩ = some (.slice ps objs[k].ss.length cs) := (HBL.out.cell (p := ⟨b, o + k * 4 + 2, none⟩) hbw).trans c2
          have hk1 : (0 : Int) ≤ (k : Int) := by omega
          have HC2 := Lib.hid c2
          have HSS := Lib.hid hss
          clear c2 hss hin hoa
          go_wp2_with fail
          go_loopw [3, 33] (fun out i wr => ∃ (j : Nat) (R : List Nm) (q : Option Addr) (cq : Nat), j ≤ objs[k].ss.length ∧ i = .int .i64 j ∧ out = .slice q R.length cq ∧ Hid (NS (flat objs) (flatTo objs k ++ (row objs k).take j) R ∧ R.length ≤ (flatTo objs k ++ (row objs k).take j).length) ∧ Hid (StrsAt wr (.slice q R.length cq) R) ∧ Hid (Below w.heap.size w wr)) (fun _ i _ => objs[k].ss.length - (intOf i).toNat)
          case atStart => exact ⟨0, R, q, cq, Nat.zero_le _, rfl, rfl, Lib.hid (by simpa using HT.out), HR, HBL⟩
          case round =>
            clear g2 HBL HR HT
            obtain ⟨j, R, q, cq, hj, rfl, rfl, HT, HR, HBL⟩ := hrel
            by_cases hjl : j < objs[k].ss.length
            · obtain ⟨sb, so, rfl, hsb, -, -, hrow⟩ := HSS.out (by omega)
              obtain ⟨s0, s1, s2, s3, s4⟩ := (hrow j _ (List.getElem?_eq_getElem hjl)).below (HBL.out.mono hn) hsb
              have g2 : wr.cell? ⟨b, o + k * 4 + 2, none⟩ = some (.slice (some ⟨sb, so, none⟩) objs[k].ss.length cs) := (HBL.out.cell (p := ⟨b, o + k * 4 + 2, none⟩) hbw).trans HC2.out
              have hj1 : (0 : Int) ≤ (j : Int) := by omega
              have c1 := fun (W : World) (h : Below w.heap.size w W) => Find_ objs[k].ss[j].name (Nat.le_trans hn h.size) (HOA.out.same (Same.of h hn))
              obtain ⟨-, hbd⟩ := tgs_find (objs := objs) k j objs[k].ss[j]
              have HTK := Lib.hid (show flatTo objs k ++ (row objs k).take (j + 1) = (flatTo objs k ++ (row objs k).take j) ++ [⟨k, j, objs[k].ss[j]⟩] by rw [row_take hlt hjl, List.append_assoc])
              have HLEN := Lib.hid (show (flatTo objs k ++ (row objs k).take j).length ≤ 100000 by
                have h1 := pos_le (objs := objs) hlt (show j ≤ (ssAt objs k).length by rw [ssAt_eq hlt]; omega)
                have h2 := HFN.out
                unfold pos at h1
                rw [List.length_append, List.length_take, row_length, ssAt_eq hlt]
                omega)
              have HNM := Lib.hid (bsv_nmb ⟨k, j, objs[k].ss[j]⟩)
              clear hrow
              generalize objs[k].ss[j] = s at *
              generalize flatTo objs k ++ (row objs k).take j = L at *
              generalize fI objs s.name = fi at *
              generalize fK objs s.name = fk at *
              generalize fB objs s.name = fb at *
              have HBD := Lib.hid hbd
              clear hbd
              obtain ⟨nm, sc, vl, fr, gl⟩ := s
              simp only at c1 s0 s1 s2 s3 s4 HBD HNM
              have cw := c1 (wr.alloc (.cells #[.string nm, .int .i64 sc, .int .i64 vl, .int .i64 fr, .bool gl] 52)) (HBL.out.alloc HBL.out.size _)
              have cp := fun (W : World) (h : StrsAt W (.slice q R.length cq) R) => put_ (w := W) (nmb ⟨k, j, ⟨nm, sc, vl, fr, gl⟩⟩) h (by have := HT.out.2; have := HLEN.out; omega)
              rw [HNM.out] at cp
              have HPUT := Lib.hid (show ∀ h : RsT.bad (flat objs) ⟨k, j, ⟨nm, sc, vl, fr, gl⟩⟩ = true, NS (flat objs) (flatTo objs k ++ (row objs k).take (j + 1)) (putL R (nmb ⟨k, j, ⟨nm, sc, vl, fr, gl⟩⟩)) ∧ (putL R (nmb ⟨k, j, ⟨nm, sc, vl, fr, gl⟩⟩)).length ≤ (flatTo objs k ++ (row objs k).take (j + 1)).length from fun h => ⟨by rw [HTK.out]; exact ns_yes HT.out.1 h, by have := put_le R (nmb ⟨k, j, ⟨nm, sc, vl, fr, gl⟩⟩); have := HT.out.2; rw [HTK.out, List.length_append, List.length_singleton]; omega⟩)
              have HNOT := Lib.hid (show ∀ h : RsT.bad (flat objs) ⟨k, j, ⟨nm, sc, vl, fr, gl⟩⟩ = false, NS (flat objs) (flatTo objs k ++ (row objs k).take (j + 1)) R ∧ R.length ≤ (flatTo objs k ++ (row objs k).take (j + 1)).length from fun h => ⟨by rw [HTK.out]; exact ns_no HT.out.1 h, by have := HT.out.2; rw [HTK.out, List.length_append, List.length_singleton]; omega⟩)
              clear c1
              generalize nmb ⟨k, j, ⟨nm, sc, vl, fr, gl⟩⟩ = key at *
              generalize hPL : putL R key = R2 at *
              clear hPL
              go_upto_region 16 with (go_at_call 31; (with_reducible refine cw.mono ?_); rintro e w2 ⟨rfl, hb2⟩; obtain ⟨hsy, hb2'⟩ := CT.row1 hb2; obtain ⟨u0, u1, u2, u3, u4⟩ := sym5 hsy (.cells #[.int .i64 fi, .int .i64 fk] TTR); have HB2 := Lib.hid hb2'; clear hb2 hb2' hsy)
              have HB3 := Lib.hid (HB2.out.alloc HB2.out.size (.cells #[.int .i64 fi, .int .i64 fk] TTR))
              have HS3 := Lib.hid (strs_below HR.out HB3.out)
              clear cw s0 s1 s2 s3 s4
              generalize w2.alloc (.cells #[.int .i64 fi, .int .i64 fk] TTR) = W3 at *
              have cq3 := cp W3 HS3.out
              clear cp
              by_cases e0 : sc = 0
              · subst e0
                cases fb
                · go_wp2_with (go_at_call 38; (with_reducible refine cq3.mono ?_); rintro e w4 ⟨q4, c4, rfl, hs4, hb4⟩; have HS4 := Lib.hid hs4; have HB4 := Lib.hid hb4; clear hs4 hb4)
                  go_roundw
                  case rel => exact ⟨j + 1, R2, q4, c4, by omega, by go_num, rfl, Lib.hid (HPUT.out (by rw [HBD.out]; rfl)), HS4, Lib.hid (HBL.out.trans ((HB3.out.trans (HB4.out.mono HB3.out.size)).mono HBL.out.size))⟩
                  case measure => simp [intOf]; omega
                · go_wp2_with fail
                  go_roundw
                  case rel => exact ⟨j + 1, R, q, cq, by omega, by go_num, rfl, Lib.hid (HNOT.out (by rw [HBD.out]; rfl)), HS3, Lib.hid (HBL.out.trans (HB3.out.mono HBL.out.size))⟩
                  case measure => simp [intOf]; omega
              · have HE0 := Lib.hid e0
                go_wp2_with fail
                go_roundw
                case rel => exact ⟨j + 1, R, q, cq, by omega, by go_num, rfl, Lib.hid (HNOT.out (by rw [HBD.out]; simp [HE0.out])), HS3, Lib.hid (HBL.out.trans (HB3.out.mono HBL.out.size))⟩
                case measure => simp [intOf]; omega
            · obtain rfl : j = objs[k].ss.length := by omega
              have HT2 := Lib.hid (show NS (flat objs) (flatTo objs (k + 1)) R ∧ R.length ≤ (flatTo objs (k + 1)).length by have := HT.out; rwa [row_all hlt, ← flatTo_succ] at this)
              go_wp2_with fail
              go_roundw
              case rel => exact ⟨k + 1, R, q, cq, by omega, by go_num, rfl, HT2, HR, HBL⟩
              case measure => simp [intOf]; omega
        · obtain rfl : k = objs.length := by omega
          have hR : needsL objs = R := by
            have h1 := ns_end HT.out.1
            unfold needsL
            rw [if_neg (by have := HNO.out; omega)]
            exact h1.symm
          have HRR := Lib.hid hR
          clear hR
          go_wp2
          go_ret
          exact ⟨q, cq, by rw [HRR.out]; rfl, by rw [HRR.out]; exact HR.out, HBL.out⟩
end XQ
end Go.Proofs.Ytieehjkmfmkfjaa
