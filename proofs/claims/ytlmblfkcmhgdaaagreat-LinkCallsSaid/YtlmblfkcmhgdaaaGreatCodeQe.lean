/-
  What package code's Encode and Fits answer, each a contract. No condition.
-/
import Derived.Test.YtlmblfkcmhgdaaaGreatCodeQx
import Derived.Test.YtlmblfkcmhgdaaaGreatCodeQa
import Derived.Deep.DeepCutAuto
namespace Go.Proofs.YtlmblfkcmhgdaaaGreat
open Go.RowKit
set_option linter.unusedVariables false
set_option linter.unusedSimpArgs false
namespace CE
theorem ret_pair {k : IntKind} {a b : Int} {v : Value} (h : a = b) : Ending.returned (.tuple #[.int k a, v]) = .returned (.tuple #[.int k b, v]) := by rw [h]
open CC CW CI CV CF
/-! ### the forms, looked up -/
theorem forms_eq : forms = .map ((List.range 55).map fun n => ((Lit.int .i64 ((n + 1 : Nat) : Int)), formD (CM.kd ((n + 1 : Nat) : Int)) (CM.o7 ((n + 1 : Nat) : Int)) (CM.f3 ((n + 1 : Nat) : Int)) (CM.f7 ((n + 1 : Nat) : Int)))) := by rfl
theorem has_forms (op : Int) : Maps.has forms (.int .i64 op) = CM.isOp op := by
  rw [forms_eq, Maps.has_eq, List.any_map]
  rw [Bool.eq_iff_iff, List.any_eq_true]
  constructor
  · rintro ⟨n, hn, h⟩
    have hn' := List.mem_range.1 hn
    simp [Lit.sameKey] at h
    simp [CM.isOp]
    omega
  · intro h
    have hb := CM.isOp_yes h
    refine ⟨op.toNat - 1, List.mem_range.2 (by omega), ?_⟩
    simp [Lit.sameKey]
    omega
theorem at_forms (op : Int) (h : CM.isOp op = true) (z : DataW Unit) : forms.atKey (.int .i64 op) z = formD (CM.kd op) (CM.o7 op) (CM.f3 op) (CM.f7 op) := by
  have hb := CM.isOp_yes h
  have e : (List.range 55).find? ((fun p : Lit × DataW Unit => p.1.sameKey (.int .i64 op)) ∘ fun n => ((Lit.int .i64 ((n + 1 : Nat) : Int)), formD (CM.kd ((n + 1 : Nat) : Int)) (CM.o7 ((n + 1 : Nat) : Int)) (CM.f3 ((n + 1 : Nat) : Int)) (CM.f7 ((n + 1 : Nat) : Int)))) = some (op.toNat - 1) := by
    rw [List.find?_range_eq_some]
    refine ⟨?_, List.mem_range.2 (by omega), ?_⟩
    · simp [Lit.sameKey]; omega
    · intro j hj
      simp [Lit.sameKey]; omega
  rw [forms_eq]
  unfold DataW.atKey
  simp only [List.find?_map, e, Option.map]
  rw [show ((op.toNat - 1 + 1 : Nat) : Int) = op by omega]
theorem key_op {op : Int} (h : (Lit.int .i64 op).wf = true) : keyOf Tryz.prog 3 (.int .i64 op) = some (.int .i64 op) := Maps.keyOf_int_mk Tryz.underlying3 h
theorem zeroF (w : World) : (zeroValue 201).run Tryz.prog w = .ok (formV 0 0 0 0) w := by kernel_rfl
theorem formD_inj {a b c d a' b' c' d' : Int} (h : formD a b c d = formD a' b' c' d') : a = a' ∧ b = b' ∧ c = c' ∧ d = d' := by
  simpa [formD] using h
/-- what is there is found -/
theorem look_yes {w0 w : World} {b : Nat} (S : Made w0 w b 55 forms) (op : Int) (hw : (Lit.int .i64 op).wf = true) (h : CM.isOp op = true) :
    (Instr.lookup 203 (.map (some b)) (.int .i64 op) true).run Tryz.prog w = .ok (.tuple #[.agg #[.int .i64 (CM.kd op), .int .u32 (CM.o7 op), .int .u32 (CM.f3 op), .int .u32 (CM.f7 op)], .bool true]) w := by
  obtain ⟨v, ps, hrun, hv⟩ := S.own.look_ok keyed Tryz.underlying203 (zeroF w) (formR_mk 0 0 0 0) (key_op hw)
  obtain ⟨a, b', c, d, rfl, hz⟩ := formR_inv hv
  rw [at_forms op h] at hz
  obtain ⟨rfl, rfl, rfl, rfl⟩ := formD_inj (Prod.mk.inj hz).1
  rw [hrun, has_forms, h]; rfl
theorem look_no {w0 w : World} {b : Nat} (S : Made w0 w b 55 forms) (op : Int) (hw : (Lit.int .i64 op).wf = true) (h : CM.isOp op = false) :
    ∃ v, (Instr.lookup 203 (.map (some b)) (.int .i64 op) true).run Tryz.prog w = .ok (.tuple #[.agg #[.int .i64 v, .int .u32 0, .int .u32 0, .int .u32 0], .bool false]) w := by
  obtain ⟨v, ps, hrun, hv⟩ := S.own.look_ok keyed Tryz.underlying203 (zeroF w) (formR_mk 0 0 0 0) (key_op hw)
  obtain ⟨a, b', c, d, rfl, hz⟩ := formR_inv hv
  have hat : forms.atKey (.int .i64 op) (formD 0 0 0 0) = formD 0 0 0 0 := Maps.atKey_of_not_has ((has_forms op).trans h) _
  rw [hat] at hz
  obtain ⟨rfl, rfl, rfl, rfl⟩ := formD_inj (Prod.mk.inj hz).1
  refine ⟨0, ?_⟩
  rw [hrun, has_forms, h]; rfl
theorem Made.alloc {w0 w : World} {b n : Nat} {D : DataW Unit} (S : Made w0 w b n D) (o : Obj) : Made w0 (w.alloc o) b n D := ⟨S.own.alloc o, S.below.alloc S.below.size o, S.new⟩
/-! ### Fits -/
theorem fits_no (op imm : Int) (hw : (Lit.int .i64 op).wf = true) (h : CM.isOp op = false) (w : World) : Calls Tryz.prog 125 #[.int .i64 op, .int .i64 imm] w fun e w' => e = .returned (.bool false) ∧ Below w.heap.size w w' := by
  have hl := fun {w0 w : World} {b : Nat} (S : Made w0 w b 55 forms) => look_no S op hw h
  clear hw
  go_enter Tryz.func125, Tryz.ntmps125
  go_wp2_with (go_at_call 119; refine (forms_ _).mono ?_; rintro e w1 ⟨b, rfl, S⟩; obtain ⟨v, hk⟩ := hl S)
  go_ret
  exact ⟨rfl, S.below.alloc S.below.size _⟩
theorem index60 {k : Int} (h0 : 0 ≤ k) (h1 : k ≤ 10) (w : World) : (Instr.index 211 (.agg (CM.uA k)) (.int .i64 3)).run Tryz.prog w = .ok (.agg (cs15 (CM.uv k 45) (CM.uv k 46) (CM.uv k 47) k 3)) w := by
  rcases (show k = 0 ∨ k = 1 ∨ k = 2 ∨ k = 3 ∨ k = 4 ∨ k = 5 ∨ k = 6 ∨ k = 7 ∨ k = 8 ∨ k = 9 ∨ k = 10 by omega) with h | h | h | h | h | h | h | h | h | h | h <;> subst h <;> kernel_rfl
theorem holds_fits {k : Int} (h0 : 0 ≤ k) (h1 : k ≤ 10) (x : Int) : CG.holds (CM.uv k 45) (CM.uv k 46) (CM.uv k 47) x = CM.fits k x := by
  rcases (show k = 0 ∨ k = 1 ∨ k = 2 ∨ k = 3 ∨ k = 4 ∨ k = 5 ∨ k = 6 ∨ k = 7 ∨ k = 8 ∨ k = 9 ∨ k = 10 by omega) with h | h | h | h | h | h | h | h | h | h | h <;> subst h
  · rfl
  · exact CX.holds_imm1 x
  · exact CX.holds_imm2 x
  · exact CX.holds_imm3 x
  · exact CX.holds_imm4 x
  · exact CX.holds_imm5 x
  · exact CX.holds_imm6 x
  · rfl
  · rfl
  · rfl
  · rfl
theorem fits_yes (op imm : Int) (hw : (Lit.int .i64 op).wf = true) (h : CM.isOp op = true) (w : World) : Calls Tryz.prog 125 #[.int .i64 op, .int .i64 imm] w fun e w' => e = .returned (.bool (CM.fits (CM.kd op) imm)) ∧ Below w.heap.size w w' := by
  have hl := fun {w0 w : World} {b : Nat} (S : Made w0 w b 55 forms) => look_yes S op hw h
  have hf := CM.ft_row h
  clear hw
  obtain ⟨h0, h1⟩ : 0 ≤ CM.kd op ∧ CM.kd op ≤ 10 := by have := CM.kinds hf; omega
  have hix := index60 h0 h1
  have hs : 0 ≤ CM.uv (CM.kd op) 47 ∧ CM.uv (CM.kd op) 47 ≤ 2 := ⟨(CI.use_bd h0 h1 3 (by omega)).1, (CI.use_bd h0 h1 3 (by omega)).2.1⟩
  have hh := fun w => CG.holds_ (cs15 (CM.uv (CM.kd op) 45) (CM.uv (CM.kd op) 46) (CM.uv (CM.kd op) 47) (CM.kd op) 3) rfl (CM.uv (CM.kd op) 45) (CM.uv (CM.kd op) 46) (CM.uv (CM.kd op) 47) imm rfl rfl rfl (by omega) w
  rw [holds_fits h0 h1] at hh
  clear hf hs
  generalize CM.kd op = k at *
  generalize CM.o7 op = o at *
  generalize CM.f3 op = a at *
  generalize CM.f7 op = c at *
  generalize cs15 (CM.uv k 45) (CM.uv k 46) (CM.uv k 47) k 3 = C at *
  go_enter Tryz.func125, Tryz.ntmps125
  go_wp2_with (first
    | (go_at_call 119; refine (forms_ _).mono ?_; rintro e w1 ⟨b, rfl, S⟩; have hk := hl S)
    | (go_at_call 121; refine (CU.uses_ _ h0 h1 _).mono ?_; rintro e w2 ⟨rfl, hb2⟩)
    | (go_at_call 145; refine (hh _).mono ?_; rintro e w3 ⟨rfl, rfl⟩))
  go_ret
  refine ⟨rfl, ?_⟩
  have h1 := S.below.alloc S.below.size (.cells #[.int .i64 k, .int .u32 o, .int .u32 a, .int .u32 c] 201)
  have h2 := h1.trans (hb2.mono h1.size)
  exact (h2.alloc h2.size _).alloc (by have := h2.size; simp; omega) _
theorem fits_ (op imm : Int) (hw : (Lit.int .i64 op).wf = true) (w : World) : Calls Tryz.prog 125 #[.int .i64 op, .int .i64 imm] w fun e w' => e = .returned (.bool (CM.isOp op && CM.fits (CM.kd op) imm)) ∧ Below w.heap.size w w' := by
  cases h : CM.isOp op with
  | true => exact fits_yes op imm hw h w
  | false => exact fits_no op imm hw h w
/-! ### Encode -/
def encE (op rd rs1 rs2 imm : Int) : Int := if CM.isOp op then CM.fault (CM.kd op) rd rs1 rs2 imm else 2
def encW (op rd rs1 rs2 imm : Int) : Int := if CM.isOp op && CM.fault (CM.kd op) rd rs1 rs2 imm == 0 then CM.word (CM.kd op) (CM.o7 op) (CM.f3 op) (CM.f7 op) rd rs1 rs2 imm else 0
theorem box0 (w : World) (o : Obj) : Below w.heap.size w (w.alloc o) := (Below.refl _ _).alloc (Nat.le_refl _) _
/-- behind the lookup: the form in a block, the instruction in another -/
structure Fd (w wx : World) (bf : Nat) (F I : Array Value) : Prop where
  hf : wx.heap[bf]? = some (.cells F 201 (0, 0))
  hi : wx.heap[w.heap.size]? = some (.cells I 54 (0, 0))
  below : Below w.heap.size w wx
theorem bA {w w1 : World} {o : Obj} (h : Below ((w.alloc o).drew).heap.size ((w.alloc o).drew) w1) : Below w.heap.size w w1 := (box0 w o).drew.trans (h.mono (by simp only [World.size_drew, World.size_alloc]; omega))
theorem bB {w w1 : World} {o o' : Obj} (h : Below (((w.alloc o).alloc o').drew).heap.size (((w.alloc o).alloc o').drew) w1) : Below w.heap.size w w1 := ((box0 w o).alloc (by simp) o').drew.trans (h.mono (by simp only [World.size_drew, World.size_alloc]; omega))
theorem iA {w w1 : World} {I : Array Value} (h : Below ((w.alloc (.cells I 54)).drew).heap.size ((w.alloc (.cells I 54)).drew) w1) : w1.heap[w.heap.size]? = some (.cells I 54 (0, 0)) := by
  rw [h.block _ (by simp only [World.size_drew, World.size_alloc]; omega)]
  exact newAt w _ _ rfl
theorem iB {w w1 : World} {I : Array Value} {o : Obj} (h : Below (((w.alloc (.cells I 54)).alloc o).drew).heap.size (((w.alloc (.cells I 54)).alloc o).drew) w1) : w1.heap[w.heap.size]? = some (.cells I 54 (0, 0)) := by
  rw [h.block _ (by simp only [World.size_drew, World.size_alloc]; omega)]
  exact (Below.heap_alloc _ _ _ (by simp)).trans (newAt w _ _ rfl)
theorem zB {w w1 : World} {o z : Obj} (h : Below (((w.alloc o).alloc z).drew).heap.size (((w.alloc o).alloc z).drew) w1) : w1.heap[w.heap.size + 1]? = some z := by
  rw [h.block _ (by simp only [World.size_drew, World.size_alloc]; omega)]
  exact newAt (w.alloc o) _ _ (by simp)
theorem fdA {w w1 : World} {F I : Array Value} (hb : Below w.heap.size w w1) (hi : w1.heap[w.heap.size]? = some (.cells I 54 (0, 0))) : Fd w (w1.alloc (.cells F 201)) w1.heap.size F I :=
  ⟨newAt _ _ _ rfl, (Below.heap_alloc _ _ _ (lt_of_get hi)).trans hi, hb.alloc hb.size _⟩
theorem fdB {w w1 : World} {I : Array Value} (k o a c : Int) (hb : Below w.heap.size w w1) (hi : w1.heap[w.heap.size]? = some (.cells I 54 (0, 0))) (hz : w1.heap[w.heap.size + 1]? = some (.cells #[.int .i64 0, .int .u32 0, .int .u32 0, .int .u32 0] 201 (0, 0))) :
    Fd w ((((w1.setCell ⟨w.heap.size + 1, 0, none⟩ (.int .i64 k)).setCell ⟨w.heap.size + 1, 1, none⟩ (.int .u32 o)).setCell ⟨w.heap.size + 1, 2, none⟩ (.int .u32 a)).setCell ⟨w.heap.size + 1, 3, none⟩ (.int .u32 c)) (w.heap.size + 1) #[.int .i64 k, .int .u32 o, .int .u32 a, .int .u32 c] I := by
  refine ⟨?_, ?_, (((hb.setCell (Nat.le_succ _) _).setCell (Nat.le_succ _) _).setCell (Nat.le_succ _) _).setCell (Nat.le_succ _) _⟩
  · exact heap_setCell_same _ _ _ _ _ _ (heap_setCell_same _ _ _ _ _ _ (heap_setCell_same _ _ _ _ _ _ (heap_setCell_same _ _ _ _ _ _ hz)))
  · have hne : w.heap.size ≠ w.heap.size + 1 := by omega
    rw [heap_setCell_other _ _ _ _ hne, heap_setCell_other _ _ _ _ hne, heap_setCell_other _ _ _ _ hne, heap_setCell_other _ _ _ _ hne]
    exact hi
theorem Fd.trans {w wx wy : World} {bf : Nat} {F I : Array Value} (g : Fd w wx bf F I) (hb : Below wx.heap.size wx wy) : Fd w wy bf F I :=
  ⟨(hb.block _ (lt_of_get g.hf)).trans g.hf, (hb.block _ (lt_of_get g.hi)).trans g.hi, g.below.trans (hb.mono g.below.size)⟩
theorem Fd.drew {w wx : World} {bf : Nat} {F I : Array Value} (g : Fd w wx bf F I) : Fd w wx.drew bf F I := ⟨g.hf, g.hi, g.below.drew⟩
theorem Fd.c {w wx : World} {bf : Nat} {F I : Array Value} (g : Fd w wx bf F I) (j : Nat) : wx.cell? ⟨bf, j, none⟩ = F[j]? := cell_of_row _ _ _ _ _ _ g.hf
theorem Fd.i {w wx : World} {bf : Nat} {F : Array Value} {op rd rs1 rs2 imm : Int} (g : Fd w wx bf F (iv op rd rs1 rs2 imm)) : wx.cell? ⟨w.heap.size, 0, none⟩ = some (.int .i64 op) ∧ wx.cell? ⟨w.heap.size, 1, none⟩ = some (.int .i64 rd) ∧ wx.cell? ⟨w.heap.size, 2, none⟩ = some (.int .i64 rs1) ∧ wx.cell? ⟨w.heap.size, 3, none⟩ = some (.int .i64 rs2) ∧ wx.cell? ⟨w.heap.size, 4, none⟩ = some (.int .i64 imm) :=
  ⟨cell_of_row _ _ _ _ _ _ g.hi, cell_of_row _ _ _ _ _ _ g.hi, cell_of_row _ _ _ _ _ _ g.hi, cell_of_row _ _ _ _ _ _ g.hi, cell_of_row _ _ _ _ _ _ g.hi⟩
theorem Fd.f {w wx : World} {bf : Nat} {k o a c : Int} {I : Array Value} (g : Fd w wx bf #[.int .i64 k, .int .u32 o, .int .u32 a, .int .u32 c] I) : wx.cell? ⟨bf, 0, none⟩ = some (.int .i64 k) ∧ wx.cell? ⟨bf, 1, none⟩ = some (.int .u32 o) ∧ wx.cell? ⟨bf, 2, none⟩ = some (.int .u32 a) ∧ wx.cell? ⟨bf, 3, none⟩ = some (.int .u32 c) :=
  ⟨cell_of_row _ _ _ _ _ _ g.hf, cell_of_row _ _ _ _ _ _ g.hf, cell_of_row _ _ _ _ _ _ g.hf, cell_of_row _ _ _ _ _ _ g.hf⟩
set_option maxHeartbeats 8000000 in
theorem enc_no (op rd rs1 rs2 imm : Int) (hw : (Lit.int .i64 op).wf = true) (h : CM.isOp op = false) (w : World) : Calls Tryz.prog 100 #[.agg (iv op rd rs1 rs2 imm)] w fun e w' => e = .returned (.tuple #[.int .u32 0, .int .i64 2]) ∧ Below w.heap.size w w' := by
  have hl := fun {w0 w : World} {b : Nat} (S : Made w0 w b 55 forms) => look_no S op hw h
  have h0 : (iv op rd rs1 rs2 imm)[0]? = some (.int .i64 op) := rfl
  clear hw
  go_enter Tryz.func100, Tryz.ntmps100
  go_wp2
  go_cut [4, 5] from 7 (fun s4 s5 wx => s5 = .bool false ∧ Below w.heap.size w wx)
  case first =>
    go_region_with (go_at_call 119; refine (forms_ _).mono ?_; rintro e w1 ⟨b, rfl, S⟩; obtain ⟨v, hk⟩ := hl S; obtain ⟨v', hk'⟩ := hl (Made.alloc S (.cells #[.int .i64 0, .int .u32 0, .int .u32 0, .int .u32 0] 201)); have hb1 : Below w.heap.size w w1 := (by first | exact bA S.below | exact bB S.below); have hsz := S.below.size; simp only [World.size_alloc, World.size_drew] at hsz; have hz : w.heap.size < w1.heap.size := (by omega); have hc := S.below.cell (p := ⟨w.heap.size, 0, none⟩) (by (simp only [World.size_alloc, World.size_drew]; omega)); (try (have y : w.heap.size + 1 < w1.heap.size := (by omega); have q0 := S.below.cell (p := ⟨w.heap.size + 1, 0, none⟩) (by (simp only [World.size_alloc, World.size_drew]; omega)); have q1 := S.below.cell (p := ⟨w.heap.size + 1, 1, none⟩) (by (simp only [World.size_alloc, World.size_drew]; omega)); have q2 := S.below.cell (p := ⟨w.heap.size + 1, 2, none⟩) (by (simp only [World.size_alloc, World.size_drew]; omega)); have q3 := S.below.cell (p := ⟨w.heap.size + 1, 3, none⟩) (by (simp only [World.size_alloc, World.size_drew]; omega)); have f0 := S.below.frozen (p := ⟨w.heap.size + 1, 0, none⟩) (by (simp only [World.size_alloc, World.size_drew]; omega)); have f1 := S.below.frozen (p := ⟨w.heap.size + 1, 1, none⟩) (by (simp only [World.size_alloc, World.size_drew]; omega)); have f2 := S.below.frozen (p := ⟨w.heap.size + 1, 2, none⟩) (by (simp only [World.size_alloc, World.size_drew]; omega)); have f3 := S.below.frozen (p := ⟨w.heap.size + 1, 3, none⟩) (by (simp only [World.size_alloc, World.size_drew]; omega)))))
    all_goals
      go_wp2
      go_meet
      first
        | exact ⟨rfl, hb1.alloc hb1.size _⟩
        | exact ⟨rfl, (((hb1.setCell (Nat.le_succ _) _).setCell (Nat.le_succ _) _).setCell (Nat.le_succ _) _).setCell (Nat.le_succ _) _⟩
  case rest =>
    obtain ⟨rfl, hb⟩ := hcut
    go_wp2
    go_ret2
    exact ⟨rfl, hb⟩
set_option maxHeartbeats 8000000 in
theorem enc_yes (op rd rs1 rs2 imm : Int) (hw : (Lit.int .i64 op).wf = true) (h : CM.isOp op = true) (w : World) : Calls Tryz.prog 100 #[.agg (iv op rd rs1 rs2 imm)] w fun e w' => e = .returned (.tuple #[.int .u32 (encW op rd rs1 rs2 imm), .int .i64 (CM.fault (CM.kd op) rd rs1 rs2 imm)]) ∧ Below w.heap.size w w' := by
  have hl := fun {w0 w : World} {b : Nat} (S : Made w0 w b 55 forms) => look_yes S op hw h
  have hft := CM.ft_row h
  have hf := Lib.hid hft
  obtain ⟨k0, k1⟩ : 0 ≤ CM.kd op ∧ CM.kd op ≤ 10 := by have := CM.kinds hft; omega
  have hlen := Lib.hid (CX.len60 k0 k1)
  have cu := fun w => CU.uses_ (CM.kd op) k0 k1 w
  have cf := fun w => fault_ (CM.kd op) op rd rs1 rs2 imm k0 k1 hlen w
  rw [CX.fault_all k0 k1] at cf
  have cw := fun w => word_ (CM.kd op) (CM.o7 op) (CM.f3 op) (CM.f7 op) op rd rs1 rs2 imm k0 k1 hlen w
  have HW := Lib.hid (show CM.fault (CM.kd op) rd rs1 rs2 imm = 0 → encW op rd rs1 rs2 imm = accN (CM.uv (CM.kd op)) (CW.part rd rs1 rs2 imm) (bits .or .u32 (bits .or .u32 (CM.o7 op) (CM.f3 op * 4096 % 4294967296)) (CM.f7 op * 33554432 % 4294967296)) 4 from fun hz => by
    rw [CX.word_all hft (CM.good_of hz), encW, h, hz]; rfl)
  have HN := Lib.hid (show CM.fault (CM.kd op) rd rs1 rs2 imm ≠ 0 → encW op rd rs1 rs2 imm = 0 from fun hz => by
    rw [encW, h, beq_eq_false_iff_ne.2 hz]; rfl)
  clear hw hft
  generalize accN (CM.uv (CM.kd op)) (CW.part rd rs1 rs2 imm) (bits .or .u32 (bits .or .u32 (CM.o7 op) (CM.f3 op * 4096 % 4294967296)) (CM.f7 op * 33554432 % 4294967296)) 4 = W at *
  generalize encW op rd rs1 rs2 imm = V at *
  generalize CM.fault (CM.kd op) rd rs1 rs2 imm = E at *
  generalize CM.kd op = k at *
  generalize CM.o7 op = o at *
  generalize CM.f3 op = a at *
  generalize CM.f7 op = c at *
  have h0 : (iv op rd rs1 rs2 imm)[0]? = some (.int .i64 op) := rfl
  go_enter Tryz.func100, Tryz.ntmps100
  go_wp2
  go_cut [4, 5] from 7 (fun s4 s5 wx => ∃ bf, s4 = .pointer (some ⟨bf, 0, none⟩) ∧ s5 = .bool true ∧ Fd w wx bf #[.int .i64 k, .int .u32 o, .int .u32 a, .int .u32 c] (iv op rd rs1 rs2 imm))
  case first =>
    go_region_with (go_at_call 119; refine (forms_ _).mono ?_; rintro e w1 ⟨b, rfl, S⟩; have hk := hl S; have hk' := hl (Made.alloc S (.cells #[.int .i64 0, .int .u32 0, .int .u32 0, .int .u32 0] 201)); have HI := Lib.hid (p := w1.heap[w.heap.size]? = some (.cells (iv op rd rs1 rs2 imm) 54 (0, 0))) (by first | exact iA S.below | exact iB S.below); (try (have HZ := Lib.hid (p := w1.heap[w.heap.size + 1]? = some (.cells #[.int .i64 0, .int .u32 0, .int .u32 0, .int .u32 0] 201 (0, 0))) (zB S.below))); have hb1 : Below w.heap.size w w1 := (by first | exact bA S.below | exact bB S.below); have hsz := S.below.size; simp only [World.size_alloc, World.size_drew] at hsz; have hz : w.heap.size < w1.heap.size := (by omega); have hc := S.below.cell (p := ⟨w.heap.size, 0, none⟩) (by (simp only [World.size_alloc, World.size_drew]; omega)); (try (have y : w.heap.size + 1 < w1.heap.size := (by omega); have q0 := S.below.cell (p := ⟨w.heap.size + 1, 0, none⟩) (by (simp only [World.size_alloc, World.size_drew]; omega)); have q1 := S.below.cell (p := ⟨w.heap.size + 1, 1, none⟩) (by (simp only [World.size_alloc, World.size_drew]; omega)); have q2 := S.below.cell (p := ⟨w.heap.size + 1, 2, none⟩) (by (simp only [World.size_alloc, World.size_drew]; omega)); have q3 := S.below.cell (p := ⟨w.heap.size + 1, 3, none⟩) (by (simp only [World.size_alloc, World.size_drew]; omega)); have f0 := S.below.frozen (p := ⟨w.heap.size + 1, 0, none⟩) (by (simp only [World.size_alloc, World.size_drew]; omega)); have f1 := S.below.frozen (p := ⟨w.heap.size + 1, 1, none⟩) (by (simp only [World.size_alloc, World.size_drew]; omega)); have f2 := S.below.frozen (p := ⟨w.heap.size + 1, 2, none⟩) (by (simp only [World.size_alloc, World.size_drew]; omega)); have f3 := S.below.frozen (p := ⟨w.heap.size + 1, 3, none⟩) (by (simp only [World.size_alloc, World.size_drew]; omega)))))
    all_goals
      go_wp2
      go_meet
      first
        | exact ⟨_, rfl, rfl, fdA hb1 HI.out⟩
        | exact ⟨_, rfl, rfl, fdB k o a c hb1 HI.out HZ.out⟩
  case rest =>
    obtain ⟨bf, rfl, rfl, g⟩ := hcut
    obtain ⟨c0, c1, c2, c3⟩ := g.f
    obtain ⟨i0, i1, i2, i3, i4⟩ := g.i
    clear h0
    go_wp2
    go_region_with (first
      | (go_at_call 121; refine (cu _).mono ?_; rintro e w2 ⟨rfl, hb2⟩; have g2 := g.drew.trans hb2; obtain ⟨j0, j1, j2, j3, j4⟩ := g2.i)
      | (go_at_call 120; refine (cf _).mono ?_; rintro e w3 ⟨rfl, hb3⟩; have g3 := g2.trans hb3; obtain ⟨l0, l1, l2, l3, l4⟩ := g3.i; obtain ⟨m0, m1, m2, m3⟩ := g3.f))
    all_goals
      by_cases hE : E = 0
      · have HV := Lib.hid (HW.out hE)
        subst hE
        go_wp2_with (go_at_call 122; refine (cw _).mono ?_; rintro e w4 ⟨rfl, hb4⟩)
        go_ret2
        exact ⟨ret_pair HV.out.symm, g3.below.trans (hb4.mono g3.below.size)⟩
      · have HV := Lib.hid (HN.out hE)
        go_wp2
        go_ret2
        exact ⟨ret_pair HV.out.symm, g3.below⟩
theorem encode_ (op rd rs1 rs2 imm : Int) (hw : (Lit.int .i64 op).wf = true) (w : World) : Calls Tryz.prog 100 #[.agg (iv op rd rs1 rs2 imm)] w fun e w' => e = .returned (.tuple #[.int .u32 (encW op rd rs1 rs2 imm), .int .i64 (encE op rd rs1 rs2 imm)]) ∧ Below w.heap.size w w' := by
  cases h : CM.isOp op with
  | true =>
    have e : encE op rd rs1 rs2 imm = CM.fault (CM.kd op) rd rs1 rs2 imm := by rw [encE, h]; rfl
    rw [e]; exact enc_yes op rd rs1 rs2 imm hw h w
  | false =>
    have e : encE op rd rs1 rs2 imm = 2 := by rw [encE, h]; rfl
    have e' : encW op rd rs1 rs2 imm = 0 := by rw [encW, h]; rfl
    rw [e, e']; exact enc_no op rd rs1 rs2 imm hw h w
end CE
end Go.Proofs.YtlmblfkcmhgdaaaGreat
