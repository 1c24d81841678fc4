/-
  A step of a run that is one of ADDI, LW, LUI, JAL, JALR and the ECALL that halts: a contract. Conditions: the step does not fail.
  What the machine's exported functions answer but Run: each a contract.
  A run of the machine, goOn: a contract. Conditions: fewer than 4,000 steps are made, each of them one of six instructions, and none fails.
  A run of the machine, a contract. Conditions: fewer than 4,000 steps are made, each of them one of six instructions, and none fails.
-/
import Derived.Test.YtlmblfkcmhgdaaaGreatMachQ1
import Derived.Test.YtlmblfkcmhgdaaaGreatMachQf
import Derived.Defers
import Derived.Recover
import Derived.Laws.Pointers
import Derived.Test.YtlmblfkcmhgdaaaGreatMachQa
import Derived.Deep.RegionHeld3
import Derived.Deep.RegionLaw
import Derived.Deep.DrawnRows
import Derived.Deep.OwnRows
import Derived.Laws.CopyOwn
import Derived.StillTailTactics
import Derived.Laws.OwnMore
import Derived.Deep.LoopGhost
namespace Go.Proofs.YtlmblfkcmhgdaaaGreat
open Go.RowKit
set_option linter.unusedVariables false
set_option linter.unusedSimpArgs false
namespace ZS
attribute [local go_sem ↓] Go.wp_at_zero Go.wp_at_succ
open MM MC MD MG MH MA MF
/-- the six instructions -/
def Six (op : Int) : Prop := op = 18 ∨ op = 29 ∨ op = 38 ∨ op = 40 ∨ op = 41 ∨ op = 42
/-- the step to come is one of them, and halts if it is an ECALL -/
def EasyOp (s : St) : Prop := Six (iOp (num s.mem s.pc.toNat 4)) ∧ (iOp (num s.mem s.pc.toNat 4) = 42 → s.x 17 = 3)
/-- so are all steps of a run -/
def Easy (N : Nat) : Nat → St → List Int → Prop
  | 0, _, _ => True
  | g + 1, s, i => s.state = 0 → (MM.step N s i).ok = true ∧ EasyOp s ∧ Easy N g (MM.step N s i).s (MM.step N s i).inp
def ActOk (B br bk b bm N : Nat) (sd : List (Nat × Obj)) (w : World) (args : Array Value) (out : List Ev) (n c : Nat) (r : Rs) : Prop :=
  ∃ S pc, r.s = setpc S pc ∧ Calls Tryz.prog 92 args w fun e w' => e = .returned (.int .u32 pc) ∧ ∃ vi' ve', Lives B br bk b bm N sd w' S vi' ve' r.inp (out ++ r.out) n c ∧ Own B b bm w w'
section
variable {B br bk b bm N : Nat} {sd : List (Nat × Obj)} {w w' : World} {s s' : St} {vi ve : Value} {inp : List Int} {out : List Ev} {n c : Nat}
theorem mk_ {args : Array Value} {r : Rs} {S : St} {pc : Int} (hr : yes S pc inp [] = r)
    (h : Calls Tryz.prog 92 args w fun e w' => e = .returned (.int .u32 pc) ∧ Lives B br bk b bm N sd w' S vi ve inp out n c ∧ Own B b bm w w') : ActOk B br bk b bm N sd w args out n c r := by
  subst hr
  refine ⟨S, pc, rfl, h.mono fun e w' ⟨he, L1, O1⟩ => ⟨he, vi, ve, ?_, O1⟩⟩
  show Lives B br bk b bm N sd w' S vi ve inp (out ++ []) n c
  rw [List.append_nil]; exact L1
theorem bad_no {code : Int} {i : List Int} {r : Rs} {p : Prop} (hr : no s code i = r) (hk : r.ok = true) : p := by subst hr; cases hk
theorem eq_18 (rd r1 r2 : Nat) (im : Int) : act N s inp 18 rd r1 r2 im = yes (setx s rd (WM.val 1 (s.x r1) (im % 4294967296))) ((s.pc + 4) % 4294967296) inp [] := by
  first | rfl | (simp [act, isLoad, isStore, wide, loadTo, storeTo, realTo, plainOp]; done)
theorem eq_29 (rd r1 r2 : Nat) (im : Int) : act N s inp 29 rd r1 r2 im = if fit N ((s.x r1 + im % 4294967296) % 4294967296) 4 = true then yes (setx s rd (num s.mem ((s.x r1 + im % 4294967296) % 4294967296).toNat 4)) ((s.pc + 4) % 4294967296) inp [] else no s 3 inp := by
  first | rfl | (simp [act, isLoad, isStore, wide, loadTo, storeTo, realTo, plainOp]; done)
theorem eq_38 (rd r1 r2 : Nat) (im : Int) : act N s inp 38 rd r1 r2 im = yes (setx s rd (im % 4294967296 * 4096 % 4294967296)) ((s.pc + 4) % 4294967296) inp [] := by
  first | rfl | (simp [act, isLoad, isStore, wide, loadTo, storeTo, realTo, plainOp]; done)
theorem eq_40 (rd r1 r2 : Nat) (im : Int) : act N s inp 40 rd r1 r2 im = yes (setx s rd ((s.pc + 4) % 4294967296)) ((s.pc + im % 4294967296) % 4294967296) inp [] := by
  first | rfl | (simp [act, isLoad, isStore, wide, loadTo, storeTo, realTo, plainOp]; done)
theorem eq_41 (rd r1 r2 : Nat) (im : Int) : act N s inp 41 rd r1 r2 im = yes (setx s rd ((s.pc + 4) % 4294967296)) ((s.x r1 + im % 4294967296) % 4294967296 / 2 * 2) inp [] := by
  first | rfl | (simp [act, isLoad, isStore, wide, loadTo, storeTo, realTo, plainOp]; done)
theorem eq_42 (rd r1 r2 : Nat) (im : Int) : act N s inp 42 rd r1 r2 im = ecall s ((s.pc + 4) % 4294967296) inp := by
  first | rfl | (simp [act, isLoad, isStore, wide, loadTo, storeTo, realTo, plainOp]; done)
theorem act_ok (L : Lives B br bk b bm N sd w s vi ve inp out n c) (hs : Fine s) (hN : N ≤ 2097152) (rd r1 r2 : Nat) (hd : rd < 32) (h1 : r1 < 32) (h2 : r2 < 32) (op im : Int) (ho : Six op) (h17 : op = 42 → s.x 17 = 3) (hl : out.length ≤ 100000) (r : Rs) (hr : act N s inp op rd r1 r2 im = r) (hk : r.ok = true) :
    ActOk B br bk b bm N sd w #[.pointer (some ⟨br, 0, none⟩), .agg #[.int .i64 op, .int .i64 rd, .int .i64 r1, .int .i64 r2, .int .i64 im]] out n c r := by
  rcases ho with h | h | h | h | h | h <;> subst h
  · rw [eq_18] at hr; exact mk_ hr (act_18 L hs hN rd r1 r2 hd h1 h2 im)
  · rw [eq_29] at hr
    by_cases hf : fit N ((s.x r1 + im % 4294967296) % 4294967296) 4 = true
    · rw [if_pos hf] at hr; exact mk_ hr (act_29 L hs hN rd r1 r2 hd h1 h2 im hf)
    · rw [if_neg hf] at hr; exact bad_no hr hk
  · rw [eq_38] at hr; exact mk_ hr (act_38 L hs hN rd r1 r2 hd h1 h2 im)
  · rw [eq_40] at hr; exact mk_ hr (act_40 L hs hN rd r1 r2 hd h1 h2 im)
  · rw [eq_41] at hr; exact mk_ hr (act_41 L hs hN rd r1 r2 hd h1 h2 im)
  · rw [eq_42] at hr
    unfold ecall at hr
    have c3 := h17 rfl
    rw [if_neg (by omega), if_neg (by omega), if_pos c3] at hr
    exact mk_ hr (act_e3 L hs hN rd r1 r2 hd h1 h2 im c3)
theorem ok_parts {N : Nat} {s : St} {inp : List Int} (hk : (MM.step N s inp).ok = true) : fit N s.pc 4 = true ∧ CM.dec (num s.mem s.pc.toNat 4) ≠ 0 := by
  unfold MM.step at hk
  cases h1 : fit N s.pc 4 with
  | false => rw [h1, if_neg (by decide)] at hk; cases hk
  | true =>
    refine ⟨rfl, fun h2 => ?_⟩
    rw [h1, if_pos rfl, if_pos h2] at hk; cases hk
theorem step_act {N : Nat} {s : St} {inp : List Int} (h1 : fit N s.pc 4 = true) (h2 : CM.dec (num s.mem s.pc.toNat 4) ≠ 0) :
    MM.step N s inp = act N s inp (iOp (num s.mem s.pc.toNat 4)) (iRd (num s.mem s.pc.toNat 4)) (iRs1 (num s.mem s.pc.toNat 4)) (iRs2 (num s.mem s.pc.toNat 4)) (iImm (num s.mem s.pc.toNat 4)) := by
  unfold MM.step; rw [if_pos h1, if_neg h2]
set_option maxRecDepth 100000 in
set_option maxHeartbeats 4000000 in
theorem step_ok (L : Lives B br bk b bm N sd w s vi ve inp out n c) (hs : Fine s) (hN : N ≤ 2097152) (hc : c < 4096) (hl : out.length ≤ 100000) (r : Rs) (hr : MM.step N s inp = r) (hk : r.ok = true) (hE : EasyOp s) :
    Calls Tryz.prog 65 #[.pointer (some ⟨br, 0, none⟩)] w fun e w' => e = .returned (.tuple #[]) ∧ ∃ vi' ve', Lives B br bk b bm N sd w' r.s vi' ve' r.inp (out ++ r.out) n (c + 1) ∧ Own B b bm w w' := by
  have hk' : (MM.step N s inp).ok = true := by rw [hr]; exact hk
  obtain ⟨h1, h2⟩ := ok_parts hk'
  rw [step_act h1 h2] at hr
  clear hk'
  obtain ⟨hE1, hE2⟩ := hE
  have p0 := L.r0
  have p5 := L.at_.cpc
  have n0 := L.pl
  have n1 : br ≠ b := by omega
  have n3 : b ≠ br := by omega
  clear n0
  have c1 := bytes_at L hN s.pc 4 hs.pc (by omega) h1
  have c2 := fun cc => num_at L hs s.pc.toNat 4 cc (by omega) (fit_lt h1 hs.pc.1 (by omega))
  have hx := num4 s.mem hs.mem s.pc.toNat
  rw [show (4 : Int).toNat = 4 from rfl] at c1
  have hdb := dec_bd (num s.mem s.pc.toNat 4)
  generalize num s.mem s.pc.toNat 4 = x at *
  have cd := decoded_ok (Lives.drew L) hc x hx h2
  unfold insV at cd
  have b1 := iRd_bd x
  have b2 := iRs1_bd x
  have b3 := iRs2_bd x
  have hop : 1 ≤ iOp x ∧ iOp x ≤ 55 := by unfold iOp; omega
  obtain ⟨rd, e1⟩ : ∃ k : Nat, iRd x = k := ⟨(iRd x).toNat, by omega⟩
  obtain ⟨r1, e2⟩ : ∃ k : Nat, iRs1 x = k := ⟨(iRs1 x).toNat, by omega⟩
  obtain ⟨r2, e3⟩ : ∃ k : Nat, iRs2 x = k := ⟨(iRs2 x).toNat, by omega⟩
  rw [e1, e2, e3] at cd hr
  have k1 : rd < 32 := by omega
  have k2 : r1 < 32 := by omega
  have k3 : r2 < 32 := by omega
  clear e1 e2 e3 b1 b2 b3 h2 hdb h1
  generalize iOp x = op at *
  generalize iImm x = im at *
  have HA := Lib.hid (fun w (L : Lives B br bk b bm N sd w s vi ve inp out n (c + 1)) => act_ok L hs hN rd r1 r2 k1 k2 k3 op im hE1 hE2 hl r hr hk)
  have HS := Lib.hid hs
  clear hr hk hs L hN hop hE1 hE2 k1 k2 k3 hc hl
  go_enter Tryz.func65, Tryz.ntmps65
  go_wp2_with (first
    | (go_at_call 91; (with_reducible refine c1.mono ?_); rintro e w1 ⟨rfl, rfl⟩)
    | (go_at_call 90; (with_reducible refine (c2 _).mono ?_); rintro e w1 ⟨rfl, rfl⟩))
  go_region_held3 (fun w' => w'.cell? ⟨br, 0, none⟩ = some (.pointer (some ⟨b, 0, none⟩))) (first | go_keep)
    ((first
      | (go_at_call 93; (with_reducible refine cd.mono ?_); rintro e w1 ⟨rfl, L1, O1⟩; obtain ⟨S, pc, hS, ca⟩ := HA.out _ L1; have q0 := L1.r0; have HO := Lib.hid O1; have HSS := Lib.hid hS; clear L1 O1 hS)
      | (go_at_call 92; (with_reducible refine ca.mono ?_); rintro e w2 ⟨rfl, vi2, ve2, L2, O2⟩; have q1 := L2.r0; have q2 := L2.at_.cpc; have q3 := L2.at_.fb 65; have HL2 := Lib.hid L2; have HO2 := Lib.hid O2; clear L2 O2)))
  go_end0
  refine ⟨rfl, vi2, ve2, ?_, ((own_drew (Own.refl _ _ _ _)).trans HO.out).trans (HO2.out.trans (Own.set _ _ _))⟩
  rw [HSS.out]
  exact HL2.out.set 65 _ (set_pc _ _ _ _) rfl
end
def Fin (W : World) (e : Exit) (a : Act) (w' : World) : Prop := e = .normal ∧ a.defers = [] ∧ w' = W
set_option maxRecDepth 100000 in
set_option maxHeartbeats 1000000 in
theorem catch_idle (bx : Nat) (w : World) :
    CallsD Tryz.prog 64 #[.pointer (some ⟨bx, 0, none⟩)] .returning w fun e u' w' => e = .returned (.tuple #[]) ∧ u' = .returning ∧ w' = w := by
  refine callsD_of_wpS Tryz.func64 rfl fun c₀ cs hu => ?_
  apply wpS_seq
  apply wpS_region
  simp [wpOpsS, go_sem, recoverD, hu, Tryz.ntmps64, Exit.thenS]
  refine wpS_of_wp (wp_mono (Q := Fin w) ?_ ?_)
  · show Code.wp _ _ _ { tmps := #[.pointer (some ⟨bx, 0, none⟩), undef, undef, undef, .nilIface, undef, undef, undef, undef, undef, undef, undef, undef, undef, undef, undef, undef], defers := [] } _
    clear hu
    go_wp2
    exact ⟨rfl, rfl, rfl⟩
  · rintro e a w' ⟨rfl, hd, rfl⟩
    cases c₀
    simp_all [bodyPostS, results, Tryz.results64]
end ZS
end Go.Proofs.YtlmblfkcmhgdaaaGreat
namespace Go.Proofs.YtlmblfkcmhgdaaaGreat
open Go.RowKit
set_option linter.unusedVariables false
set_option linter.unusedSimpArgs false
namespace MW
attribute [local go_sem ↓] Go.wp_at_zero Go.wp_at_succ
open MM MC
def up (n : Int) : Int := (n + 15) / 16 * 16
theorem inLine_ (n : Int) (h0 : 0 ≤ n) (h1 : n ≤ 1000000000000) (w : World) : Calls Tryz.prog 39 #[.int .i64 n] w fun e w' => e = .returned (.int .i64 (up n)) ∧ w = w' := by
  have hb : 0 ≤ (n + 15) / 16 * 16 ∧ (n + 15) / 16 * 16 ≤ n + 15 := by omega
  have e1 := Lib.hid (show up n = (n + 15) / 16 * 16 from rfl)
  go_enter Tryz.func39, Tryz.ntmps39
  go_wp2
  go_ret
  exact ⟨ret_int (by rw [e1.out]; congr 2; omega), rfl⟩
theorem code_ {b bm N : Nat} {w : World} {s : St} (A : At w b bm N s) : Calls Tryz.prog 41 #[.pointer (some ⟨b, 0, none⟩)] w fun e w' => e = .returned (.int .u32 (if s.state = 1 then s.x 10 else 0)) ∧ w = w' := by
  have h1 := A.cst
  have h2 : w.cell? ⟨b, 11, none⟩ = some (.int .u32 (s.x 10)) := A.cx (i := 10) (by omega)
  clear A
  by_cases hs : s.state = 1
  · rw [hs] at h1
    rw [if_pos hs]
    clear hs
    go_enter Tryz.func41, Tryz.ntmps41
    go_wp2
    go_ret
    exact ⟨rfl, rfl⟩
  · rw [if_neg hs]
    have hn : (s.state != 1) = true := by simp [hs]
    clear hs
    go_enter Tryz.func41, Tryz.ntmps41
    go_wp2
    go_ret
    exact ⟨rfl, rfl⟩
/-- the machine at its beginning, but for its words and its bytes -/
def zero (e : Int) : St := ⟨fun _ => 0, fun _ => 0, fun _ => 0, e, 0⟩
theorem u8_info : (Tryz.prog.info? 5).map (fun i => (i.zero, i.size, i.bytes)) = some (some (.int .u8 0), 1, 1) := by kernel_rfl
theorem new_at (w : World) (o : Obj) (k : Nat) (h : k = w.heap.size) : (w.alloc o).heap[k]? = some o := by subst h; exact heap_alloc_new w o
theorem make_ (N : Nat) (hN : N ≤ 2097152) (w : World) : (Instr.makeSlice 26 (.int .i64 N) (.int .i64 N)).run Tryz.prog w = .ok (.slice (some ⟨w.heap.size, 0, none⟩) N N) (w.alloc (.cells (row N fun _ => .int .u8 0) 5)) := by
  have h := run_make_row' (P := Tryz.prog) 26 5 (.int .u8 0) 1 Tryz.underlying26 u8_info rfl .i64 .i64 N (by omega) (by omega) w
  rw [h, show madeCells #[Value.int .u8 0] N = row N (fun _ => .int .u8 0) from by
    apply Array.ext'
    rw [toList_madeCells_one]
    unfold row
    apply List.ext_getElem <;> simp]
theorem still_ {P : Program} {id : Nat} {Q : Exit → Act → World → Prop} {a : Act} {w : World} {l : List Oper} (hm : P.follows .mixedOrders = true) (hB : Region.lexB .any l.toArray = true)
    (h : wpStill P l.toArray w.drew (fun a' => Q .normal a' w.drew) l a) : (Code.region id l.toArray true).wp P Q a w := wp_region_still_lit hm hB h
theorem tail_ {P : Program} {id : Nat} {Q : Exit → Act → World → Prop} {a : Act} {w : World} {l : List Oper} (n : Nat) (hm : P.follows .mixedOrders = true) (hB : Region.lexTailB .any l.toArray n = true)
    (h : wpStill P l.toArray w.drew (fun a' => wpList P l.toArray Q (l.drop n) a' w.drew) (l.take n) a) : (Code.region id l.toArray true).wp P Q a w := wp_region_still_tail n hm hB h
def bytesOf (f : Nat → Int) (n : Nat) : Nat → Int := fun k => if k < n then f k else 0
/-- a machine that is loaded -/
def loaded (f : Nat → Int) (n : Nat) (u : Int) (N : Nat) (e : Int) : St := ⟨bytesOf f n, upd (upd (fun _ => 0) 2 (N : Int)) 27 u, fun _ => 0, e, 0⟩
theorem row_copy (N n : Nat) (f : Nat → Int) (e : Int) (h : n ≤ N) :
    ((row N fun _ => Value.int .u8 0).toList.take 0 ++ ((List.range n).map (fun k => Value.int .u8 (f k)) ++ (row N fun _ => Value.int .u8 0).toList.drop (0 + ((List.range n).map (fun k => Value.int .u8 (f k))).length))).toArray = MC.bytes N { zero e with mem := bytesOf f n } := by
  apply Array.ext
  · simp [row, MC.bytes]; omega
  · intro i h1 h2
    simp [row, MC.bytes] at h2
    simp only [List.take_zero, List.nil_append, List.length_map, List.length_range, Nat.zero_add, MC.bytes, row, List.getElem_toArray]
    by_cases hi : i < n
    · rw [List.getElem_append_left (by simpa using hi)]
      simp [bytesOf, hi]
    · rw [List.getElem_append_right (by simp; omega)]
      simp [bytesOf, hi]
theorem zero_cells (bm N : Nat) (e : Int) : (Tryz.zeroCells113.setIfInBounds 0 (.slice (some ⟨bm, 0, none⟩) N N)).setIfInBounds 65 (.int .u32 e) = cells bm N (zero e) := by kernel_rfl
set_option maxRecDepth 100000 in
set_option maxHeartbeats 2000000 in
theorem load_ok (e : Int) (he : 0 ≤ e ∧ e ≤ 4294967295) (g o n cc : Nat) (stack : Int) (hn : n ≤ 1000000) (hs : 0 ≤ stack) (hs2 : stack + up n ≤ 2097152) (N : Nat) (hN : up (up n + stack) = N) (f : Nat → Int) (w : World) (hg : g < w.heap.size) (hc : ∀ k, k < n → w.cell? ⟨g, o + k, none⟩ = some (.int .u8 (f k))) :
    Calls Tryz.prog 20 #[.agg #[.int .i64 e, .slice (some ⟨g, o, none⟩) n cc], .int .i64 stack] w fun e1 w' => ∃ b bm, e1 = .returned (.tuple #[.pointer (some ⟨b, 0, none⟩), .int .i64 0]) ∧ At w' b bm N (loaded f n (up n) N e) ∧ w.heap.size ≤ b ∧ w.heap.size ≤ bm ∧ Below w.heap.size w w' := by
  have cl1 := fun w => inLine_ n (by omega) (by omega) w
  have hu : (n : Int) ≤ up n ∧ up n ≤ n + 15 := by unfold up; omega
  have hN2 : up n + stack ≤ N ∧ (N : Int) ≤ 2097152 := by rw [← hN]; unfold up at hs2 ⊢; omega
  generalize up n = u at *
  have cl2 := fun w => inLine_ (u + stack) (by omega) (by omega) w
  rw [hN] at cl2
  have HC := Lib.hid hc
  clear hc
  have f1 : ¬ 2097152 - u < stack := by omega
  have f2 : ¬ stack < 0 := by omega
  have f3 : ¬ e < 0 := by omega
  have f4 : ¬ 4294967295 < e := by omega
  have i1 : IntKind.i64.wrap (u + stack) = u + stack := by rw [IntKind.wrap_i64]; omega
  have i2 : (0 : Int) ≤ u := by omega
  have i3 : IntKind.u32.wrap e = e := by rw [IntKind.wrap_u32']; omega
  have hmk := fun w => make_ N (by omega) w
  have HZ := Lib.hid (zero_cells (w.heap.size + 1) N e)
  clear hN
  go_enter Tryz.func20, Tryz.ntmps20
  go_wp2_with (go_at_call 39; (with_reducible refine (cl1 _).mono ?_); rintro e1 w1 ⟨rfl, rfl⟩)
  go_region_held3 (fun w' => w'.cell? ⟨w.heap.size, 0, none⟩ = some (.int .i64 e)) (first | go_keep)
    ((go_at_call 39; (with_reducible refine (cl2 _).mono ?_); rintro e2 w2 ⟨rfl, rfl⟩))
  clear i1 i3 hmk cl1 cl2
  rw [HZ.out]
  generalize hW : ((((w.alloc (.cells #[.int .i64 e, .slice (some ⟨g, o, none⟩) n cc] 33)).alloc (.cells (row N fun _ => .int .u8 0) 5)).alloc (.cells (cells (w.heap.size + 1) N (zero e)) 113)).drew) = W
  have w1 : W.heap[w.heap.size + 1 + 1]? = some (.cells (cells (w.heap.size + 1) N (zero e)) 113 (0, 0)) := by
    subst hW; exact new_at _ _ _ (by simp)
  have w2 : W.heap[w.heap.size + 1]? = some (.cells (row N fun _ => .int .u8 0) 5 (0, 0)) := by
    subst hW
    exact (Below.heap_alloc _ _ _ (by simp)).trans (new_at _ _ _ (by simp))
  have w3 : W.cell? ⟨w.heap.size, 1, none⟩ = some (.slice (some ⟨g, o, none⟩) n cc) := by subst hW; go_simp
  have wb : Below w.heap.size w W := by
    subst hW
    exact ((((Below.refl _ _).alloc (Nat.le_refl _) _).alloc (by simp) _).alloc (by simp; omega) _).drew
  have wn : w.heap.size + 1 + 1 < W.heap.size := lt_of_get w1
  have w4 : W.cell? ⟨w.heap.size + 1 + 1, 0, none⟩ = some (.slice (some ⟨w.heap.size + 1, 0, none⟩) N N) := (cell_of_row W _ 0 _ _ _ w1).trans (cell_0 _ _ _)
  have W1 := Lib.hid w1
  have W2 := Lib.hid w2
  clear w1 w2 hW HZ
  go_wp2
  refine tail_ 6 (by kernel_rfl) (by kernel_rfl) ?_
  simp only [List.take_succ_cons, List.take_zero, List.drop_succ_cons, List.drop_zero]
  repeat still_step
  refine wpStill_nil ?_
  obtain ⟨cs, hcs⟩ : ∃ cs, cs = (List.range n).map (fun k => Value.int .u8 (f k)) := ⟨_, rfl⟩
  have hcl : cs.length = n := by rw [hcs]; simp
  have hcj : ∀ j v, cs[j]? = some v → j < n ∧ v = .int .u8 (f j) := fun j v h => by
    subst hcs
    rw [List.getElem?_map] at h
    by_cases hj : j < n
    · rw [List.getElem?_range hj] at h; exact ⟨hj, (Option.some.inj h).symm⟩
    · rw [List.getElem?_eq_none (by simpa using hj)] at h; cases h
  have W2d := Lib.hid (show W.drew.heap[w.heap.size + 1]? = some (.cells (row N fun _ => .int .u8 0) 5 (0, 0)) from W2.out)
  have HCS := Lib.hid hcs
  have HCL := Lib.hid hcl
  have HCJ := Lib.hid hcj
  clear hcs hcl hcj
  have Hb := Lib.hid (show ∀ (j : Nat) (v : Value), cs[j]? = some v → W.drew.cell? ((⟨g, o, none⟩ : Addr).add j) = some v from fun j v h => by
    obtain ⟨hj, rfl⟩ := HCJ.out j v h
    rw [Addr.add_mid]
    exact (wb.cell (p := ⟨g, o + j, none⟩) hg).trans (HC.out j hj))
  have Hd := Lib.hid (show ∀ v ∈ cs, v.oneCell' = true from fun v hv => by
    rw [HCS.out] at hv
    obtain ⟨k, _, rfl⟩ := List.mem_map.1 hv
    rfl)
  have Ha := Lib.hid (show cs.length = Nat.min n N by rw [HCL.out]; exact (Nat.min_eq_left (by omega)).symm)
  have Hc := Lib.hid (show 0 + cs.length ≤ (row N fun _ => Value.int .u8 0).size by rw [HCL.out, row_size]; omega)
  obtain ⟨D, hD⟩ : ∃ D, D = ((row N fun _ => Value.int .u8 0).toList.take 0 ++ (cs ++ (row N fun _ => Value.int .u8 0).toList.drop (0 + cs.length))).toArray := ⟨_, rfl⟩
  have HDD := Lib.hid hD
  clear hD
  go_wp2_with (refine wpList_copy_own (by rfl) _ _ 26 26 (by rfl) 5 Tryz.underlying26 (by kernel_rfl) (w.heap.size + 1) 0 N N ⟨g, o, none⟩ n cc (by rfl) (by rfl) (row N fun _ => .int .u8 0) 5 W2d.out cs Ha.out Hb.out Hc.out Hd.out ?_; rw [← HDD.out])
  generalize hV : W.drew.setRow (w.heap.size + 1) D = V
  have A2 : At V (w.heap.size + 1 + 1) (w.heap.size + 1) N { zero e with mem := bytesOf f n } := by
    subst hV
    refine ⟨(setRow_other W.drew _ _ _ (by omega)).trans W1.out, ?_, by omega⟩
    rw [setRow_heap W.drew _ _ _ _ _ W2d.out, HDD.out, HCS.out, row_copy N n f e (by omega)]
  have wb2 : Below w.heap.size w V := by subst hV; exact below_setRow wb.drew (by omega) _
  have v1 := A2.c0
  have v2 : V.cell? ⟨w.heap.size + 1 + 1, 3, none⟩ = _ := A2.cx (i := 2) (by omega)
  have v3 : V.cell? ⟨w.heap.size + 1 + 1, 28, none⟩ = _ := A2.cx (i := 27) (by omega)
  have v4 := A2.fb 3
  have v5 := A2.fb 28
  have i5 : IntKind.u32.wrap (N : Int) = N := by rw [IntKind.wrap_u32']; omega
  have HA := Lib.hid A2
  have HB := Lib.hid wb2
  clear hV A2 W2d Ha Hb Hc Hd HDD HCS HCL HCJ W1 W2 wb w3 w4 wb2
  refine tail_ 10 (by kernel_rfl) (by kernel_rfl) ?_
  simp only [List.take_succ_cons, List.take_zero, List.drop_succ_cons, List.drop_zero]
  repeat still_step
  refine wpStill_nil ?_
  go_wp2
  go_ret2
  have A3 := (HA.out.set (s' := { zero e with mem := bytesOf f n, x := upd (fun _ => 0) 2 (N : Int) }) 3 (.int .u32 N) (set_x _ N _ (i := 2) (by omega) _) rfl).set (s' := loaded f n u N e) 28 (.int .u32 u) (set_x _ N _ (i := 27) (by omega) _) rfl
  exact ⟨_, rfl, _, A3.kept rfl rfl, by omega, by omega, ((HB.out.setCell (by show w.heap.size ≤ w.heap.size + 1 + 1; omega) _).setCell (by show w.heap.size ≤ w.heap.size + 1 + 1; omega) _).drew⟩
end MW
end Go.Proofs.YtlmblfkcmhgdaaaGreat
namespace Go.Proofs.YtlmblfkcmhgdaaaGreat
open Go.RowKit
set_option linter.unusedVariables false
set_option linter.unusedSimpArgs false
namespace ZU
attribute [local go_sem ↓] Go.wp_at_zero Go.wp_at_succ
open MM MC MD MG MH MA MF ZS
section
variable {B br bk b bm N : Nat} {sd : List (Nat × Obj)} {w w' : World} {s s' : St} {vi ve : Value} {inp : List Int} {out : List Ev} {n c : Nat}
theorem out_le (N : Nat) (s : St) (inp : List Int) : (MM.step N s inp).out.length ≤ 1 := by
  have ite_le : ∀ {c : Prop} [Decidable c] {a b : Rs}, a.out.length ≤ 1 → b.out.length ≤ 1 → (if c then a else b).out.length ≤ 1 := fun ha hb => by split <;> assumption
  unfold MM.step
  refine ite_le (ite_le (Nat.zero_le _) ?_) (Nat.zero_le _)
  generalize iOp _ = op
  generalize iRd _ = rd
  generalize iRs1 _ = r1
  generalize iRs2 _ = r2
  generalize iImm _ = im
  unfold act
  refine ite_le (Nat.zero_le _) (ite_le (Nat.zero_le _) (ite_le (ite_le (Nat.zero_le _) (Nat.zero_le _)) (ite_le (ite_le (Nat.zero_le _) (Nat.zero_le _)) (ite_le (Nat.zero_le _) (ite_le (Nat.zero_le _) (ite_le (Nat.zero_le _) (ite_le (Nat.zero_le _) (ite_le (Nat.zero_le _) (ite_le ?_ (Nat.zero_le _))))))))))
  unfold ecall
  exact ite_le (Nat.le_refl _) (ite_le (Nat.zero_le _) (ite_le (Nat.zero_le _) (ite_le (Nat.zero_le _) (ite_le (Nat.le_refl _) (Nat.zero_le _)))))
/-- what holds at the head of each round: g more rounds may come, T is what the whole run leaves -/
structure Round (B br bk b bm N : Nat) (sd : List (Nat × Obj)) (w : World) (T : Rn) (g : Nat) (wr : World) (s : St) (vi ve : Value) (inp : List Int) (out : List Ev) (k c : Nat) : Prop where
  lives : Lives B br bk b bm N sd wr s vi ve inp out k c
  own : Own B b bm w wr
  fine : Fine s
  inb : ∀ x ∈ inp, 0 ≤ x ∧ x ≤ 4294967295
  few : c ≤ k ∧ out.length ≤ k
  easy : Easy N g s inp
  rest : (MM.run N g s inp).s = T.s ∧ (MM.run N g s inp).inp = T.inp ∧ out ++ (MM.run N g s inp).out = T.out ∧ k + (MM.run N g s inp).n = T.n
def Head (B br bk b bm N : Nat) (sd : List (Nat × Obj)) (w : World) (T : Rn) (F : Nat) (g : Nat) (wr : World) : Prop := ∃ s vi ve inp out k c, k + g = F ∧ Round B br bk b bm N sd w T g wr s vi ve inp out k c
def Done (B br bk b bm N : Nat) (sd : List (Nat × Obj)) (w : World) (T : Rn) (w' : World) : Prop := ∃ vi ve c, Lives B br bk b bm N sd w' T.s vi ve T.inp T.out T.n c ∧ Own B b bm w w' ∧ Fine T.s ∧ ∀ x ∈ T.inp, 0 ≤ x ∧ x ≤ 4294967295
theorem Lives.less {p : Nat × Obj} (L : Lives B br bk b bm N (p :: sd) w s vi ve inp out n c) : Lives B br bk b bm N sd w s vi ve inp out n c :=
  ⟨L.at_, L.run, L.inp, L.ev, L.known, L.big, L.pl, fun q hq => L.side q (List.mem_cons_of_mem _ hq)⟩
theorem Lives.more (L : Lives B br bk b bm N sd w s vi ve inp out n c) (o : Obj) : Lives B br bk b bm N ((w.heap.size, o) :: sd) (w.alloc o) s vi ve inp out n c := by
  have L1 := MG.Lives.box L o
  have hb := L.big
  have hp := L.pl
  refine ⟨L1.at_, L1.run, L1.inp, L1.ev, L1.known, L1.big, L1.pl, fun q hq => ?_⟩
  rcases List.mem_cons.1 hq with rfl | hq
  · refine ⟨heap_alloc_new w o, ?_, ?_, ?_, ?_, ?_⟩
    · show w.heap.size ≠ b; omega
    · show w.heap.size ≠ bm; omega
    · have := lt_of_get L.run; show w.heap.size ≠ br; omega
    · have := L.known.lt; show w.heap.size ≠ bk; omega
    · intro e; have := (L.evb _ e).2; exact absurd this (Nat.lt_irrefl _)
  · exact L1.side q hq
/-- a round that goes on -/
theorem Round.next {T : Rn} {g : Nat} {wr w2 : World} {vi' ve' : Value} {k : Nat} (R : Round B br bk b bm N sd w T (g + 1) wr s vi ve inp out k c) (h0 : s.state = 0) (hk : (MM.step N s inp).ok = true)
    (L : Lives B br bk b bm N sd w2 (MM.step N s inp).s vi' ve' (MM.step N s inp).inp (out ++ (MM.step N s inp).out) (k + 1) (c + 1)) (O : Own B b bm wr w2) :
    Round B br bk b bm N sd w T g w2 (MM.step N s inp).s vi' ve' (MM.step N s inp).inp (out ++ (MM.step N s inp).out) (k + 1) (c + 1) := by
  have hf := fine_step (N := N) R.fine R.inb
  have ho := out_le N s inp
  obtain ⟨r1, r2, r3, r4⟩ := R.rest
  rw [run_yes N g s inp h0 _ rfl hk] at r1 r2 r3 r4
  refine ⟨L, R.own.trans O, hf.s, hf.inp, ⟨by have := R.few; omega, by have := R.few; rw [List.length_append]; omega⟩, (R.easy h0).2.2, r1, r2, ?_, ?_⟩
  · rw [List.append_assoc]; exact r3
  · simp only at r4; omega
/-- the run has ended by itself, or for want of fuel -/
theorem Round.stop {T : Rn} {g : Nat} {wr : World} {k : Nat} (R : Round B br bk b bm N sd w T g wr s vi ve inp out k c) (h : s.state ≠ 0 ∨ g = 0) : Done B br bk b bm N sd w T wr := by
  have e : MM.run N g s inp = ⟨s, inp, [], 0⟩ := by
    rcases h with h | h
    · exact run_stop N g s inp h
    · subst h; rfl
  obtain ⟨r1, r2, r3, r4⟩ := R.rest
  rw [e] at r1 r2 r3 r4
  simp only [List.append_nil, Nat.add_zero] at r3 r4
  refine ⟨vi, ve, c, ?_, R.own, r1 ▸ R.fine, r2 ▸ R.inb⟩
  rw [← r1, ← r2, ← r3, ← r4]
  exact R.lives
theorem Done.less {T : Rn} {o : Obj} {k : Nat} (hk : B ≤ k) (h : Done B br bk b bm N ((k, o) :: sd) w T w') : Done B br bk b bm N sd w T w' := by
  obtain ⟨vi, ve, c, L, r⟩ := h
  exact ⟨vi, ve, c, Lives.less L, r⟩
set_option maxRecDepth 100000 in
set_option maxHeartbeats 4000000 in
theorem goOn_ (L : Lives B br bk b bm N sd w s vi ve inp [] 0 0) (hs : Fine s) (hi : ∀ x ∈ inp, 0 ≤ x ∧ x ≤ 4294967295) (hN : N ≤ 2097152) (F : Int) (hF : F ≤ 9000000000000000000) (T : Rn) (hT : MM.run N F.toNat s inp = T) (hn : T.n ≤ 4000) (hE : Easy N F.toNat s inp) :
    Calls Tryz.prog 40 #[.pointer (some ⟨br, 0, none⟩), .int .i64 F] w fun e w' => e = .returned (.tuple #[]) ∧ Done B br bk b bm N sd w T w' := by
  have hmf : ∀ (fn : Fn) (first cap : Array Value) (w : World), (Instr.makeFunc fn first cap).run Tryz.prog w = .ok (.func fn first cap) w := fun _ _ _ _ => rfl
  have hB := L.big
  have R0 : Head B br bk b bm N ((w.heap.size, .cells #[.pointer (some ⟨br, 0, none⟩)] 137) :: sd) w T F.toNat F.toNat (w.alloc (.cells #[.pointer (some ⟨br, 0, none⟩)] 137)) :=
    ⟨s, vi, ve, inp, [], 0, 0, by omega, Lives.more L _, own_box (by omega) _, hs, hi, ⟨Nat.le_refl _, Nat.le_refl _⟩, hE, by rw [hT], by rw [hT], by rw [hT]; rfl, by rw [hT]; omega⟩
  have HR := Lib.hid R0
  clear L hs hi R0 hT hE
  go_enter_defers Tryz.func40, Tryz.ntmps40
  go_wp2
  go_loopg [5] F.toNat (fun g _ wr => Head B br bk b bm N ((w.heap.size, .cells #[.pointer (some ⟨br, 0, none⟩)] 137) :: sd) w T F.toNat g wr)
  case atStart => exact HR.out
  case round =>
    obtain ⟨s, vi, ve, inp, out, k, c, hk, R⟩ := hrel
    have hbx := (R.lives.side _ (List.mem_cons_self)).1
    have q1 : wr.cell? ⟨w.heap.size, 0, none⟩ = some (.pointer (some ⟨br, 0, none⟩)) := cell_of_row wr _ 0 _ _ _ hbx
    have q2 := R.lives.r3
    have q3 := R.lives.r0
    have q4 := R.lives.at_.cst
    have hfew := R.few
    have hrest := R.rest.2.2.2
    have hcat : ∀ (w2 : World) (v : Value), w2.cell? ⟨w.heap.size, 0, none⟩ = some (.pointer (some ⟨br, 0, none⟩)) → True := fun _ _ _ => trivial
    clear hbx hcat
    by_cases hlt : (k : Int) < F
    · have hlt' : decide ((k : Int) < F) = true := by simpa using hlt
      obtain ⟨g, hg⟩ : ∃ g, gk = g + 1 := ⟨gk - 1, by omega⟩
      subst hg
      by_cases h0 : s.state = 0
      · have h0' : (s.state == 0) = true := by simp [h0]
        have HR2 := Lib.hid R
        have H0 := Lib.hid h0
        cases hok : (MM.step N s inp).ok with
        | true =>
          have hc1 : k + 1 ≤ T.n := by rw [run_yes N g s inp h0 _ rfl hok] at hrest; simp only at hrest; omega
          have cs := step_ok R.lives R.fine hN (by omega) (by omega) _ rfl hok (R.easy h0).2.1
          have HK := Lib.hid hok
          clear R h0 hok hrest
          generalize hst : s.state = sst at *
          have HST := Lib.hid hst
          clear hst
          go_wp2_with (go_at_call 65; (with_reducible refine cs.mono ?_); rintro e w2 ⟨rfl, vi2, ve2, L2, O2⟩; have y1 : w2.cell? ⟨w.heap.size, 0, none⟩ = some (.pointer (some ⟨br, 0, none⟩)) := (cell_of_row w2 _ 0 _ _ _ (L2.side _ (List.mem_cons_self)).1); have y2 := L2.r3; have y3 := L2.rf 3; have HL2 := Lib.hid L2; have HO2 := Lib.hid O2; clear L2 O2 cs)
          go_roundg g
          case measure => omega
          case rel =>
            refine ⟨_, vi2, ve2, _, _, k + 1, c + 1, by omega, HR2.out.next (HST.out.trans H0.out) HK.out ?_ (HO2.out.trans (Own.setRun (by have := HR2.out.lives.pl; omega) _ _))⟩
            rw [show ((k : Int) + 1) = ((k + 1 : Nat) : Int) by omega]
            exact HL2.out.turn 3 _ (rcells_3 _ _ _ _ _ _) HL2.out.inp
        | false => exact absurd hok (by rw [(R.easy h0).1]; decide)
      · have h0' : (s.state == 0) = false := by simp [h0]
        have hD := Lib.hid (R.stop (.inl h0))
        clear R h0
        generalize hst : s.state = sst at *
        have HST := Lib.hid hst
        clear hst
        go_wp2
        refine leaves_cons (f := 64) (args := #[.pointer (some ⟨w.heap.size, 0, none⟩)]) (by simp) (by simp [go_sem]) ?_
        refine (catch_idle w.heap.size _).mono ?_
        rintro e u' w'' ⟨rfl, rfl, rfl⟩
        simp [Leaves, settle, results, Tryz.results40, go_sem]
        exact Done.less (by omega) hD.out
    · have hlt' : decide ((k : Int) < F) = false := by simpa using hlt
      have hD := Lib.hid (R.stop (.inr (by omega)))
      clear R
      go_wp2
      refine leaves_cons (f := 64) (args := #[.pointer (some ⟨w.heap.size, 0, none⟩)]) (by simp) (by simp [go_sem]) ?_
      refine (catch_idle w.heap.size _).mono ?_
      rintro e u' w'' ⟨rfl, rfl, rfl⟩
      simp [Leaves, settle, results, Tryz.results40, go_sem]
      exact Done.less (by omega) hD.out
end
end ZU
end Go.Proofs.YtlmblfkcmhgdaaaGreat
namespace Go.Proofs.YtlmblfkcmhgdaaaGreat
open Go.RowKit
set_option linter.unusedVariables false
set_option linter.unusedSimpArgs false
namespace ZV
attribute [local go_sem ↓] Go.wp_at_zero Go.wp_at_succ
open MM MC MD MG MH MA MF ZS ZU
section
variable {b bm N : Nat} {w w' : World} {s : St} {vi ve : Value} {inp : List Int}
theorem Inp.form {B : Nat} (h : Inp w B b bm vi inp) : ∃ p l c, vi = .slice p l c := by
  rcases h.ok with ⟨_, p, c, rfl⟩ | ⟨g, o, c, rfl, _⟩
  · exact ⟨p, 0, c, rfl⟩
  · exact ⟨_, _, c, rfl⟩
theorem own_form {B : Nat} {e : TypeId} {z n : Nat} {v : Value} {xs : List Value} (h : w.ownsRow B e z v n xs) : ∃ p l c, v = .slice p l c := by
  rcases h.2 with ⟨rfl, _⟩ | ⟨g, cap, cur, rfl, _⟩
  · exact ⟨_, _, _, rfl⟩
  · exact ⟨_, _, _, rfl⟩
def codeOf (s : St) : Int := if s.state = 1 then s.x 10 else 0
/-- what a Run leaves -/
structure Ran (b bm N : Nat) (w : World) (T : Rn) (ve : Value) (w' : World) : Prop where
  at_ : At w' b bm N T.s
  ev : w'.ownsRow (w.heap.size + 3) 223 3 ve T.out.length (evs T.out)
  own : Own w.heap.size b bm w w'
  fine : Fine T.s
  inb : ∀ x ∈ T.inp, 0 ≤ x ∧ x ≤ 4294967295
def RunPost (b bm N : Nat) (w : World) (T : Rn) (e : Ending) (w' : World) : Prop := ∃ p l c, e = .returned (.agg #[.int .i64 T.s.state, .int .u32 (codeOf T.s), .slice p l c, .int .i64 (T.n : Nat)]) ∧ Ran b bm N w T (.slice p l c) w'
theorem res_fin {Q : Ending → World → Prop} {tmps : Array Value} {k : Nat} {w : World} {v0 v1 v2 v3 : Value}
    (hp : tmps.getD 6 undef = .pointer (some ⟨k, 0, none⟩)) (hg : w.heap[k]? = some (.cells #[v0, v1, v2, v3] 66 (0, 0))) (hQ : Q (.returned (.agg #[v0, v1, v2, v3])) w) :
    bodyPost Tryz.prog Tryz.f21 Q .ret { tmps := tmps, defers := [] } w := by
  refine bodyPost_ret (v := .agg #[v0, v1, v2, v3]) ?_ rfl hQ
  exact results_cell_row Tryz.results21 tmps _ k 66 _ (0, 0) _ hp hg Tryz.underlying66 rfl (by kernel_rfl)
theorem res4 {w : World} {k : Nat} {v0 v1 v2 v3 : Value} (hg : w.heap[k]? = some (.cells #[v0, v1, v2, v3] 66 (0, 0))) :
    (w.cell? ⟨k, 0, none⟩ = some v0 ∧ w.cell? ⟨k, 1, none⟩ = some v1 ∧ w.cell? ⟨k, 2, none⟩ = some v2 ∧ w.cell? ⟨k, 3, none⟩ = some v3) ∧ (w.frozen? ⟨k, 0, none⟩ = false ∧ w.frozen? ⟨k, 1, none⟩ = false ∧ w.frozen? ⟨k, 2, none⟩ = false ∧ w.frozen? ⟨k, 3, none⟩ = false) :=
  ⟨⟨cell_of_row w k 0 _ _ _ hg, cell_of_row w k 1 _ _ _ hg, cell_of_row w k 2 _ _ _ hg, cell_of_row w k 3 _ _ _ hg⟩, frozen_of_row w k 0 _ _ hg, frozen_of_row w k 1 _ _ hg, frozen_of_row w k 2 _ _ hg, frozen_of_row w k 3 _ _ hg⟩
def set4 (w : World) (k : Nat) (v0 v1 v2 v3 : Value) : World := (((w.setCell ⟨k, 0, none⟩ v0).setCell ⟨k, 1, none⟩ v1).setCell ⟨k, 2, none⟩ v2).setCell ⟨k, 3, none⟩ v3
theorem set4_at {w : World} {k : Nat} {a b c d : Value} (h : w.heap[k]? = some (.cells #[a, b, c, d] 66 (0, 0))) (v0 v1 v2 v3 : Value) :
    (set4 w k v0 v1 v2 v3).heap[k]? = some (.cells #[v0, v1, v2, v3] 66 (0, 0)) := by
  have h1 := heap_setCell_same w k 0 _ _ v0 h
  have h2 := heap_setCell_same _ k 1 _ _ v1 h1
  have h3 := heap_setCell_same _ k 2 _ _ v2 h2
  exact heap_setCell_same _ k 3 _ _ v3 h3
theorem set4_other (w : World) (k : Nat) (v0 v1 v2 v3 : Value) {j : Nat} (h : j ≠ k) : (set4 w k v0 v1 v2 v3).heap[j]? = w.heap[j]? := by
  unfold set4
  rw [heap_setCell_other _ ⟨k, 3, none⟩ j _ h, heap_setCell_other _ ⟨k, 2, none⟩ j _ h, heap_setCell_other _ ⟨k, 1, none⟩ j _ h, heap_setCell_other _ ⟨k, 0, none⟩ j _ h]
theorem set4_size (w : World) (k : Nat) (v0 v1 v2 v3 : Value) : (set4 w k v0 v1 v2 v3).heap.size = w.heap.size := by simp [set4, World.setCell]
theorem ran_of {T : Rn} {w1 : World} {vi' : Value} {c br bk : Nat} {sd : List (Nat × Obj)} (L : Lives w.heap.size br bk b bm N sd w1 T.s vi' ve T.inp T.out T.n c) (O : Own w.heap.size b bm w w1) (hf : Fine T.s) (hi : ∀ x ∈ T.inp, 0 ≤ x ∧ x ≤ 4294967295) (v0 v1 v2 v3 : Value) :
    Ran b bm N w T ve (set4 w1 w.heap.size v0 v1 v2 v3) := by
  have hp := L.pl
  have hs := set4_size w1 w.heap.size v0 v1 v2 v3
  have ho : ∀ j, j ≠ w.heap.size → (set4 w1 w.heap.size v0 v1 v2 v3).heap[j]? = w1.heap[j]? := fun j h => set4_other w1 w.heap.size v0 v1 v2 v3 h
  have h1 : (set4 w1 w.heap.size v0 v1 v2 v3).os = w1.os := rfl
  have h2 : (set4 w1 w.heap.size v0 v1 v2 v3).tape = w1.tape := rfl
  have h3 : (set4 w1 w.heap.size v0 v1 v2 v3).output = w1.output := rfl
  generalize set4 w1 w.heap.size v0 v1 v2 v3 = W at *
  refine ⟨L.at_.kept (ho b (by omega)) (ho bm (by omega)), ownsRow_same L.ev fun k hk => ho k (by omega), ⟨h1.trans O.os, h2.trans O.tape, h3.trans O.output, by have := O.size; omega, fun k q1 q2 q3 => (ho k (by omega)).trans (O.block k q1 q2 q3)⟩, hf, hi⟩
theorem Ran.drew {T : Rn} (h : Ran b bm N w T ve w') : Ran b bm N w T ve w'.drew :=
  ⟨h.at_.kept rfl rfl, ownsRow_same h.ev fun _ _ => rfl, ⟨h.own.os, h.own.tape, h.own.output, h.own.size, h.own.block⟩, h.fine, h.inb⟩
/-- a run begins -/
theorem begins (A : At w b bm N s) (I : Inp w w.heap.size b bm vi inp) :
    Lives w.heap.size (w.heap.size + 1 + 1) (w.heap.size + 1) b bm N [(w.heap.size, .cells #[.int .i64 0, .int .u32 0, .slice none 0 0, .int .i64 0] 66)]
      (((w.alloc (.cells #[.int .i64 0, .int .u32 0, .slice none 0 0, .int .i64 0] 66)).alloc (.map #[] 0)).alloc (.cells #[.pointer (some ⟨b, 0, none⟩), vi, .slice none 0 0, .int .i64 0, .map (some (w.heap.size + 1))] 116)) s vi (.slice none 0 0) inp [] 0 0 := by
  have hb := lt_of_get A.head
  have hm := lt_of_get A.mem
  have old : ∀ (o1 o2 o3 : Obj) (k : Nat), k < w.heap.size → (((w.alloc o1).alloc o2).alloc o3).heap[k]? = w.heap[k]? := fun o1 o2 o3 k hk => by
    rw [Below.heap_alloc _ _ _ (by simp; omega), Below.heap_alloc _ _ _ (by simp; omega), Below.heap_alloc _ _ _ hk]
  refine ⟨A.kept (old _ _ _ _ hb) (old _ _ _ _ hm), MW.new_at _ _ _ (by simp), I.kept fun k hk _ _ => old _ _ _ _ hk, World.ownsRow_nil _ _ _ _, ?_, by simp, ⟨hb, hm, by omega, by omega, by omega, by omega, by omega⟩, ?_⟩
  · refine ⟨.map [], ?_, fun x hx => by cases hx⟩
    have h := (World.ownsMap_made (w.alloc (.cells #[.int .i64 0, .int .u32 0, .slice none 0 0, .int .i64 0] 66)) Tryz.prog 46 insR).alloc (.cells #[.pointer (some ⟨b, 0, none⟩), vi, .slice none 0 0, .int .i64 0, .map (some (w.heap.size + 1))] 116)
    rw [World.size_alloc] at h
    exact h
  · intro p hp
    rw [List.mem_singleton] at hp
    subst hp
    refine ⟨?_, by show w.heap.size ≠ b; omega, by show w.heap.size ≠ bm; omega, by show w.heap.size ≠ w.heap.size + 1 + 1; omega, by show w.heap.size ≠ w.heap.size + 1; omega, fun e => by cases e⟩
    rw [Below.heap_alloc _ _ _ (by simp; omega), Below.heap_alloc _ _ _ (by simp)]
    exact heap_alloc_new w _
set_option maxRecDepth 100000 in
set_option maxHeartbeats 4000000 in
theorem run_ (A : At w b bm N s) (I : Inp w w.heap.size b bm vi inp) (hs : Fine s) (hi : ∀ x ∈ inp, 0 ≤ x ∧ x ≤ 4294967295) (hN : N ≤ 2097152) (F : Int) (hF : F ≤ 9000000000000000000) (T : Rn) (hT : MM.run N F.toNat s inp = T) (hn : T.n ≤ 4000) (hE : ZS.Easy N F.toNat s inp) :
    Calls Tryz.prog 21 #[.pointer (some ⟨b, 0, none⟩), vi, .int .i64 F] w (RunPost b bm N w T) := by
  have hmm := @run_makeMap Tryz.prog
  have hb := lt_of_get A.head
  have L0 := begins A I
  obtain ⟨p, l, cc, rfl⟩ := Inp.form I
  have HW := Lib.hid (Own.of_below (b := b) (bm := bm) ((((Below.refl w.heap.size w).alloc (Nat.le_refl _) (.cells #[.int .i64 0, .int .u32 0, .slice none 0 0, .int .i64 0] 66)).alloc (by simp) (.map #[] 0)).alloc (by simp; omega) (.cells #[.pointer (some ⟨b, 0, none⟩), .slice p l cc, .slice none 0 0, .int .i64 0, .map (some (w.heap.size + 1))] 116)) (Nat.le_refl _))
  have cg := goOn_ L0 hs hi hN F hF T hT hn hE
  clear A I hs hi hT L0 hE
  go_enter Tryz.func21, Tryz.ntmps21
  go_wp2_with (go_at_call 40; (with_reducible refine cg.mono ?_); rintro e w1 ⟨rfl, hD⟩)
  obtain ⟨vi', ve, c, L, O, hfin, hinb⟩ := hD
  obtain ⟨p', l', c', rfl⟩ := own_form L.ev
  have x1 := L.at_.cst
  have x2 := L.r2
  have x3 := L.r3
  have hres := (L.side _ (List.mem_singleton.2 rfl)).1
  obtain ⟨⟨y0, y1, y2, y3⟩, z0, z1, z2, z3⟩ := res4 hres
  have cc : ∀ q, Calls Tryz.prog 41 #[.pointer (some ⟨b, 0, none⟩)] (w1.drewN q) fun e w' => e = .returned (.int .u32 (codeOf T.s)) ∧ w' = w1.drewN q := fun q => (MW.code_ (L.at_.kept (w' := w1.drewN q) rfl rfl)).mono fun _ _ h => ⟨h.1, h.2.symm⟩
  have c1 : Calls Tryz.prog 41 #[.pointer (some ⟨b, 0, none⟩)] w1.drew fun e w' => e = .returned (.int .u32 (codeOf T.s)) ∧ w' = w1.drew := cc 1
  have HL := Lib.hid L
  have HO := Lib.hid O
  have HF := Lib.hid hfin
  have HI := Lib.hid hinb
  have HR := Lib.hid hres
  clear L O hfin hinb hres cc cg
  generalize hcd : codeOf T.s = cd at *
  have HCD := Lib.hid hcd
  clear hcd
  refine MW.tail_ 11 (by kernel_rfl) (by kernel_rfl) ?_
  simp only [List.take_succ_cons, List.take_zero, List.drop_succ_cons, List.drop_zero]
  repeat still_step
  still_call c1
  repeat still_step
  refine wpStill_nil ?_
  go_wp2
  refine res_fin (w := (set4 w1 w.heap.size (.int .i64 T.s.state) (.int .u32 cd) (.slice p' l' c') (.int .i64 (T.n : Nat))).drew) (k := w.heap.size) rfl (set4_at HR.out _ _ _ _) ⟨p', l', c', ?_, (ran_of HL.out (HW.out.trans HO.out) HF.out HI.out _ _ _ _).drew⟩
  rw [HCD.out]
end
end ZV
end Go.Proofs.YtlmblfkcmhgdaaaGreat
