/-
  What a run's act answers, whatever the instruction; and a step of a run: each a contract.
  A step of a run, and the run's rounds: each a contract.
-/
import Derived.Test.YtlmblfkcmhgdaaaGreatMachQ1
import Derived.Test.YtlmblfkcmhgdaaaGreatMachQ2
import Derived.Test.YtlmblfkcmhgdaaaGreatMachQ3
import Derived.Test.YtlmblfkcmhgdaaaGreatMachQ4
import Derived.Test.YtlmblfkcmhgdaaaGreatMachQ5
import Derived.Test.YtlmblfkcmhgdaaaGreatMachQf
import Derived.Defers
import Derived.Recover
import Derived.Laws.Pointers
namespace Go.Proofs.YtlmblfkcmhgdaaaGreat
open Go.RowKit
set_option linter.unusedVariables false
set_option linter.unusedSimpArgs false
namespace MS
attribute [local go_sem ↓] Go.wp_at_zero Go.wp_at_succ
open MM MC MD MG MH MA MF
def ActOk (B br bk b bm N : Nat) (sd : List (Nat × Obj)) (w : World) (args : Array Value) (out : List Ev) (n c : Nat) (r : Rs) : Prop :=
  ∃ S pc, r.s = setpc S pc ∧ Calls Tryz.prog 92 args w fun e w' => e = .returned (.int .u32 pc) ∧ ∃ vi' ve', Lives B br bk b bm N sd w' S vi' ve' r.inp (out ++ r.out) n c ∧ Own B b bm w w'
def ActBad (B br bk b bm N : Nat) (sd : List (Nat × Obj)) (w : World) (args : Array Value) (s : St) (vi ve : Value) (inp : List Int) (out : List Ev) (n c : Nat) (r : Rs) : Prop :=
  ∃ code, r.s = setst s code ∧ r.inp = inp ∧ Calls Tryz.prog 92 args w fun e w' => e = .panicked [{ v := .iface 138 (.int .i64 code), recovered := false }] ∧ Lives B br bk b bm N sd w' s vi ve inp out n c ∧ Own B b bm w w'
section
variable {B br bk b bm N : Nat} {sd : List (Nat × Obj)} {w w' : World} {s s' : St} {vi ve : Value} {inp : List Int} {out : List Ev} {n c : Nat}
theorem mk_ {args : Array Value} {r : Rs} {S : St} {pc : Int} (hr : yes S pc inp [] = r)
    (h : Calls Tryz.prog 92 args w fun e w' => e = .returned (.int .u32 pc) ∧ Lives B br bk b bm N sd w' S vi ve inp out n c ∧ Own B b bm w w') : ActOk B br bk b bm N sd w args out n c r := by
  subst hr
  refine ⟨S, pc, rfl, h.mono fun e w' ⟨he, L1, O1⟩ => ⟨he, vi, ve, ?_, O1⟩⟩
  show Lives B br bk b bm N sd w' S vi ve inp (out ++ []) n c
  rw [List.append_nil]; exact L1
theorem mkb_ {args : Array Value} {r : Rs} {code : Int} (hr : no s code inp = r)
    (h : Calls Tryz.prog 92 args w fun e w' => e = .panicked [{ v := .iface 138 (.int .i64 code), recovered := false }] ∧ Lives B br bk b bm N sd w' s vi ve inp out n c ∧ Own B b bm w w') : ActBad B br bk b bm N sd w args s vi ve inp out n c r := by
  subst hr
  exact ⟨code, rfl, rfl, h⟩
theorem bad_yes {S : St} {pc : Int} {i : List Int} {o : List Ev} {r : Rs} {p : Prop} (hr : yes S pc i o = r) (hk : r.ok = false) : p := by subst hr; cases hk
theorem bad_no {code : Int} {i : List Int} {r : Rs} {p : Prop} (hr : no s code i = r) (hk : r.ok = true) : p := by subst hr; cases hk
theorem eq_alu (rd r1 r2 : Nat) (im op : Int) (h : op ≤ 17) : act N s inp op rd r1 r2 im = yes (setx s rd (WM.val op (s.x r1) (s.x r2))) ((s.pc + 4) % 4294967296) inp [] := by
  unfold act; rw [if_pos h]; rfl
theorem eq_18 (rd r1 r2 : Nat) (im : Int) : act N s inp 18 rd r1 r2 im = yes (setx s rd (WM.val 1 (s.x r1) (im % 4294967296))) ((s.pc + 4) % 4294967296) inp [] := by
  first | rfl | (simp [act, isLoad, isStore, wide, loadTo, storeTo, realTo, plainOp]; done)
theorem eq_19 (rd r1 r2 : Nat) (im : Int) : act N s inp 19 rd r1 r2 im = yes (setx s rd (WM.val 4 (s.x r1) (im % 4294967296))) ((s.pc + 4) % 4294967296) inp [] := by
  first | rfl | (simp [act, isLoad, isStore, wide, loadTo, storeTo, realTo, plainOp]; done)
theorem eq_20 (rd r1 r2 : Nat) (im : Int) : act N s inp 20 rd r1 r2 im = yes (setx s rd (WM.val 5 (s.x r1) (im % 4294967296))) ((s.pc + 4) % 4294967296) inp [] := by
  first | rfl | (simp [act, isLoad, isStore, wide, loadTo, storeTo, realTo, plainOp]; done)
theorem eq_21 (rd r1 r2 : Nat) (im : Int) : act N s inp 21 rd r1 r2 im = yes (setx s rd (WM.val 6 (s.x r1) (im % 4294967296))) ((s.pc + 4) % 4294967296) inp [] := by
  first | rfl | (simp [act, isLoad, isStore, wide, loadTo, storeTo, realTo, plainOp]; done)
theorem eq_22 (rd r1 r2 : Nat) (im : Int) : act N s inp 22 rd r1 r2 im = yes (setx s rd (WM.val 9 (s.x r1) (im % 4294967296))) ((s.pc + 4) % 4294967296) inp [] := by
  first | rfl | (simp [act, isLoad, isStore, wide, loadTo, storeTo, realTo, plainOp]; done)
theorem eq_23 (rd r1 r2 : Nat) (im : Int) : act N s inp 23 rd r1 r2 im = yes (setx s rd (WM.val 10 (s.x r1) (im % 4294967296))) ((s.pc + 4) % 4294967296) inp [] := by
  first | rfl | (simp [act, isLoad, isStore, wide, loadTo, storeTo, realTo, plainOp]; done)
theorem eq_24 (rd r1 r2 : Nat) (im : Int) : act N s inp 24 rd r1 r2 im = yes (setx s rd (WM.val 3 (s.x r1) (im % 4294967296))) ((s.pc + 4) % 4294967296) inp [] := by
  first | rfl | (simp [act, isLoad, isStore, wide, loadTo, storeTo, realTo, plainOp]; done)
theorem eq_25 (rd r1 r2 : Nat) (im : Int) : act N s inp 25 rd r1 r2 im = yes (setx s rd (WM.val 7 (s.x r1) (im % 4294967296))) ((s.pc + 4) % 4294967296) inp [] := by
  first | rfl | (simp [act, isLoad, isStore, wide, loadTo, storeTo, realTo, plainOp]; done)
theorem eq_26 (rd r1 r2 : Nat) (im : Int) : act N s inp 26 rd r1 r2 im = yes (setx s rd (WM.val 8 (s.x r1) (im % 4294967296))) ((s.pc + 4) % 4294967296) inp [] := by
  first | rfl | (simp [act, isLoad, isStore, wide, loadTo, storeTo, realTo, plainOp]; done)
theorem eq_27 (rd r1 r2 : Nat) (im : Int) : act N s inp 27 rd r1 r2 im = if fit N ((s.x r1 + im % 4294967296) % 4294967296) 1 = true then yes (setx s rd (WM.ext (num s.mem ((s.x r1 + im % 4294967296) % 4294967296).toNat 1) 8)) ((s.pc + 4) % 4294967296) inp [] else no s 3 inp := by
  first | rfl | (simp [act, isLoad, isStore, wide, loadTo, storeTo, realTo, plainOp]; done)
theorem eq_28 (rd r1 r2 : Nat) (im : Int) : act N s inp 28 rd r1 r2 im = if fit N ((s.x r1 + im % 4294967296) % 4294967296) 1 = true then yes (setx s rd (num s.mem ((s.x r1 + im % 4294967296) % 4294967296).toNat 1)) ((s.pc + 4) % 4294967296) inp [] else no s 3 inp := by
  first | rfl | (simp [act, isLoad, isStore, wide, loadTo, storeTo, realTo, plainOp]; done)
theorem eq_29 (rd r1 r2 : Nat) (im : Int) : act N s inp 29 rd r1 r2 im = if fit N ((s.x r1 + im % 4294967296) % 4294967296) 4 = true then yes (setx s rd (num s.mem ((s.x r1 + im % 4294967296) % 4294967296).toNat 4)) ((s.pc + 4) % 4294967296) inp [] else no s 3 inp := by
  first | rfl | (simp [act, isLoad, isStore, wide, loadTo, storeTo, realTo, plainOp]; done)
theorem eq_43 (rd r1 r2 : Nat) (im : Int) : act N s inp 43 rd r1 r2 im = if fit N ((s.x r1 + im % 4294967296) % 4294967296) 8 = true then yes (setf s rd (RM.canon (num s.mem ((s.x r1 + im % 4294967296) % 4294967296).toNat 8).toNat)) ((s.pc + 4) % 4294967296) inp [] else no s 3 inp := by
  first | rfl | (simp [act, isLoad, isStore, wide, loadTo, storeTo, realTo, plainOp]; done)
theorem eq_30 (rd r1 r2 : Nat) (im : Int) : act N s inp 30 rd r1 r2 im = if fit N ((s.x r1 + im % 4294967296) % 4294967296) 1 = true then yes { s with mem := lay s.mem ((s.x r1 + im % 4294967296) % 4294967296).toNat 1 (s.x r2) } ((s.pc + 4) % 4294967296) inp [] else no s 3 inp := by
  first | rfl | (simp [act, isLoad, isStore, wide, loadTo, storeTo, realTo, plainOp]; done)
theorem eq_31 (rd r1 r2 : Nat) (im : Int) : act N s inp 31 rd r1 r2 im = if fit N ((s.x r1 + im % 4294967296) % 4294967296) 4 = true then yes { s with mem := lay s.mem ((s.x r1 + im % 4294967296) % 4294967296).toNat 4 (s.x r2) } ((s.pc + 4) % 4294967296) inp [] else no s 3 inp := by
  first | rfl | (simp [act, isLoad, isStore, wide, loadTo, storeTo, realTo, plainOp]; done)
theorem eq_44 (rd r1 r2 : Nat) (im : Int) : act N s inp 44 rd r1 r2 im = if fit N ((s.x r1 + im % 4294967296) % 4294967296) 8 = true then yes { s with mem := lay s.mem ((s.x r1 + im % 4294967296) % 4294967296).toNat 8 ((s.f r2 : Nat) : Int) } ((s.pc + 4) % 4294967296) inp [] else no s 3 inp := by
  first | rfl | (simp [act, isLoad, isStore, wide, loadTo, storeTo, realTo, plainOp]; done)
theorem eq_32 (rd r1 r2 : Nat) (im : Int) : act N s inp 32 rd r1 r2 im = yes s (if taken 32 (s.x r1) (s.x r2) = true then (s.pc + im % 4294967296) % 4294967296 else ((s.pc + 4) % 4294967296)) inp [] := by
  first | rfl | (simp [act, isLoad, isStore, wide, loadTo, storeTo, realTo, plainOp]; done)
theorem eq_33 (rd r1 r2 : Nat) (im : Int) : act N s inp 33 rd r1 r2 im = yes s (if taken 33 (s.x r1) (s.x r2) = true then (s.pc + im % 4294967296) % 4294967296 else ((s.pc + 4) % 4294967296)) inp [] := by
  first | rfl | (simp [act, isLoad, isStore, wide, loadTo, storeTo, realTo, plainOp]; done)
theorem eq_34 (rd r1 r2 : Nat) (im : Int) : act N s inp 34 rd r1 r2 im = yes s (if taken 34 (s.x r1) (s.x r2) = true then (s.pc + im % 4294967296) % 4294967296 else ((s.pc + 4) % 4294967296)) inp [] := by
  first | rfl | (simp [act, isLoad, isStore, wide, loadTo, storeTo, realTo, plainOp]; done)
theorem eq_35 (rd r1 r2 : Nat) (im : Int) : act N s inp 35 rd r1 r2 im = yes s (if taken 35 (s.x r1) (s.x r2) = true then (s.pc + im % 4294967296) % 4294967296 else ((s.pc + 4) % 4294967296)) inp [] := by
  first | rfl | (simp [act, isLoad, isStore, wide, loadTo, storeTo, realTo, plainOp]; done)
theorem eq_36 (rd r1 r2 : Nat) (im : Int) : act N s inp 36 rd r1 r2 im = yes s (if taken 36 (s.x r1) (s.x r2) = true then (s.pc + im % 4294967296) % 4294967296 else ((s.pc + 4) % 4294967296)) inp [] := by
  first | rfl | (simp [act, isLoad, isStore, wide, loadTo, storeTo, realTo, plainOp]; done)
theorem eq_37 (rd r1 r2 : Nat) (im : Int) : act N s inp 37 rd r1 r2 im = yes s (if taken 37 (s.x r1) (s.x r2) = true then (s.pc + im % 4294967296) % 4294967296 else ((s.pc + 4) % 4294967296)) inp [] := by
  first | rfl | (simp [act, isLoad, isStore, wide, loadTo, storeTo, realTo, plainOp]; done)
theorem eq_38 (rd r1 r2 : Nat) (im : Int) : act N s inp 38 rd r1 r2 im = yes (setx s rd (im % 4294967296 * 4096 % 4294967296)) ((s.pc + 4) % 4294967296) inp [] := by
  first | rfl | (simp [act, isLoad, isStore, wide, loadTo, storeTo, realTo, plainOp]; done)
theorem eq_39 (rd r1 r2 : Nat) (im : Int) : act N s inp 39 rd r1 r2 im = yes (setx s rd ((im % 4294967296 * 4096 % 4294967296 + s.pc) % 4294967296)) ((s.pc + 4) % 4294967296) inp [] := by
  first | rfl | (simp [act, isLoad, isStore, wide, loadTo, storeTo, realTo, plainOp]; done)
theorem eq_40 (rd r1 r2 : Nat) (im : Int) : act N s inp 40 rd r1 r2 im = yes (setx s rd ((s.pc + 4) % 4294967296)) ((s.pc + im % 4294967296) % 4294967296) inp [] := by
  first | rfl | (simp [act, isLoad, isStore, wide, loadTo, storeTo, realTo, plainOp]; done)
theorem eq_41 (rd r1 r2 : Nat) (im : Int) : act N s inp 41 rd r1 r2 im = yes (setx s rd ((s.pc + 4) % 4294967296)) ((s.x r1 + im % 4294967296) % 4294967296 / 2 * 2) inp [] := by
  first | rfl | (simp [act, isLoad, isStore, wide, loadTo, storeTo, realTo, plainOp]; done)
theorem eq_42 (rd r1 r2 : Nat) (im : Int) : act N s inp 42 rd r1 r2 im = ecall s ((s.pc + 4) % 4294967296) inp := by
  first | rfl | (simp [act, isLoad, isStore, wide, loadTo, storeTo, realTo, plainOp]; done)
theorem eq_49 (rd r1 r2 : Nat) (im : Int) : act N s inp 49 rd r1 r2 im = yes (setf s rd (s.f r1)) ((s.pc + 4) % 4294967296) inp [] := by
  first | rfl | (simp [act, isLoad, isStore, wide, loadTo, storeTo, realTo, plainOp]; done)
theorem eq_50 (rd r1 r2 : Nat) (im : Int) : act N s inp 50 rd r1 r2 im = yes (setf s rd (RM.fneg (s.f r1))) ((s.pc + 4) % 4294967296) inp [] := by
  first | rfl | (simp [act, isLoad, isStore, wide, loadTo, storeTo, realTo, plainOp]; done)
theorem eq_54 (rd r1 r2 : Nat) (im : Int) : act N s inp 54 rd r1 r2 im = yes (setx s rd (RM.toWord (s.f r1))) ((s.pc + 4) % 4294967296) inp [] := by
  first | rfl | (simp [act, isLoad, isStore, wide, loadTo, storeTo, realTo, plainOp]; done)
theorem eq_55 (rd r1 r2 : Nat) (im : Int) : act N s inp 55 rd r1 r2 im = yes (setf s rd (RM.ofInt (wrap32 (s.x r1)))) ((s.pc + 4) % 4294967296) inp [] := by
  first | rfl | (simp [act, isLoad, isStore, wide, loadTo, storeTo, realTo, plainOp]; done)
theorem eq_51 (rd r1 r2 : Nat) (im : Int) : act N s inp 51 rd r1 r2 im = yes (setx s rd ((RM.feq (s.f r1) (s.f r2)).toNat : Int)) ((s.pc + 4) % 4294967296) inp [] := by
  first | rfl | (simp [act, isLoad, isStore, wide, loadTo, storeTo, realTo, plainOp]; done)
theorem eq_52 (rd r1 r2 : Nat) (im : Int) : act N s inp 52 rd r1 r2 im = yes (setx s rd ((RM.flt (s.f r1) (s.f r2)).toNat : Int)) ((s.pc + 4) % 4294967296) inp [] := by
  first | rfl | (simp [act, isLoad, isStore, wide, loadTo, storeTo, realTo, plainOp]; done)
theorem eq_53 (rd r1 r2 : Nat) (im : Int) : act N s inp 53 rd r1 r2 im = yes (setx s rd ((RM.fle (s.f r1) (s.f r2)).toNat : Int)) ((s.pc + 4) % 4294967296) inp [] := by
  first | rfl | (simp [act, isLoad, isStore, wide, loadTo, storeTo, realTo, plainOp]; done)
theorem eq_45 (rd r1 r2 : Nat) (im : Int) : act N s inp 45 rd r1 r2 im = yes (setf s rd (RM.fadd (s.f r1) (s.f r2))) ((s.pc + 4) % 4294967296) inp [] := by
  first | rfl | (simp [act, isLoad, isStore, wide, loadTo, storeTo, realTo, plainOp]; done)
theorem eq_46 (rd r1 r2 : Nat) (im : Int) : act N s inp 46 rd r1 r2 im = yes (setf s rd (RM.fsub (s.f r1) (s.f r2))) ((s.pc + 4) % 4294967296) inp [] := by
  first | rfl | (simp [act, isLoad, isStore, wide, loadTo, storeTo, realTo, plainOp]; done)
theorem eq_47 (rd r1 r2 : Nat) (im : Int) : act N s inp 47 rd r1 r2 im = yes (setf s rd (RM.fmul (s.f r1) (s.f r2))) ((s.pc + 4) % 4294967296) inp [] := by
  first | rfl | (simp [act, isLoad, isStore, wide, loadTo, storeTo, realTo, plainOp]; done)
theorem eq_48 (rd r1 r2 : Nat) (im : Int) : act N s inp 48 rd r1 r2 im = yes (setf s rd (RM.fdiv (s.f r1) (s.f r2))) ((s.pc + 4) % 4294967296) inp [] := by
  first | rfl | (simp [act, isLoad, isStore, wide, loadTo, storeTo, realTo, plainOp]; done)
theorem act_ok (L : Lives B br bk b bm N sd w s vi ve inp out n c) (hs : Fine s) (hN : N ≤ 2097152) (rd r1 r2 : Nat) (hd : rd < 32) (h1 : r1 < 32) (h2 : r2 < 32) (op im : Int) (ho : 1 ≤ op ∧ op ≤ 55) (hl : out.length ≤ 100000) (r : Rs) (hr : act N s inp op rd r1 r2 im = r) (hk : r.ok = true) :
    ActOk B br bk b bm N sd w #[.pointer (some ⟨br, 0, none⟩), .agg #[.int .i64 op, .int .i64 rd, .int .i64 r1, .int .i64 r2, .int .i64 im]] out n c r := by
  by_cases h17 : op ≤ 17
  · rw [eq_alu rd r1 r2 im op h17] at hr
    exact mk_ hr (act_alu L hs hN rd r1 r2 hd h1 h2 im op (by omega))
  rcases (show op = 18 ∨ op = 19 ∨ op = 20 ∨ op = 21 ∨ op = 22 ∨ op = 23 ∨ op = 24 ∨ op = 25 ∨ op = 26 ∨ op = 27 ∨ op = 28 ∨ op = 29 ∨ op = 30 ∨ op = 31 ∨ op = 32 ∨ op = 33 ∨ op = 34 ∨ op = 35 ∨ op = 36 ∨ op = 37 ∨ op = 38 ∨ op = 39 ∨ op = 40 ∨ op = 41 ∨ op = 42 ∨ op = 43 ∨ op = 44 ∨ op = 45 ∨ op = 46 ∨ op = 47 ∨ op = 48 ∨ op = 49 ∨ op = 50 ∨ op = 51 ∨ op = 52 ∨ op = 53 ∨ op = 54 ∨ op = 55 by omega) with rfl | rfl | rfl | rfl | rfl | rfl | rfl | rfl | rfl | rfl | rfl | rfl | rfl | rfl | rfl | rfl | rfl | rfl | rfl | rfl | rfl | rfl | rfl | rfl | rfl | rfl | rfl | rfl | rfl | rfl | rfl | rfl | rfl | rfl | rfl | rfl | rfl | rfl
  · rw [eq_18] at hr; exact mk_ hr (act_18 L hs hN rd r1 r2 hd h1 h2 im)
  · rw [eq_19] at hr; exact mk_ hr (act_19 L hs hN rd r1 r2 hd h1 h2 im)
  · rw [eq_20] at hr; exact mk_ hr (act_20 L hs hN rd r1 r2 hd h1 h2 im)
  · rw [eq_21] at hr; exact mk_ hr (act_21 L hs hN rd r1 r2 hd h1 h2 im)
  · rw [eq_22] at hr; exact mk_ hr (act_22 L hs hN rd r1 r2 hd h1 h2 im)
  · rw [eq_23] at hr; exact mk_ hr (act_23 L hs hN rd r1 r2 hd h1 h2 im)
  · rw [eq_24] at hr; exact mk_ hr (act_24 L hs hN rd r1 r2 hd h1 h2 im)
  · rw [eq_25] at hr; exact mk_ hr (act_25 L hs hN rd r1 r2 hd h1 h2 im)
  · rw [eq_26] at hr; exact mk_ hr (act_26 L hs hN rd r1 r2 hd h1 h2 im)
  · rw [eq_27] at hr
    by_cases hf : fit N ((s.x r1 + im % 4294967296) % 4294967296) 1 = true
    · rw [if_pos hf] at hr; exact mk_ hr (act_27 L hs hN rd r1 r2 hd h1 h2 im hf)
    · rw [if_neg hf] at hr; exact bad_no hr hk
  · rw [eq_28] at hr
    by_cases hf : fit N ((s.x r1 + im % 4294967296) % 4294967296) 1 = true
    · rw [if_pos hf] at hr; exact mk_ hr (act_28 L hs hN rd r1 r2 hd h1 h2 im hf)
    · rw [if_neg hf] at hr; exact bad_no hr hk
  · rw [eq_29] at hr
    by_cases hf : fit N ((s.x r1 + im % 4294967296) % 4294967296) 4 = true
    · rw [if_pos hf] at hr; exact mk_ hr (act_29 L hs hN rd r1 r2 hd h1 h2 im hf)
    · rw [if_neg hf] at hr; exact bad_no hr hk
  · rw [eq_30] at hr
    by_cases hf : fit N ((s.x r1 + im % 4294967296) % 4294967296) 1 = true
    · rw [if_pos hf] at hr; exact mk_ hr (act_30 L hs hN rd r1 r2 hd h1 h2 im hf)
    · rw [if_neg hf] at hr; exact bad_no hr hk
  · rw [eq_31] at hr
    by_cases hf : fit N ((s.x r1 + im % 4294967296) % 4294967296) 4 = true
    · rw [if_pos hf] at hr; exact mk_ hr (act_31 L hs hN rd r1 r2 hd h1 h2 im hf)
    · rw [if_neg hf] at hr; exact bad_no hr hk
  · rw [eq_32] at hr
    cases ht : taken 32 (s.x r1) (s.x r2) with
    | true => rw [ht, if_pos rfl] at hr; exact mk_ hr (act_32_true L hs hN rd r1 r2 hd h1 h2 im ht)
    | false => rw [ht, if_neg (by decide)] at hr; exact mk_ hr (act_32_false L hs hN rd r1 r2 hd h1 h2 im ht)
  · rw [eq_33] at hr
    cases ht : taken 33 (s.x r1) (s.x r2) with
    | true => rw [ht, if_pos rfl] at hr; exact mk_ hr (act_33_true L hs hN rd r1 r2 hd h1 h2 im ht)
    | false => rw [ht, if_neg (by decide)] at hr; exact mk_ hr (act_33_false L hs hN rd r1 r2 hd h1 h2 im ht)
  · rw [eq_34] at hr
    cases ht : taken 34 (s.x r1) (s.x r2) with
    | true => rw [ht, if_pos rfl] at hr; exact mk_ hr (act_34_true L hs hN rd r1 r2 hd h1 h2 im ht)
    | false => rw [ht, if_neg (by decide)] at hr; exact mk_ hr (act_34_false L hs hN rd r1 r2 hd h1 h2 im ht)
  · rw [eq_35] at hr
    cases ht : taken 35 (s.x r1) (s.x r2) with
    | true => rw [ht, if_pos rfl] at hr; exact mk_ hr (act_35_true L hs hN rd r1 r2 hd h1 h2 im ht)
    | false => rw [ht, if_neg (by decide)] at hr; exact mk_ hr (act_35_false L hs hN rd r1 r2 hd h1 h2 im ht)
  · rw [eq_36] at hr
    cases ht : taken 36 (s.x r1) (s.x r2) with
    | true => rw [ht, if_pos rfl] at hr; exact mk_ hr (act_36_true L hs hN rd r1 r2 hd h1 h2 im ht)
    | false => rw [ht, if_neg (by decide)] at hr; exact mk_ hr (act_36_false L hs hN rd r1 r2 hd h1 h2 im ht)
  · rw [eq_37] at hr
    cases ht : taken 37 (s.x r1) (s.x r2) with
    | true => rw [ht, if_pos rfl] at hr; exact mk_ hr (act_37_true L hs hN rd r1 r2 hd h1 h2 im ht)
    | false => rw [ht, if_neg (by decide)] at hr; exact mk_ hr (act_37_false L hs hN rd r1 r2 hd h1 h2 im ht)
  · rw [eq_38] at hr; exact mk_ hr (act_38 L hs hN rd r1 r2 hd h1 h2 im)
  · rw [eq_39] at hr; exact mk_ hr (act_39 L hs hN rd r1 r2 hd h1 h2 im)
  · rw [eq_40] at hr; exact mk_ hr (act_40 L hs hN rd r1 r2 hd h1 h2 im)
  · rw [eq_41] at hr; exact mk_ hr (act_41 L hs hN rd r1 r2 hd h1 h2 im)
  · rw [eq_42] at hr
    unfold ecall at hr
    by_cases c1 : s.x 17 = 1
    · rw [if_pos c1] at hr
      subst hr
      exact ⟨s, _, rfl, (act_e1 L hs hN rd r1 r2 hd h1 h2 im c1 hl).mono fun e w' ⟨he, ve', L1, O1⟩ => ⟨he, vi, ve', L1, O1⟩⟩
    rw [if_neg c1] at hr
    by_cases c2 : s.x 17 = 2
    · rw [if_pos c2] at hr
      subst hr
      refine ⟨setx s 10 (inp.headD 0), _, rfl, (act_e2 L hs hN rd r1 r2 hd h1 h2 im c2).mono fun e w' ⟨he, vi', L1, O1⟩ => ⟨he, vi', ve, ?_, O1⟩⟩
      show Lives B br bk b bm N sd w' _ vi' ve inp.tail (out ++ []) n c
      rw [List.append_nil]; exact L1
    rw [if_neg c2] at hr
    by_cases c3 : s.x 17 = 3
    · rw [if_pos c3] at hr; exact mk_ hr (act_e3 L hs hN rd r1 r2 hd h1 h2 im c3)
    rw [if_neg c3] at hr
    by_cases c4 : s.x 17 = 4
    · rw [if_pos c4] at hr; exact mk_ hr (act_e4 L hs hN rd r1 r2 hd h1 h2 im c4)
    rw [if_neg c4] at hr
    by_cases c5 : s.x 17 = 5
    · rw [if_pos c5] at hr
      subst hr
      exact ⟨s, _, rfl, (act_e5 L hs hN rd r1 r2 hd h1 h2 im c5 hl).mono fun e w' ⟨he, ve', L1, O1⟩ => ⟨he, vi, ve', L1, O1⟩⟩
    rw [if_neg c5] at hr
    exact bad_no hr hk
  · rw [eq_43] at hr
    by_cases hf : fit N ((s.x r1 + im % 4294967296) % 4294967296) 8 = true
    · rw [if_pos hf] at hr; exact mk_ hr (act_43 L hs hN rd r1 r2 hd h1 h2 im hf)
    · rw [if_neg hf] at hr; exact bad_no hr hk
  · rw [eq_44] at hr
    by_cases hf : fit N ((s.x r1 + im % 4294967296) % 4294967296) 8 = true
    · rw [if_pos hf] at hr; exact mk_ hr (act_44 L hs hN rd r1 r2 hd h1 h2 im hf)
    · rw [if_neg hf] at hr; exact bad_no hr hk
  · rw [eq_45] at hr; exact mk_ hr (act_45 L hs hN rd r1 r2 hd h1 h2 im)
  · rw [eq_46] at hr; exact mk_ hr (act_46 L hs hN rd r1 r2 hd h1 h2 im)
  · rw [eq_47] at hr; exact mk_ hr (act_47 L hs hN rd r1 r2 hd h1 h2 im)
  · rw [eq_48] at hr; exact mk_ hr (act_48 L hs hN rd r1 r2 hd h1 h2 im)
  · rw [eq_49] at hr; exact mk_ hr (act_49 L hs hN rd r1 r2 hd h1 h2 im)
  · rw [eq_50] at hr; exact mk_ hr (act_50 L hs hN rd r1 r2 hd h1 h2 im)
  · rw [eq_51] at hr; exact mk_ hr (act_51 L hs hN rd r1 r2 hd h1 h2 im)
  · rw [eq_52] at hr; exact mk_ hr (act_52 L hs hN rd r1 r2 hd h1 h2 im)
  · rw [eq_53] at hr; exact mk_ hr (act_53 L hs hN rd r1 r2 hd h1 h2 im)
  · rw [eq_54] at hr; exact mk_ hr (act_54 L hs hN rd r1 r2 hd h1 h2 im)
  · rw [eq_55] at hr; exact mk_ hr (act_55 L hs hN rd r1 r2 hd h1 h2 im)
theorem act_bad (L : Lives B br bk b bm N sd w s vi ve inp out n c) (hs : Fine s) (hN : N ≤ 2097152) (rd r1 r2 : Nat) (hd : rd < 32) (h1 : r1 < 32) (h2 : r2 < 32) (op im : Int) (ho : 1 ≤ op ∧ op ≤ 55) (r : Rs) (hr : act N s inp op rd r1 r2 im = r) (hk : r.ok = false) :
    ActBad B br bk b bm N sd w #[.pointer (some ⟨br, 0, none⟩), .agg #[.int .i64 op, .int .i64 rd, .int .i64 r1, .int .i64 r2, .int .i64 im]] s vi ve inp out n c r := by
  by_cases h17 : op ≤ 17
  · rw [eq_alu rd r1 r2 im op h17] at hr; exact bad_yes hr hk
  rcases (show op = 18 ∨ op = 19 ∨ op = 20 ∨ op = 21 ∨ op = 22 ∨ op = 23 ∨ op = 24 ∨ op = 25 ∨ op = 26 ∨ op = 27 ∨ op = 28 ∨ op = 29 ∨ op = 30 ∨ op = 31 ∨ op = 32 ∨ op = 33 ∨ op = 34 ∨ op = 35 ∨ op = 36 ∨ op = 37 ∨ op = 38 ∨ op = 39 ∨ op = 40 ∨ op = 41 ∨ op = 42 ∨ op = 43 ∨ op = 44 ∨ op = 45 ∨ op = 46 ∨ op = 47 ∨ op = 48 ∨ op = 49 ∨ op = 50 ∨ op = 51 ∨ op = 52 ∨ op = 53 ∨ op = 54 ∨ op = 55 by omega) with rfl | rfl | rfl | rfl | rfl | rfl | rfl | rfl | rfl | rfl | rfl | rfl | rfl | rfl | rfl | rfl | rfl | rfl | rfl | rfl | rfl | rfl | rfl | rfl | rfl | rfl | rfl | rfl | rfl | rfl | rfl | rfl | rfl | rfl | rfl | rfl | rfl | rfl
  · rw [eq_18] at hr; exact bad_yes hr hk
  · rw [eq_19] at hr; exact bad_yes hr hk
  · rw [eq_20] at hr; exact bad_yes hr hk
  · rw [eq_21] at hr; exact bad_yes hr hk
  · rw [eq_22] at hr; exact bad_yes hr hk
  · rw [eq_23] at hr; exact bad_yes hr hk
  · rw [eq_24] at hr; exact bad_yes hr hk
  · rw [eq_25] at hr; exact bad_yes hr hk
  · rw [eq_26] at hr; exact bad_yes hr hk
  · rw [eq_27] at hr
    cases hf : fit N ((s.x r1 + im % 4294967296) % 4294967296) 1 with
    | true => rw [hf, if_pos rfl] at hr; exact bad_yes hr hk
    | false => rw [hf, if_neg (by decide)] at hr; exact mkb_ hr (act_bad_27 L hs hN rd r1 r2 hd h1 h2 im hf)
  · rw [eq_28] at hr
    cases hf : fit N ((s.x r1 + im % 4294967296) % 4294967296) 1 with
    | true => rw [hf, if_pos rfl] at hr; exact bad_yes hr hk
    | false => rw [hf, if_neg (by decide)] at hr; exact mkb_ hr (act_bad_28 L hs hN rd r1 r2 hd h1 h2 im hf)
  · rw [eq_29] at hr
    cases hf : fit N ((s.x r1 + im % 4294967296) % 4294967296) 4 with
    | true => rw [hf, if_pos rfl] at hr; exact bad_yes hr hk
    | false => rw [hf, if_neg (by decide)] at hr; exact mkb_ hr (act_bad_29 L hs hN rd r1 r2 hd h1 h2 im hf)
  · rw [eq_30] at hr
    cases hf : fit N ((s.x r1 + im % 4294967296) % 4294967296) 1 with
    | true => rw [hf, if_pos rfl] at hr; exact bad_yes hr hk
    | false => rw [hf, if_neg (by decide)] at hr; exact mkb_ hr (act_bad_30 L hs hN rd r1 r2 hd h1 h2 im hf)
  · rw [eq_31] at hr
    cases hf : fit N ((s.x r1 + im % 4294967296) % 4294967296) 4 with
    | true => rw [hf, if_pos rfl] at hr; exact bad_yes hr hk
    | false => rw [hf, if_neg (by decide)] at hr; exact mkb_ hr (act_bad_31 L hs hN rd r1 r2 hd h1 h2 im hf)
  · rw [eq_32] at hr; exact bad_yes hr hk
  · rw [eq_33] at hr; exact bad_yes hr hk
  · rw [eq_34] at hr; exact bad_yes hr hk
  · rw [eq_35] at hr; exact bad_yes hr hk
  · rw [eq_36] at hr; exact bad_yes hr hk
  · rw [eq_37] at hr; exact bad_yes hr hk
  · rw [eq_38] at hr; exact bad_yes hr hk
  · rw [eq_39] at hr; exact bad_yes hr hk
  · rw [eq_40] at hr; exact bad_yes hr hk
  · rw [eq_41] at hr; exact bad_yes hr hk
  · rw [eq_42] at hr
    unfold ecall at hr
    by_cases c1 : s.x 17 = 1
    · rw [if_pos c1] at hr; exact bad_yes hr hk
    rw [if_neg c1] at hr
    by_cases c2 : s.x 17 = 2
    · rw [if_pos c2] at hr; exact bad_yes hr hk
    rw [if_neg c2] at hr
    by_cases c3 : s.x 17 = 3
    · rw [if_pos c3] at hr; exact bad_yes hr hk
    rw [if_neg c3] at hr
    by_cases c4 : s.x 17 = 4
    · rw [if_pos c4] at hr; exact bad_yes hr hk
    rw [if_neg c4] at hr
    by_cases c5 : s.x 17 = 5
    · rw [if_pos c5] at hr; exact bad_yes hr hk
    rw [if_neg c5] at hr
    exact mkb_ hr (act_bad_42 L hs hN rd r1 r2 hd h1 h2 im (fun k h1 h2 e => by omega))
  · rw [eq_43] at hr
    cases hf : fit N ((s.x r1 + im % 4294967296) % 4294967296) 8 with
    | true => rw [hf, if_pos rfl] at hr; exact bad_yes hr hk
    | false => rw [hf, if_neg (by decide)] at hr; exact mkb_ hr (act_bad_43 L hs hN rd r1 r2 hd h1 h2 im hf)
  · rw [eq_44] at hr
    cases hf : fit N ((s.x r1 + im % 4294967296) % 4294967296) 8 with
    | true => rw [hf, if_pos rfl] at hr; exact bad_yes hr hk
    | false => rw [hf, if_neg (by decide)] at hr; exact mkb_ hr (act_bad_44 L hs hN rd r1 r2 hd h1 h2 im hf)
  · rw [eq_45] at hr; exact bad_yes hr hk
  · rw [eq_46] at hr; exact bad_yes hr hk
  · rw [eq_47] at hr; exact bad_yes hr hk
  · rw [eq_48] at hr; exact bad_yes hr hk
  · rw [eq_49] at hr; exact bad_yes hr hk
  · rw [eq_50] at hr; exact bad_yes hr hk
  · rw [eq_51] at hr; exact bad_yes hr hk
  · rw [eq_52] at hr; exact bad_yes hr hk
  · rw [eq_53] at hr; exact bad_yes hr hk
  · rw [eq_54] at hr; exact bad_yes hr hk
  · rw [eq_55] at hr; exact bad_yes hr hk
end
end MS
end Go.Proofs.YtlmblfkcmhgdaaaGreat
namespace Go.Proofs.YtlmblfkcmhgdaaaGreat
open Go.RowKit
set_option linter.unusedVariables false
set_option linter.unusedSimpArgs false
namespace MT
attribute [local go_sem ↓] Go.wp_at_zero Go.wp_at_succ
open MM MC MD MG MH MA MF MS
section
variable {B br bk b bm N : Nat} {sd : List (Nat × Obj)} {w w' : World} {s s' : St} {vi ve : Value} {inp : List Int} {out : List Ev} {n c : Nat}
theorem ok_parts {N : Nat} {s : St} {inp : List Int} (hk : (MM.step N s inp).ok = true) : fit N s.pc 4 = true ∧ CM.dec (num s.mem s.pc.toNat 4) ≠ 0 := by
  unfold MM.step at hk
  cases h1 : fit N s.pc 4 with
  | false => rw [h1, if_neg (by decide)] at hk; cases hk
  | true =>
    refine ⟨rfl, fun h2 => ?_⟩
    rw [h1, if_pos rfl, if_pos h2] at hk; cases hk
theorem step_act {N : Nat} {s : St} {inp : List Int} (h1 : fit N s.pc 4 = true) (h2 : CM.dec (num s.mem s.pc.toNat 4) ≠ 0) :
    MM.step N s inp = act N s inp (iOp (num s.mem s.pc.toNat 4)) (iRd (num s.mem s.pc.toNat 4)) (iRs1 (num s.mem s.pc.toNat 4)) (iRs2 (num s.mem s.pc.toNat 4)) (iImm (num s.mem s.pc.toNat 4)) := by
  unfold MM.step; rw [if_pos h1, if_neg h2]
set_option maxRecDepth 100000 in
set_option maxHeartbeats 4000000 in
theorem step_ok (L : Lives B br bk b bm N sd w s vi ve inp out n c) (hs : Fine s) (hN : N ≤ 2097152) (hc : c < 4096) (hl : out.length ≤ 100000) (r : Rs) (hr : MM.step N s inp = r) (hk : r.ok = true) :
    Calls Tryz.prog 65 #[.pointer (some ⟨br, 0, none⟩)] w fun e w' => e = .returned (.tuple #[]) ∧ ∃ vi' ve', Lives B br bk b bm N sd w' r.s vi' ve' r.inp (out ++ r.out) n (c + 1) ∧ Own B b bm w w' := by
  have hk' : (MM.step N s inp).ok = true := by rw [hr]; exact hk
  obtain ⟨h1, h2⟩ := ok_parts hk'
  rw [step_act h1 h2] at hr
  clear hk'
  have p0 := L.r0
  have p5 := L.at_.cpc
  have n0 := L.pl
  have n1 : br ≠ b := by omega
  have n3 : b ≠ br := by omega
  clear n0
  have c1 := bytes_at L hN s.pc 4 hs.pc (by omega) h1
  have c2 := fun cc => num_at L hs s.pc.toNat 4 cc (by omega) (fit_lt h1 hs.pc.1 (by omega))
  have hx := num4 s.mem hs.mem s.pc.toNat
  rw [show (4 : Int).toNat = 4 from rfl] at c1
  have hdb := dec_bd (num s.mem s.pc.toNat 4)
  generalize num s.mem s.pc.toNat 4 = x at *
  have cd := decoded_ok (Lives.drew L) hc x hx h2
  unfold insV at cd
  have b1 := iRd_bd x
  have b2 := iRs1_bd x
  have b3 := iRs2_bd x
  have hop : 1 ≤ iOp x ∧ iOp x ≤ 55 := by unfold iOp; omega
  obtain ⟨rd, e1⟩ : ∃ k : Nat, iRd x = k := ⟨(iRd x).toNat, by omega⟩
  obtain ⟨r1, e2⟩ : ∃ k : Nat, iRs1 x = k := ⟨(iRs1 x).toNat, by omega⟩
  obtain ⟨r2, e3⟩ : ∃ k : Nat, iRs2 x = k := ⟨(iRs2 x).toNat, by omega⟩
  rw [e1, e2, e3] at cd hr
  have k1 : rd < 32 := by omega
  have k2 : r1 < 32 := by omega
  have k3 : r2 < 32 := by omega
  clear e1 e2 e3 b1 b2 b3 h2 hdb h1
  generalize iOp x = op at *
  generalize iImm x = im at *
  have HA := Lib.hid (fun w (L : Lives B br bk b bm N sd w s vi ve inp out n (c + 1)) => act_ok L hs hN rd r1 r2 k1 k2 k3 op im hop hl r hr hk)
  have HS := Lib.hid hs
  clear hr hk hs L hN hop k1 k2 k3 hc hl
  go_enter Tryz.func65, Tryz.ntmps65
  go_wp2_with (first
    | (go_at_call 91; (with_reducible refine c1.mono ?_); rintro e w1 ⟨rfl, rfl⟩)
    | (go_at_call 90; (with_reducible refine (c2 _).mono ?_); rintro e w1 ⟨rfl, rfl⟩))
  go_region_held3 (fun w' => w'.cell? ⟨br, 0, none⟩ = some (.pointer (some ⟨b, 0, none⟩))) (first | go_keep)
    ((first
      | (go_at_call 93; (with_reducible refine cd.mono ?_); rintro e w1 ⟨rfl, L1, O1⟩; obtain ⟨S, pc, hS, ca⟩ := HA.out _ L1; have q0 := L1.r0; have HO := Lib.hid O1; have HSS := Lib.hid hS; clear L1 O1 hS)
      | (go_at_call 92; (with_reducible refine ca.mono ?_); rintro e w2 ⟨rfl, vi2, ve2, L2, O2⟩; have q1 := L2.r0; have q2 := L2.at_.cpc; have q3 := L2.at_.fb 65; have HL2 := Lib.hid L2; have HO2 := Lib.hid O2; clear L2 O2)))
  go_end0
  refine ⟨rfl, vi2, ve2, ?_, ((own_drew (Own.refl _ _ _ _)).trans HO.out).trans (HO2.out.trans (Own.set _ _ _))⟩
  rw [HSS.out]
  exact HL2.out.set 65 _ (set_pc _ _ _ _) rfl
theorem no_cases {N : Nat} {s : St} {inp : List Int} (hk : (MM.step N s inp).ok = false) :
    (fit N s.pc 4 = false ∧ MM.step N s inp = no s 3 inp) ∨ (fit N s.pc 4 = true ∧ CM.dec (num s.mem s.pc.toNat 4) = 0 ∧ MM.step N s inp = no s 2 inp) ∨ (fit N s.pc 4 = true ∧ CM.dec (num s.mem s.pc.toNat 4) ≠ 0) := by
  cases h1 : fit N s.pc 4 with
  | false => exact .inl ⟨rfl, by unfold MM.step; rw [h1, if_neg (by decide)]⟩
  | true =>
    by_cases h2 : CM.dec (num s.mem s.pc.toNat 4) = 0
    · exact .inr (.inl ⟨rfl, h2, by unfold MM.step; rw [if_pos h1, if_pos h2]⟩)
    · exact .inr (.inr ⟨rfl, h2⟩)
def StepBad (B br bk b bm N : Nat) (sd : List (Nat × Obj)) (w : World) (s : St) (vi ve : Value) (inp : List Int) (out : List Ev) (n c : Nat) (r : Rs) : Prop :=
  ∃ code, r.s = setst s code ∧ r.inp = inp ∧ Calls Tryz.prog 65 #[.pointer (some ⟨br, 0, none⟩)] w fun e w' => e = .panicked [{ v := .iface 138 (.int .i64 code), recovered := false }] ∧ ∃ c', c' ≤ c + 1 ∧ Lives B br bk b bm N sd w' s vi ve inp out n c' ∧ Own B b bm w w'
set_option maxRecDepth 100000 in
set_option maxHeartbeats 4000000 in
theorem step_bad3 (L : Lives B br bk b bm N sd w s vi ve inp out n c) (hs : Fine s) (hN : N ≤ 2097152) (h1 : fit N s.pc 4 = false) :
    Calls Tryz.prog 65 #[.pointer (some ⟨br, 0, none⟩)] w fun e w' => e = .panicked [{ v := .iface 138 (.int .i64 3), recovered := false }] ∧ w' = w := by
  have p0 := L.r0
  have p5 := L.at_.cpc
  have c1 := bytes_bad L hN s.pc 4 hs.pc (by omega) h1
  clear L hs hN h1
  go_enter Tryz.func65, Tryz.ntmps65
  go_wp2_with (go_at_call 91; (with_reducible refine c1.mono ?_); rintro e w1 ⟨rfl, rfl⟩)
  exact ⟨rfl, rfl, rfl⟩
set_option maxRecDepth 100000 in
set_option maxHeartbeats 4000000 in
theorem step_bad2 (L : Lives B br bk b bm N sd w s vi ve inp out n c) (hs : Fine s) (hN : N ≤ 2097152) (h1 : fit N s.pc 4 = true) (h2 : CM.dec (num s.mem s.pc.toNat 4) = 0) :
    Calls Tryz.prog 65 #[.pointer (some ⟨br, 0, none⟩)] w fun e w' => e = .panicked [{ v := .iface 138 (.int .i64 2), recovered := false }] ∧ Lives B br bk b bm N sd w' s vi ve inp out n c ∧ Own B b bm w w' := by
  have p0 := L.r0
  have p5 := L.at_.cpc
  have c1 := bytes_yes br b bm N hN s.pc 4 hs.pc (by omega) h1 w L.r0 L.at_.c0
  have c2 := fun cc => number_ bm s.pc.toNat 4 cc s.mem hs.mem (by omega) w (fun k hk => L.at_.cm (i := s.pc.toNat + k) (by have := fit_lt h1 hs.pc.1 (by omega); omega))
  have hx := num4 s.mem hs.mem s.pc.toNat
  rw [show (4 : Int).toNat = 4 from rfl] at c1
  generalize num s.mem s.pc.toNat 4 = x at *
  have cd := decoded_no (Lives.drew L) x hx h2
  clear L hs hN h1 h2
  go_enter Tryz.func65, Tryz.ntmps65
  go_wp2_with (first
    | (go_at_call 91; (with_reducible refine c1.mono ?_); rintro e w1 ⟨rfl, rfl⟩)
    | (go_at_call 90; (with_reducible refine (c2 _).mono ?_); rintro e w1 ⟨rfl, rfl⟩))
  refine wp_region_held_drew (S := fun w' => w' = w.drew) (by kernel_rfl) rfl (fun hHeld => ?_)
  refine wpAnyH_take (i := 0) (oi := _) (v := ?_) rfl (by kernel_rfl) (by kernel_rfl) (by kernel_rfl) (fun _ _ _ h => h) (Or.inl ⟨by rfl, ?_⟩) rfl ?_
  rotate_left
  · intro w2 hw; subst hw; go_simp; with_reducible rfl
  simp only [Act.put, List.setIfInBounds_toArray, List.set_cons_zero, List.set_cons_succ]
  refine wpAnyH_take (i := 1) (oi := _) (v := ?_) rfl (by kernel_rfl) (by kernel_rfl) (by kernel_rfl) (fun _ _ _ h => h) (Or.inl ⟨by rfl, ?_⟩) rfl ?_
  rotate_left
  · intro w2 hw; subst hw; go_simp; with_reducible rfl
  simp only [Act.put, List.setIfInBounds_toArray, List.set_cons_zero, List.set_cons_succ]
  refine wpAnyH_take (i := 2) (oi := _) (v := ?_) rfl (by kernel_rfl) (by kernel_rfl) (by kernel_rfl) (fun _ _ _ h => h) (Or.inl ⟨by rfl, ?_⟩) rfl ?_
  rotate_left
  · intro w2 hw; subst hw; go_simp; with_reducible rfl
  simp only [Act.put, List.setIfInBounds_toArray, List.set_cons_zero, List.set_cons_succ]
  refine wpAnyH_take (i := 3) (oi := _) (v := ?_) rfl (by kernel_rfl) (by kernel_rfl) (by kernel_rfl) (fun _ _ _ h => h) (Or.inl ⟨by rfl, ?_⟩) rfl ?_
  rotate_left
  · intro w2 hw; subst hw; go_simp; with_reducible rfl
  simp only [Act.put, List.setIfInBounds_toArray, List.set_cons_zero, List.set_cons_succ]
  refine wpAnyH_take (i := 4) (oi := _) (v := ?_) rfl (by kernel_rfl) (by kernel_rfl) (by kernel_rfl) (fun _ _ _ h => h) (Or.inl ⟨by rfl, ?_⟩) rfl ?_
  rotate_left
  · intro w2 hw; subst hw; go_simp; with_reducible rfl
  simp only [Act.put, List.setIfInBounds_toArray, List.set_cons_zero, List.set_cons_succ]
  refine wpAnyH_take (i := 5) (oi := _) (v := ?_) rfl (by kernel_rfl) (by kernel_rfl) (by kernel_rfl) (fun _ _ _ h => h) (Or.inl ⟨by rfl, ?_⟩) rfl ?_
  rotate_left
  · intro w2 hw; subst hw; go_simp; with_reducible rfl
  simp only [Act.put, List.setIfInBounds_toArray, List.set_cons_zero, List.set_cons_succ]
  refine wpAnyH_take (i := 6) (oi := _) (v := ?_) rfl (by kernel_rfl) (by kernel_rfl) (by kernel_rfl) (fun _ _ _ h => h) (Or.inl ⟨by rfl, ?_⟩) rfl ?_
  rotate_left
  · intro w2 hw; subst hw; go_simp; with_reducible rfl
  simp only [Act.put, List.setIfInBounds_toArray, List.set_cons_zero, List.set_cons_succ]
  refine wpAnyH_ready (rs := [7]) (by kernel_rfl) (by simp) ?_
  refine AllReadyH.cons (o := _) rfl (fun K hK => ?_) AllReadyH.nil
  go_simp
  refine cd.mono ?_
  rintro e w1 ⟨rfl, L1, O1⟩
  exact ⟨rfl, rfl, L1, (own_drew (Own.refl _ _ _ _)).trans O1⟩
set_option maxRecDepth 100000 in
set_option maxHeartbeats 4000000 in
theorem step_badA (L : Lives B br bk b bm N sd w s vi ve inp out n c) (hs : Fine s) (hN : N ≤ 2097152) (hc : c < 4096) (h1 : fit N s.pc 4 = true) (h2 : CM.dec (num s.mem s.pc.toNat 4) ≠ 0) (r : Rs) (hr : MM.step N s inp = r) (hk : r.ok = false) :
    ∃ code, r.s = setst s code ∧ r.inp = inp ∧ Calls Tryz.prog 65 #[.pointer (some ⟨br, 0, none⟩)] w fun e w' => e = .panicked [{ v := .iface 138 (.int .i64 code), recovered := false }] ∧ Lives B br bk b bm N sd w' s vi ve inp out n (c + 1) ∧ Own B b bm w w' := by
  obtain ⟨q1, -, code, q2, -⟩ := no_of N s inp (by rw [hr]; exact hk)
  rw [hr] at q1 q2
  refine ⟨code, q2, q1, ?_⟩
  rw [step_act h1 h2] at hr
  have p0 := L.r0
  have p5 := L.at_.cpc
  have c1 := bytes_yes br b bm N hN s.pc 4 hs.pc (by omega) h1 w L.r0 L.at_.c0
  have c2 := fun cc => number_ bm s.pc.toNat 4 cc s.mem hs.mem (by omega) w (fun k hk => L.at_.cm (i := s.pc.toNat + k) (by have := fit_lt h1 hs.pc.1 (by omega); omega))
  have hx := num4 s.mem hs.mem s.pc.toNat
  rw [show (4 : Int).toNat = 4 from rfl] at c1
  have hdb := dec_bd (num s.mem s.pc.toNat 4)
  generalize num s.mem s.pc.toNat 4 = x at *
  have cd := decoded_ok (Lives.drew L) hc x hx h2
  unfold insV at cd
  have b1 := iRd_bd x
  have b2 := iRs1_bd x
  have b3 := iRs2_bd x
  have hop : 1 ≤ iOp x ∧ iOp x ≤ 55 := by unfold iOp; omega
  obtain ⟨rd, e1⟩ : ∃ k : Nat, iRd x = k := ⟨(iRd x).toNat, by omega⟩
  obtain ⟨r1, e2⟩ : ∃ k : Nat, iRs1 x = k := ⟨(iRs1 x).toNat, by omega⟩
  obtain ⟨r2, e3⟩ : ∃ k : Nat, iRs2 x = k := ⟨(iRs2 x).toNat, by omega⟩
  rw [e1, e2, e3] at cd hr
  have k1 : rd < 32 := by omega
  have k2 : r1 < 32 := by omega
  have k3 : r2 < 32 := by omega
  clear e1 e2 e3 b1 b2 b3 h2 hdb h1
  generalize iOp x = op at *
  generalize iImm x = im at *
  have HA := Lib.hid (show ∀ w, Lives B br bk b bm N sd w s vi ve inp out n (c + 1) → Calls Tryz.prog 92 #[.pointer (some ⟨br, 0, none⟩), .agg #[.int .i64 op, .int .i64 rd, .int .i64 r1, .int .i64 r2, .int .i64 im]] w fun e w' => e = .panicked [{ v := .iface 138 (.int .i64 code), recovered := false }] ∧ Lives B br bk b bm N sd w' s vi ve inp out n (c + 1) ∧ Own B b bm w w' from fun w L => by
    obtain ⟨code', e1, e2, hC⟩ := act_bad L hs hN rd r1 r2 k1 k2 k3 op im hop r hr hk
    rw [q2] at e1
    have : code = code' := congrArg St.state e1
    subst this
    exact hC)
  clear q1 q2 hr hk hs L hN hop k1 k2 k3 hc
  go_enter Tryz.func65, Tryz.ntmps65
  go_wp2_with (first
    | (go_at_call 91; (with_reducible refine c1.mono ?_); rintro e w1 ⟨rfl, rfl⟩)
    | (go_at_call 90; (with_reducible refine (c2 _).mono ?_); rintro e w1 ⟨rfl, rfl⟩))
  refine wp_region_held_drew (S := fun w' => w'.cell? ⟨br, 0, none⟩ = some (.pointer (some ⟨b, 0, none⟩))) (by kernel_rfl) p0 (fun hHeld => ?_)
  refine wpAnyH_take (i := 0) (oi := _) (v := ?_) rfl (by kernel_rfl) (by kernel_rfl) (by kernel_rfl) (fun _ _ _ h => h) (Or.inl ⟨by rfl, ?_⟩) hHeld ?_
  rotate_left
  · intro w2 hw; go_simp; with_reducible rfl
  simp only [Act.put, List.setIfInBounds_toArray, List.set_cons_zero, List.set_cons_succ]
  refine wpAnyH_take (i := 1) (oi := _) (v := ?_) rfl (by kernel_rfl) (by kernel_rfl) (by kernel_rfl) (fun _ _ _ h => h) (Or.inl ⟨by rfl, ?_⟩) hHeld ?_
  rotate_left
  · intro w2 hw; go_simp; with_reducible rfl
  simp only [Act.put, List.setIfInBounds_toArray, List.set_cons_zero, List.set_cons_succ]
  refine wpAnyH_take (i := 2) (oi := _) (v := ?_) rfl (by kernel_rfl) (by kernel_rfl) (by kernel_rfl) (fun _ _ _ h => h) (Or.inl ⟨by rfl, ?_⟩) hHeld ?_
  rotate_left
  · intro w2 hw; go_simp; with_reducible rfl
  simp only [Act.put, List.setIfInBounds_toArray, List.set_cons_zero, List.set_cons_succ]
  refine wpAnyH_take (i := 3) (oi := _) (v := ?_) rfl (by kernel_rfl) (by kernel_rfl) (by kernel_rfl) (fun _ _ _ h => h) (Or.inl ⟨by rfl, ?_⟩) hHeld ?_
  rotate_left
  · intro w2 hw; go_simp; with_reducible rfl
  simp only [Act.put, List.setIfInBounds_toArray, List.set_cons_zero, List.set_cons_succ]
  refine wpAnyH_take (i := 4) (oi := _) (v := ?_) rfl (by kernel_rfl) (by kernel_rfl) (by kernel_rfl) (fun _ _ _ h => h) (Or.inl ⟨by rfl, ?_⟩) hHeld ?_
  rotate_left
  · intro w2 hw; go_simp; with_reducible rfl
  simp only [Act.put, List.setIfInBounds_toArray, List.set_cons_zero, List.set_cons_succ]
  refine wpAnyH_take (i := 5) (oi := _) (v := ?_) rfl (by kernel_rfl) (by kernel_rfl) (by kernel_rfl) (fun _ _ _ h => h) (Or.inl ⟨by rfl, ?_⟩) hHeld ?_
  rotate_left
  · intro w2 hw; go_simp; with_reducible rfl
  simp only [Act.put, List.setIfInBounds_toArray, List.set_cons_zero, List.set_cons_succ]
  refine wpAnyH_take (i := 6) (oi := _) (v := ?_) rfl (by kernel_rfl) (by kernel_rfl) (by kernel_rfl) (fun _ _ _ h => h) (Or.inl ⟨by rfl, ?_⟩) hHeld ?_
  rotate_left
  · intro w2 hw; go_simp; with_reducible rfl
  simp only [Act.put, List.setIfInBounds_toArray, List.set_cons_zero, List.set_cons_succ]
  refine wpAnyH_ready (rs := [7]) (by kernel_rfl) (by simp) ?_
  refine AllReadyH.cons (o := _) rfl (fun K hK => ?_) AllReadyH.nil
  go_simp
  refine cd.mono ?_
  rintro e w1 ⟨rfl, L1, O1⟩
  refine hK.out _ _ L1.r0 (fun hHeld2 => ?_)
  clear hK K
  refine wpAnyH_ready (rs := [8]) (by kernel_rfl) (by simp) ?_
  refine AllReadyH.cons (o := _) rfl (fun K hK => ?_) AllReadyH.nil
  go_simp
  refine (HA.out _ L1).mono ?_
  rintro e w2 ⟨rfl, L2, O2⟩
  exact ⟨rfl, rfl, L2, ((own_drew (Own.refl _ _ _ _)).trans O1).trans O2⟩
theorem step_bad (L : Lives B br bk b bm N sd w s vi ve inp out n c) (hs : Fine s) (hN : N ≤ 2097152) (hc : c < 4096) (r : Rs) (hr : MM.step N s inp = r) (hk : r.ok = false) : StepBad B br bk b bm N sd w s vi ve inp out n c r := by
  rcases no_cases (N := N) (s := s) (inp := inp) (by rw [hr]; exact hk) with ⟨h1, h2⟩ | ⟨h1, h2, h3⟩ | ⟨h1, h2⟩
  · rw [hr] at h2
    subst h2
    exact ⟨3, rfl, rfl, (step_bad3 L hs hN h1).mono fun e w' ⟨he, hw⟩ => by subst hw; exact ⟨he, c, by omega, L, Own.refl _ _ _ _⟩⟩
  · rw [hr] at h3
    subst h3
    exact ⟨2, rfl, rfl, (step_bad2 L hs hN h1 h2).mono fun e w' ⟨he, L1, O1⟩ => ⟨he, c, by omega, L1, O1⟩⟩
  · obtain ⟨code, e1, e2, hC⟩ := step_badA L hs hN hc h1 h2 r hr hk
    exact ⟨code, e1, e2, hC.mono fun e w' ⟨he, L1, O1⟩ => ⟨he, c + 1, by omega, L1, O1⟩⟩
end
def Fin (W : World) (e : Exit) (a : Act) (w' : World) : Prop := e = .normal ∧ a.defers = [] ∧ w' = W
set_option maxRecDepth 100000 in
set_option maxHeartbeats 1000000 in
theorem catch_panicking (bx br b : Nat) (code : Int) (older : List PanicEntry) (w : World) (h0 : w.cell? ⟨bx, 0, none⟩ = some (.pointer (some ⟨br, 0, none⟩))) (h1 : w.cell? ⟨br, 0, none⟩ = some (.pointer (some ⟨b, 0, none⟩))) (v : Value) (h2 : w.cell? ⟨b, 66, none⟩ = some v) (h3 : w.frozen? ⟨b, 66, none⟩ = false) :
    CallsD Tryz.prog 64 #[.pointer (some ⟨bx, 0, none⟩)] (.panicking ({ v := .iface 138 (.int .i64 code), recovered := false } :: older)) w fun e u' w' =>
      e = .returned (.tuple #[]) ∧ u' = .panicking ({ v := .iface 138 (.int .i64 code), recovered := true } :: older) ∧ w' = w.setCell ⟨b, 66, none⟩ (.int .i64 code) := by
  refine callsD_of_wpS Tryz.func64 rfl fun c₀ cs hu => ?_
  apply wpS_seq
  apply wpS_region
  simp [wpOpsS, go_sem, recoverD, hu, Tryz.ntmps64, Exit.thenS]
  refine wpS_of_wp (wp_mono (Q := Fin (w.setCell ⟨b, 66, none⟩ (.int .i64 code))) ?_ ?_)
  · show Code.wp _ _ _ { tmps := #[.pointer (some ⟨bx, 0, none⟩), undef, undef, undef, .iface 138 (.int .i64 code), undef, undef, undef, undef, undef, undef, undef, undef, undef, undef, undef, undef], defers := [] } _
    clear hu
    have hta : ∀ w, (Instr.typeAssert (.iface 138 (.int .i64 code)) 20 138 true).run Tryz.prog w = .ok (.tuple #[.int .i64 code, .bool true]) w := fun _ => by kernel_rfl
    go_wp2
    exact ⟨rfl, rfl, rfl⟩
  · rintro e a w' ⟨rfl, hd, rfl⟩
    simp [bodyPostS, results, Tryz.results64, hd]
set_option maxRecDepth 100000 in
set_option maxHeartbeats 1000000 in
theorem catch_idle (bx : Nat) (w : World) :
    CallsD Tryz.prog 64 #[.pointer (some ⟨bx, 0, none⟩)] .returning w fun e u' w' => e = .returned (.tuple #[]) ∧ u' = .returning ∧ w' = w := by
  refine callsD_of_wpS Tryz.func64 rfl fun c₀ cs hu => ?_
  apply wpS_seq
  apply wpS_region
  simp [wpOpsS, go_sem, recoverD, hu, Tryz.ntmps64, Exit.thenS]
  refine wpS_of_wp (wp_mono (Q := Fin w) ?_ ?_)
  · show Code.wp _ _ _ { tmps := #[.pointer (some ⟨bx, 0, none⟩), undef, undef, undef, .nilIface, undef, undef, undef, undef, undef, undef, undef, undef, undef, undef, undef, undef], defers := [] } _
    clear hu
    go_wp2
    exact ⟨rfl, rfl, rfl⟩
  · rintro e a w' ⟨rfl, hd, rfl⟩
    cases c₀
    simp_all [bodyPostS, results, Tryz.results64]
end MT
end Go.Proofs.YtlmblfkcmhgdaaaGreat
