/-
  MachCl MachCm MachCn MachCo MachCp MachCr, joined.
  Conditions: those that are written at each.
-/
import Derived.Test.YtanlccnhkiibeaaMachZ
import Derived.Deep.AppendLies
import Derived.Laws.OwnMore
import Derived.Laws.IdiomCopy
import Derived.Test.YtanlccnhkiibeaaMachO
import Derived.Laws.StructEq
import Derived.BigGuardPart
import Derived.BigQuiet
import Derived.Laws.BytesString
import Derived.Maps.AppendAt
/-
  Bytes of the machine's memory, copied: a contract. No condition but those that are written at each.
-/
namespace Go.Proofs.Ytanlccnhkiibeaa
open Go.RowKit
set_option linter.unusedVariables false
set_option linter.unusedSimpArgs false
namespace MCl
open MM MC MB MP MQ
/-- the memory's bytes from a on -/
def part (g : Nat → Int) (a n : Nat) : List Int := (List.range n).map fun k => g (a + k)
theorem part_get (g : Nat → Int) (a n j : Nat) (u : Value) (h : (u8s (part g a n))[j]? = some u) : j < n ∧ u = .int .u8 (g (a + j)) := by
  unfold u8s part at h
  rw [List.map_map, List.getElem?_map] at h
  by_cases hj : j < n
  · rw [List.getElem?_range hj] at h; exact ⟨hj, (Option.some.inj h).symm⟩
  · rw [List.getElem?_eq_none (by simpa using hj)] at h; cases h
set_option maxRecDepth 100000 in
set_option maxHeartbeats 2000000 in
theorem clone_ (w : World) (bm a n c N : Nat) (g : Nat → Int) (hn : 0 < n) (hN : n ≤ 2097152) (hbm : bm < w.heap.size) (hc : ∀ k, k < n → w.cell? ⟨bm, a + k, none⟩ = some (.int .u8 (g (a + k)))) :
    Calls Try.prog 25 #[.slice (some ⟨bm, a, none⟩) n c] w fun e w' => ∃ gb cap, e = .returned (.slice (some ⟨gb, 0, none⟩) n cap) ∧ w'.ownsRow w.heap.size 5 1 (.slice (some ⟨gb, 0, none⟩) n cap) n (u8s (part g a n)) ∧ Below w.heap.size w w' := by
  obtain ⟨i0, hi, hz0, hz1, hz2⟩ := info_parts u8_info
  have hw0 := World.ownsRow_lit (base := w.heap.size) (e := 5) (size := 1) w #[] 0 (Nat.le_refl _) (Nat.zero_le _) rfl
  have hl : (u8s (part g a n)).length = n * 1 := by simp [u8s, part]
  have hnews : ∀ j u, (u8s (part g a n))[j]? = some u → (w.alloc (.cells #[] 5)).cell? ((⟨bm, a, none⟩ : Addr).add j) = some u := fun j u h => by
    obtain ⟨hj, rfl⟩ := part_get g a n j u h
    rw [Addr.add_mid]
    exact (World.cell?_alloc_lt (w := w) (a := ⟨bm, a + j, none⟩) (o := .cells #[] 5) hbm).trans (hc j hj)
  have h1 : ∀ u ∈ u8s (part g a n), u.oneCell' = true := fun u hu => by
    obtain ⟨x, _, rfl⟩ := List.mem_map.1 hu
    rfl
  have HL := Lib.hid hl
  have HW := Lib.hid hnews
  have H1 := Lib.hid h1
  have HO := Lib.hid hw0
  clear hl hnews h1 hc hw0
  have hq : ∀ w, (binOp .eql 22 (.slice (some ⟨bm, a, none⟩) n c) (.slice none 0 0)).run Try.prog w = .ok (.bool false) w := fun w => by first | rfl | kernel_rfl
  go_enter Try.func25, Try.ntmps25
  go_wp2_with (at_builtin; refine wpList_append_lies _ rfl _ _ 22 rfl w.heap.size 5 i0 (.int .u8 0) 1 1 Try.underlying22 hi hz0 hz1 hz2 rfl (by decide) _ _ _ rfl HO.out ⟨bm, a, none⟩ n c _ rfl HL.out HW.out H1.out hn (by unfold maxLen; omega) (by omega) (by simp only [World.size_alloc]; omega) (w.heap.size + 1) (by simp only [World.size_alloc]) ?_; intro gg cap w3 hown3 hgrow3 hat3 hlt3; have HO3 := Lib.hid hown3; have HG := Lib.hid hgrow3; clear hown3 hgrow3 hat3)
  go_ret
  have ho := HO3.out
  simp only [Nat.zero_add, List.nil_append] at ho
  exact ⟨gg, cap, rfl, ho, ((Below.refl _ _).alloc (Nat.le_refl _) _).grown HG.out (by simp only [World.size_alloc]; omega) (fun g hg => (HO.out.lt g hg).1)⟩
set_option maxRecDepth 100000 in
set_option maxHeartbeats 2000000 in
/-- Bytes, inside -/
theorem bytes_in {w : World} {b bm N : Nat} {s : St} (A : At w b bm N s) (hN : N ≤ 2097152) (a n : Nat) (hn : 0 < n) (h : a + n ≤ N) :
    Calls Try.prog 11 #[.pointer (some ⟨b, 0, none⟩), .int .i64 a, .int .i64 n] w fun e w' => ∃ gb cap, e = .returned (.tuple #[.slice (some ⟨gb, 0, none⟩) n cap, .int .i64 0]) ∧ w'.ownsRow w.heap.size 5 1 (.slice (some ⟨gb, 0, none⟩) n cap) n (u8s (part s.mem a n)) ∧ Below w.heap.size w w' := by
  have x0 := A.c0
  have hbm := lt_of_get A.mem
  have cc := fun c => clone_ w bm a n c N s.mem hn (by omega) hbm (fun k hk => A.cm (by omega))
  clear A
  go_enter Try.func11, Try.ntmps11
  go_wp2_with (go_at_call 25; (with_reducible refine (cc _).mono ?_); rintro e w1 ⟨gb, cap, rfl, ho, hb⟩; have HO := Lib.hid ho; have HB := Lib.hid hb; clear ho hb)
  go_ret2
  exact ⟨gb, cap, rfl, HO.out, HB.out⟩
end MCl
end Go.Proofs.Ytanlccnhkiibeaa
/-
  Load of an image of no bytes: a contract. No condition but those that are written at each.
-/
namespace Go.Proofs.Ytanlccnhkiibeaa
open Go.RowKit
set_option linter.unusedVariables false
set_option linter.unusedSimpArgs false
namespace MW
open MM MC
set_option maxRecDepth 100000 in
set_option maxHeartbeats 2000000 in
/-- an image of no bytes -/
theorem load_none (e : Int) (he : 0 ≤ e ∧ e ≤ 4294967295) (p : Option Addr) (cc : Nat) (stack : Int) (hs : 0 ≤ stack) (hs2 : stack + up 0 ≤ 2097152) (N : Nat) (hN : up (up 0 + stack) = N) (f : Nat → Int) (w : World) :
    Calls Try.prog 9 #[.agg #[.int .i64 e, .slice p 0 cc], .int .i64 stack] w fun e1 w' => ∃ b bm, e1 = .returned (.tuple #[.pointer (some ⟨b, 0, none⟩), .int .i64 0]) ∧ At w' b bm N (loaded f 0 (up 0) N e) ∧ w.heap.size ≤ b ∧ w.heap.size ≤ bm ∧ Below w.heap.size w w' := by
  have cl1 : ∀ w, Calls Try.prog 22 #[.int .i64 0] w fun e w' => e = .returned (.int .i64 (up 0)) ∧ w = w' := fun w => inLine_ 0 (by omega) (by omega) w
  have hu : (0 : Int) ≤ up 0 ∧ up 0 ≤ 0 + 15 := by unfold up; omega
  have hN2 : up 0 + stack ≤ N ∧ (N : Int) ≤ 2097152 := by rw [← hN]; unfold up at hs2 ⊢; omega
  generalize up 0 = u at *
  have cl2 := fun w => inLine_ (u + stack) (by omega) (by omega) w
  rw [hN] at cl2
  have f1 : ¬ 2097152 - u < stack := by omega
  have f2 : ¬ stack < 0 := by omega
  have f3 : ¬ e < 0 := by omega
  have f4 : ¬ 4294967295 < e := by omega
  have i1 : IntKind.i64.wrap (u + stack) = u + stack := by rw [IntKind.wrap_i64]; omega
  have i2 : (0 : Int) ≤ u := by omega
  have i3 : IntKind.u32.wrap e = e := by rw [IntKind.wrap_u32']; omega
  have hmk := fun w => make_ N (by omega) w
  have HZ := Lib.hid (zero_cells (w.heap.size + 1) N e)
  clear hN
  go_enter Try.func9, Try.ntmps9
  go_wp2_with (go_at_call 22; (with_reducible refine (cl1 _).mono ?_); rintro e1 w1 ⟨rfl, rfl⟩)
  go_region_held3 (fun w' => w'.cell? ⟨w.heap.size, 0, none⟩ = some (.int .i64 e)) (first | go_keep)
    ((go_at_call 22; (with_reducible refine (cl2 _).mono ?_); rintro e2 w2 ⟨rfl, rfl⟩))
  clear i1 i3 hmk cl1 cl2
  rw [HZ.out]
  generalize hW : ((((w.alloc (.cells #[.int .i64 e, .slice p 0 cc] 31)).alloc (.cells (row N fun _ => .int .u8 0) 5)).alloc (.cells (cells (w.heap.size + 1) N (zero e)) 69)).drew) = W
  have w1 : W.heap[w.heap.size + 1 + 1]? = some (.cells (cells (w.heap.size + 1) N (zero e)) 69 (0, 0)) := by
    subst hW; exact new_at _ _ _ (by simp)
  have w2 : W.heap[w.heap.size + 1]? = some (.cells (row N fun _ => .int .u8 0) 5 (0, 0)) := by
    subst hW
    exact (Below.heap_alloc _ _ _ (by simp)).trans (new_at _ _ _ (by simp))
  have w3 : W.cell? ⟨w.heap.size, 1, none⟩ = some (.slice p 0 cc) := by subst hW; go_simp
  have wb : Below w.heap.size w W := by
    subst hW
    exact ((((Below.refl _ _).alloc (Nat.le_refl _) _).alloc (by simp) _).alloc (by simp; omega) _).drew
  have wn : w.heap.size + 1 + 1 < W.heap.size := lt_of_get w1
  have w4 : W.cell? ⟨w.heap.size + 1 + 1, 0, none⟩ = some (.slice (some ⟨w.heap.size + 1, 0, none⟩) N N) := (cell_of_row W _ 0 _ _ _ w1).trans (cell_0 _ _ _)
  have W1 := Lib.hid w1
  have W2 := Lib.hid w2
  clear w1 w2 hW HZ
  go_wp2
  refine tail_ 6 (by kernel_rfl) (by kernel_rfl) ?_
  simp only [List.take_succ_cons, List.take_zero, List.drop_succ_cons, List.drop_zero]
  repeat still_step
  refine wpStill_nil ?_
  have hcp := fun (W : World) (ty : TypeId) => run_copy_none (P := Try.prog) W 22 22 ty 5 (some ⟨w.heap.size + 1, 0, none⟩) p N N 0 cc Try.underlying22 (by kernel_rfl) (Nat.zero_min N)
  go_wp2
  generalize hV : W.drew = V
  have A2 : At V (w.heap.size + 1 + 1) (w.heap.size + 1) N { zero e with mem := bytesOf f 0 } := by
    subst hV
    refine ⟨W1.out, ?_, by omega⟩
    have e : (row N fun _ => Value.int .u8 0) = MC.bytes N { zero e with mem := bytesOf f 0 } := by
      unfold MC.bytes
      congr 1
    rw [← e]
    exact W2.out
  have wb2 : Below w.heap.size w V := by subst hV; exact wb.drew
  have v1 := A2.c0
  have v2 : V.cell? ⟨w.heap.size + 1 + 1, 3, none⟩ = _ := A2.cx (i := 2) (by omega)
  have v3 : V.cell? ⟨w.heap.size + 1 + 1, 28, none⟩ = _ := A2.cx (i := 27) (by omega)
  have v4 := A2.fb 3
  have v5 := A2.fb 28
  have i5 : IntKind.u32.wrap (N : Int) = N := by rw [IntKind.wrap_u32']; omega
  have HA := Lib.hid A2
  have HB := Lib.hid wb2
  clear hV A2 W1 W2 wb w3 w4 wb2 hcp
  refine tail_ 10 (by kernel_rfl) (by kernel_rfl) ?_
  simp only [List.take_succ_cons, List.take_zero, List.drop_succ_cons, List.drop_zero]
  repeat still_step
  refine wpStill_nil ?_
  go_wp2
  go_ret2
  have A3 := (HA.out.set (s' := { zero e with mem := bytesOf f 0, x := upd (fun _ => 0) 2 (N : Int) }) 3 (.int .u32 N) (set_x _ N _ (i := 2) (by omega) _) rfl).set (s' := loaded f 0 u N e) 28 (.int .u32 u) (set_x _ N _ (i := 27) (by omega) _) rfl
  exact ⟨_, rfl, _, A3.kept rfl rfl, by omega, by omega, ((HB.out.setCell (by show w.heap.size ≤ w.heap.size + 1 + 1; omega) _).setCell (by show w.heap.size ≤ w.heap.size + 1 + 1; omega) _).drew⟩
end MW
end Go.Proofs.Ytanlccnhkiibeaa
/-
  Load of bytes that came in as an argument; what a step takes of the input. No condition but those that are written at each.
-/
namespace Go.Proofs.Ytanlccnhkiibeaa
open Go.RowKit
set_option linter.unusedVariables false
set_option linter.unusedSimpArgs false
namespace MCn
open MM MC
theorem load_arg {W w : World} {v : Value} {xs : List Int} (h : MO.Arg .u8 W v xs) (hb : Below W.heap.size W w) (hl : xs.length ≤ 4000) (e : Int) (he : 0 ≤ e ∧ e ≤ 4294967295) (stack : Int) (hs : 0 ≤ stack) (hs2 : stack + MW.up xs.length ≤ 2097152) (N : Nat) (hN : MW.up (MW.up xs.length + stack) = N) :
    Calls Try.prog 9 #[.agg #[.int .i64 e, v], .int .i64 stack] w fun e1 w' => ∃ b bm, e1 = .returned (.tuple #[.pointer (some ⟨b, 0, none⟩), .int .i64 0]) ∧ At w' b bm N (MW.loaded (fun k => xs.getD k 0) xs.length (MW.up xs.length) N e) ∧ w.heap.size ≤ b ∧ w.heap.size ≤ bm ∧ Below w.heap.size w w' := by
  obtain ⟨p, c, rfl, h⟩ := h
  by_cases e0 : xs = []
  · subst e0
    exact MW.load_none e he p c stack hs hs2 N hN _ w
  · obtain ⟨g, o, rfl, q1, q2, q3, q4⟩ := h e0
    refine MW.load_ok e he g o xs.length c stack hl hs hs2 N hN _ w (Nat.lt_of_lt_of_le q3 hb.size) (fun k hk => ?_)
    rw [List.getD_eq_getElem?_getD, List.getElem?_eq_getElem hk]
    exact (hb.cell (p := ⟨g, o + k, none⟩) q3).trans (q4 k _ (List.getElem?_eq_getElem hk))
/-! ### what a step takes -/
theorem act_inp (N : Nat) (s : St) (inp : List Int) (op rd rs1 rs2 imm : Int) (h : op ≠ 42) : (act N s inp op rd rs1 rs2 imm).inp = inp := by
  unfold act
  repeat' split
  all_goals first | rfl | (exfalso; exact h (by assumption))
theorem ecall_inp (s : St) (nx : Int) (inp : List Int) : (ecall s nx inp).inp = if s.x 17 = 2 then inp.tail else inp := by
  unfold ecall
  by_cases h : s.x 17 = 2
  · rw [if_neg (by omega), if_pos h, if_pos h]; rfl
  · rw [if_neg h]
    repeat' split
    all_goals first | rfl | (exfalso; exact h (by assumption))
theorem dec_115 : CM.dec 115 = 42 := by decide +kernel
theorem dec_42 (x : Int) (h : CM.dec x = 42) : x = 115 := by
  have hh : CM.hit 42 x = true := by
    unfold CM.dec at h
    cases e : (List.range 55).find? fun n => CM.hit ((n + 1 : Nat) : Int) x with
    | none => rw [e] at h; simp at h
    | some n =>
      rw [e] at h
      have hn : n = 41 := by simp only at h; omega
      subst hn
      have h3 := List.find?_some e
      exact h3
  have h2 := (CM.hit_op hh).2
  rw [← h2]
  rfl
theorem step_inp (N : Nat) (s : St) (inp : List Int) : (MM.step N s inp).inp = if fit N s.pc 4 = true ∧ num s.mem s.pc.toNat 4 = 115 ∧ s.x 17 = 2 then inp.tail else inp := by
  unfold MM.step
  by_cases hf : fit N s.pc 4 = true
  · rw [if_pos hf]
    generalize num s.mem s.pc.toNat 4 = x
    by_cases h0 : CM.dec x = 0
    · rw [if_pos h0, if_neg (by rintro ⟨-, rfl, -⟩; rw [dec_115] at h0; omega)]
      rfl
    · rw [if_neg h0]
      by_cases h42 : iOp x = 42
      · have hx := dec_42 x h42
        have e : act N s inp (iOp x) (iRd x) (iRs1 x) (iRs2 x) (iImm x) = ecall s ((s.pc + 4) % 4294967296) inp := by
          subst hx
          rw [show iOp 115 = 42 from dec_115]
          unfold act isLoad isStore
          simp
        rw [e, ecall_inp]
        by_cases h17 : s.x 17 = 2
        · rw [if_pos h17, if_pos ⟨hf, hx, h17⟩]
        · rw [if_neg h17, if_neg (fun h => h17 h.2.2)]
      · rw [act_inp _ _ _ _ _ _ _ _ h42, if_neg]
        rintro ⟨-, rfl, -⟩
        exact h42 dec_115
  · rw [if_neg hf, if_neg (fun h => hf h.1)]
    rfl
end MCn
end Go.Proofs.Ytanlccnhkiibeaa
/-
  A run, cut into steps: plain. No condition but those that are written at each.
-/
namespace Go.Proofs.Ytanlccnhkiibeaa
open Go.RowKit
set_option linter.unusedVariables false
set_option linter.unusedSimpArgs false
namespace MCo
open MM MC
theorem ecall_bad (s : St) (nx : Int) (inp : List Int) (h : (ecall s nx inp).ok = false) : (ecall s nx inp).inp = inp := by
  by_cases h2 : s.x 17 = 2
  · exfalso
    unfold ecall at h
    rw [if_neg (by omega), if_pos h2] at h
    have h' : true = false := h
    cases h'
  · rw [MCn.ecall_inp, if_neg h2]
theorem act_bad (N : Nat) (s : St) (inp : List Int) (op rd rs1 rs2 imm : Int) (h : (act N s inp op rd rs1 rs2 imm).ok = false) : (act N s inp op rd rs1 rs2 imm).inp = inp := by
  by_cases e : op = 42
  · subst e
    have e : act N s inp 42 rd rs1 rs2 imm = ecall s ((s.pc + 4) % 4294967296) inp := by
      unfold act isLoad isStore
      simp
    rw [e] at h ⊢
    exact ecall_bad _ _ _ h
  · exact MCn.act_inp _ _ _ _ _ _ _ _ e
theorem step_bad (N : Nat) (s : St) (inp : List Int) (h : (MM.step N s inp).ok = false) : (MM.step N s inp).inp = inp := by
  unfold MM.step at h ⊢
  by_cases hf : fit N s.pc 4 = true
  · rw [if_pos hf] at h ⊢
    by_cases h0 : CM.dec (num s.mem s.pc.toNat 4) = 0
    · rw [if_pos h0]; rfl
    · rw [if_neg h0] at h ⊢
      exact act_bad _ _ _ _ _ _ _ _ h
  · rw [if_neg hf]; rfl
theorem run_le (N : Nat) : ∀ (k : Nat) (s : St) (inp : List Int), (MM.run N k s inp).n ≤ k
  | 0, s, inp => Nat.le_refl 0
  | k + 1, s, inp => by
    by_cases h : s.state = 0
    · cases hk : (MM.step N s inp).ok with
      | true =>
        rw [run_yes N k s inp h _ rfl hk]
        exact Nat.succ_le_succ (run_le N k _ _)
      | false =>
        rw [run_no N k s inp h _ rfl hk]
        exact Nat.zero_le _
    · rw [run_stop N (k + 1) s inp h]
      exact Nat.zero_le _
/-- what is left of the input, after the steps that were done alone -/
theorem run_inp (N : Nat) : ∀ (k : Nat) (s : St) (inp : List Int), (MM.run N (MM.run N k s inp).n s inp).inp = (MM.run N k s inp).inp
  | 0, s, inp => rfl
  | k + 1, s, inp => by
    by_cases h : s.state = 0
    · cases hk : (MM.step N s inp).ok with
      | true =>
        rw [run_yes N k s inp h _ rfl hk]
        show (MM.run N ((MM.run N k (MM.step N s inp).s (MM.step N s inp).inp).n + 1) s inp).inp = (MM.run N k (MM.step N s inp).s (MM.step N s inp).inp).inp
        rw [run_yes N _ s inp h _ rfl hk]
        exact run_inp N k _ _
      | false =>
        rw [run_no N k s inp h _ rfl hk]
        exact (step_bad N s inp hk).symm
    · rw [run_stop N (k + 1) s inp h]
      rfl
/-- a step that was done -/
theorem run_next (N F k : Nat) (s : St) (inp : List Int) (h : k < (MM.run N F s inp).n) :
    (MM.run N k s inp).s.state = 0 ∧ (MM.step N (MM.run N k s inp).s (MM.run N k s inp).inp).ok = true ∧
      MM.run N 1 (MM.run N k s inp).s (MM.run N k s inp).inp = ⟨(MM.run N (k + 1) s inp).s, (MM.run N (k + 1) s inp).inp, (MM.step N (MM.run N k s inp).s (MM.run N k s inp).inp).out, 1⟩ ∧
      (MM.run N (k + 1) s inp).inp = (MM.step N (MM.run N k s inp).s (MM.run N k s inp).inp).inp := by
  have hle := run_le N F s inp
  have h1 := run_add N k (F - k) s inp
  rw [show k + (F - k) = F by omega] at h1
  have h2 := run_le N k s inp
  have h3 : (MM.run N F s inp).n = (MM.run N k s inp).n + (MM.run N (F - k) (MM.run N k s inp).s (MM.run N k s inp).inp).n := by rw [h1]
  have h4 := run_add N k 1 s inp
  rw [h4]
  generalize MM.run N k s inp = T at *
  obtain ⟨m, hm⟩ : ∃ m, F - k = m + 1 := ⟨F - k - 1, by omega⟩
  rw [hm] at h3
  by_cases hs : T.s.state = 0
  · cases hk : (MM.step N T.s T.inp).ok with
    | true =>
      have e := run_yes N 0 T.s T.inp hs _ rfl hk
      have e1 : MM.run N 1 T.s T.inp = ⟨(MM.step N T.s T.inp).s, (MM.step N T.s T.inp).inp, (MM.step N T.s T.inp).out, 1⟩ := by
        rw [show (1 : Nat) = 0 + 1 from rfl, e]
        simp [run_zero]
      rw [e1]
      exact ⟨hs, rfl, rfl, rfl⟩
    | false =>
      rw [run_no N m T.s T.inp hs _ rfl hk] at h3
      have : (MM.run N F s inp).n = T.n + 0 := h3
      omega
  · rw [run_stop N (m + 1) T.s T.inp hs] at h3
    have : (MM.run N F s inp).n = T.n + 0 := h3
    omega
end MCo
end Go.Proofs.Ytanlccnhkiibeaa
/-
  Events in memory; the statements' own comparison of two lists of events: a contract. No condition but those that are written at each.
-/
namespace Go.Proofs.Ytanlccnhkiibeaa
open Go.RowKit
set_option linter.unusedVariables false
set_option linter.unusedSimpArgs false
namespace MCp
open MM MC MB
theorem evs_get : ∀ (L : List MM.Ev) (k : Nat) (x : MM.Ev), L[k]? = some x → (MD.evs L)[k * 3]? = some (.int .i64 x.1) ∧ (MD.evs L)[k * 3 + 1]? = some (.int .u32 x.2.1) ∧ (MD.evs L)[k * 3 + 2]? = some (.int .u64 (x.2.2 : Nat))
  | [], k, x, h => by simp at h
  | y :: L, 0, x, h => by
    simp only [List.getElem?_cons_zero, Option.some.injEq] at h
    subst h; exact ⟨rfl, rfl, rfl⟩
  | y :: L, k + 1, x, h => by
    have ih := evs_get L k x (by simpa using h)
    have e : MD.evs (y :: L) = Value.int .i64 y.1 :: .int .u32 y.2.1 :: .int .u64 (y.2.2 : Nat) :: MD.evs L := rfl
    rw [e, show (k + 1) * 3 = k * 3 + 1 + 1 + 1 by omega]
    simpa only [List.getElem?_cons_succ] using ih
/-- events in memory -/
theorem evs_of {w : World} {B : Nat} {p : Option Addr} {l c : Nat} {L : List MM.Ev} (h : w.ownsRow B 60 3 (.slice p l c) L.length (MD.evs L)) :
    l = L.length ∧ ∀ (k : Nat) (x : MM.Ev), L[k]? = some x → ∃ g, p = some ⟨g, 0, none⟩ ∧ g < w.heap.size ∧ w.cell? ⟨g, k * 3, none⟩ = some (.int .i64 x.1) ∧ w.cell? ⟨g, k * 3 + 1, none⟩ = some (.int .u32 x.2.1) ∧ w.cell? ⟨g, k * 3 + 2, none⟩ = some (.int .u64 (x.2.2 : Nat)) := by
  rcases h.2 with ⟨h0, h1⟩ | ⟨g, cap, cur, h0, hb, hg, hn, hc, hs, ht⟩
  · cases h0
    refine ⟨h1.symm, fun k x hk => ?_⟩
    have := (List.getElem?_eq_some_iff.1 hk).1
    omega
  · cases h0
    refine ⟨rfl, fun k x hk => ⟨g, rfl, lt_of_get hg, ?_⟩⟩
    obtain ⟨e1, e2, e3⟩ := evs_get L k x hk
    have f := fun j v hj => (h.cells (g := g) rfl) j v hj
    have e : ∀ j, (⟨g, 0, none⟩ : Addr).add j = ⟨g, j, none⟩ := fun j => by unfold Addr.add; split <;> simp_all
    refine ⟨?_, ?_, ?_⟩
    · rw [← e]; exact f _ _ e1
    · rw [← e]; exact f _ _ e2
    · rw [← e]; exact f _ _ e3
/-- a slice of events -/
def Es (w : World) (v : Value) (L : List MM.Ev) : Prop := ∃ p c, v = .slice p L.length c ∧ ∀ (k : Nat) (x : MM.Ev), L[k]? = some x → ∃ g, p = some ⟨g, 0, none⟩ ∧ g < w.heap.size ∧ w.cell? ⟨g, k * 3, none⟩ = some (.int .i64 x.1) ∧ w.cell? ⟨g, k * 3 + 1, none⟩ = some (.int .u32 x.2.1) ∧ w.cell? ⟨g, k * 3 + 2, none⟩ = some (.int .u64 (x.2.2 : Nat))
theorem es_of {w : World} {B : Nat} {v : Value} {L : List MM.Ev} (h : w.ownsRow B 60 3 v L.length (MD.evs L)) : Es w v L := by
  obtain ⟨p, l, c, rfl⟩ := MV.own_form h
  obtain ⟨rfl, h2⟩ := evs_of h
  exact ⟨p, c, rfl, h2⟩
theorem Es.below {w w' : World} {v : Value} {L : List MM.Ev} (h : Es w v L) (hb : Below w.heap.size w w') : Es w' v L := by
  obtain ⟨p, c, rfl, h⟩ := h
  refine ⟨p, c, rfl, fun k x hk => ?_⟩
  obtain ⟨g, rfl, hg, e1, e2, e3⟩ := h k x hk
  exact ⟨g, rfl, Nat.lt_of_lt_of_le hg hb.size, (hb.cell (p := ⟨g, _, none⟩) hg).trans e1, (hb.cell (p := ⟨g, _, none⟩) hg).trans e2, (hb.cell (p := ⟨g, _, none⟩) hg).trans e3⟩
theorem dn {B : Nat} {a w : World} {q : Nat} (h : Below B a w) : Below B a (w.drewN q) := ⟨h.os, h.tape, h.output, h.size, h.block⟩
set_option maxRecDepth 100000 in
set_option maxHeartbeats 4000000 in
/-- two lists that are the same -/
theorem events_ (w : World) (v v' : Value) (L : List MM.Ev) (h : Es w v L) (h' : Es w v' L) (hl : L.length ≤ 100000) :
    Calls Try.prog 14 #[v, v'] w fun e w' => e = .returned (.bool true) ∧ Below w.heap.size w w' := by
  obtain ⟨p, c, rfl, h⟩ := h
  obtain ⟨p', c', rfl, h'⟩ := h'
  have H := Lib.hid h
  have H' := Lib.hid h'
  clear h h'
  generalize hn : L.length = n at *
  have HN := Lib.hid hn
  clear hn
  go_enter Try.func14, Try.ntmps14
  go_wp2
  go_loopw [13] (fun s13 wr => ∃ k : Nat, k ≤ n ∧ s13 = .int .i64 k ∧ Below w.heap.size w wr) (fun i _ => n - (intOf i).toNat)
  case atStart => exact ⟨0, Nat.zero_le _, rfl, Below.refl _ _⟩
  case round =>
    obtain ⟨k, hk, rfl, hbel⟩ := hrel
    have hsz := hbel.size
    by_cases hlt : k < n
    · obtain ⟨⟨x1, x2, x3⟩, hx1⟩ : ∃ x, L[k]? = some x := by
        rw [← HN.out] at hlt
        exact ⟨L[k], List.getElem?_eq_getElem hlt⟩
      obtain ⟨g, rfl, hg, e1, e2, e3⟩ := H.out k _ hx1
      obtain ⟨g', rfl, hg', e1', e2', e3'⟩ := H'.out k _ hx1
      have q1 := (hbel.cell (p := ⟨g, k * 3, none⟩) hg).trans e1
      have q2 := (hbel.cell (p := ⟨g, k * 3 + 1, none⟩) hg).trans e2
      have q3 := (hbel.cell (p := ⟨g, k * 3 + 2, none⟩) hg).trans e3
      have q1' := (hbel.cell (p := ⟨g', k * 3, none⟩) hg').trans e1'
      have q2' := (hbel.cell (p := ⟨g', k * 3 + 1, none⟩) hg').trans e2'
      have q3' := (hbel.cell (p := ⟨g', k * 3 + 2, none⟩) hg').trans e3'
      clear e1 e2 e3 e1' e2' e3' hx1
      go_wp2
      go_region
      go_wp2
      exact ⟨⟨k + 1, by omega, by go_num, by first | exact hbel.drew | exact dn hbel⟩, by simp [intOf]; omega⟩
    · have hkn : k = n := by omega
      subst hkn
      go_wp2
      go_ret
      exact ⟨rfl, hbel⟩
end MCp
end Go.Proofs.Ytanlccnhkiibeaa
/-
  Bytes made a string; a list of events appended to another, be it empty; what a step that was done says of its place. No condition but those that are written at each.
-/
namespace Go.Proofs.Ytanlccnhkiibeaa
open Go.RowKit
set_option linter.unusedVariables false
set_option linter.unusedSimpArgs false
namespace MCr
open MM MC MB
/-- the string of bytes -/
def strOf (xs : List Int) : ByteArray := xs.foldl (fun r n => r.push (UInt8.ofNat n.toNat)) ByteArray.empty
theorem conv_row {W : World} {B g n cap : Nat} {xs : List Int} (h : W.ownsRow B 5 1 (.slice (some ⟨g, 0, none⟩) n cap) n (u8s xs)) :
    (convert 22 9 (.slice (some ⟨g, 0, none⟩) n cap)).run Try.prog W = .ok (.string (strOf xs)) W := by
  rw [run_convert_bytes_string W _ _ 5 _ _ _ Try.underlying22 Try.underlying5 Try.underlying9]
  have hlen : n = (xs.map (Value.int .u8)).length := by have := h.1; simpa [u8s] using this.symm
  have hload : (loadCells ⟨g, 0, none⟩ n).run Try.prog W = .ok (xs.map (Value.int .u8)).toArray W := by
    rw [hlen]
    exact run_loadCells_list W ⟨g, 0, none⟩ _ (fun j v hv => h.cells (g := g) rfl j v hv)
  rw [run_bytesToString W _ _ _ _ hload]
  rfl
theorem byte_is (x : Int) (h : 0 ≤ x ∧ x ≤ 255) (c : Nat) (hc : c ≤ 255) : UInt8.ofNat x.toNat = UInt8.ofNat c ↔ x = c := by
  constructor
  · intro e
    have e2 := congrArg UInt8.toNat e
    simp only [UInt8.toNat_ofNat'] at e2
    omega
  · rintro rfl
    rfl
theorem str_is (g : Nat → Int) (a : Nat) (h : ∀ k, 0 ≤ g k ∧ g k ≤ 255) : strOf (MCl.part g a 4) = ⟨#[115, 0, 0, 0]⟩ ↔ num g a 4 = 115 := by
  have e : strOf (MCl.part g a 4) = ⟨#[UInt8.ofNat (g (a + 0)).toNat, UInt8.ofNat (g (a + 1)).toNat, UInt8.ofNat (g (a + 2)).toNat, UInt8.ofNat (g (a + 3)).toNat]⟩ := rfl
  have e2 : num g a 4 = g (a + 0) + g (a + 1) * 256 + g (a + 2) * 65536 + g (a + 3) * 16777216 := by
    simp [num]
  have h0 := h (a + 0)
  have h1 := h (a + 1)
  have h2 := h (a + 2)
  have h3 := h (a + 3)
  rw [e, e2]
  have b0 := byte_is _ h0 115 (by omega)
  have b1 := byte_is _ h1 0 (by omega)
  have b2 := byte_is _ h2 0 (by omega)
  have b3 := byte_is _ h3 0 (by omega)
  constructor
  · intro hh
    have hh2 : (#[UInt8.ofNat (g (a + 0)).toNat, UInt8.ofNat (g (a + 1)).toNat, UInt8.ofNat (g (a + 2)).toNat, UInt8.ofNat (g (a + 3)).toNat] : Array UInt8) = #[115, 0, 0, 0] := congrArg ByteArray.data hh
    simp only [Array.mk.injEq, List.cons.injEq, and_true] at hh2
    obtain ⟨q0, q1, q2, q3⟩ := hh2
    have := b0.1 q0
    have := b1.1 q1
    have := b2.1 q2
    have := b3.1 q3
    omega
  · intro hh
    have q0 : g (a + 0) = (115 : Nat) := by omega
    have q1 : g (a + 1) = (0 : Nat) := by omega
    have q2 : g (a + 2) = (0 : Nat) := by omega
    have q3 : g (a + 3) = (0 : Nat) := by omega
    rw [b0.2 q0, b1.2 q1, b2.2 q2, b3.2 q3]
    rfl
theorem ok_fit (N : Nat) (s : St) (inp : List Int) (h : (MM.step N s inp).ok = true) : fit N s.pc 4 = true := by
  cases hf : fit N s.pc 4 with
  | true => rfl
  | false =>
    unfold MM.step at h
    rw [if_neg (by simp [hf])] at h
    cases h
theorem fit_le {N : Nat} {a : Int} (h : fit N a 4 = true) : a + 4 ≤ N := by
  unfold fit at h
  exact (of_decide_eq_true h).2
/-- all numbers stay in their ranges -/
theorem fine_run (N : Nat) : ∀ (k : Nat) (s : St) (inp : List Int), Fine s → (∀ x ∈ inp, 0 ≤ x ∧ x ≤ 4294967295) → Fine (MM.run N k s inp).s ∧ ∀ x ∈ (MM.run N k s inp).inp, 0 ≤ x ∧ x ≤ 4294967295
  | 0, s, inp, h, hi => ⟨h, hi⟩
  | k + 1, s, inp, h, hi => by
    have hF := fine_step (N := N) h hi
    by_cases hs : s.state = 0
    · cases hk : (MM.step N s inp).ok with
      | true =>
        rw [run_yes N k s inp hs _ rfl hk]
        exact fine_run N k _ _ hF.s hF.inp
      | false =>
        rw [run_no N k s inp hs _ rfl hk]
        exact ⟨hF.s, hF.inp⟩
    · rw [run_stop N (k + 1) s inp hs]
      exact ⟨h, hi⟩
theorem run_out (N : Nat) : ∀ (k : Nat) (s : St) (inp : List Int), (MM.run N k s inp).out.length ≤ (MM.run N k s inp).n
  | 0, s, inp => Nat.le_refl _
  | k + 1, s, inp => by
    by_cases hs : s.state = 0
    · cases hk : (MM.step N s inp).ok with
      | true =>
        rw [run_yes N k s inp hs _ rfl hk]
        have h1 := MU.out_le N s inp
        have h2 := run_out N k (MM.step N s inp).s (MM.step N s inp).inp
        simp only [List.length_append]
        omega
      | false =>
        rw [run_no N k s inp hs _ rfl hk]
        exact Nat.le_refl _
    · rw [run_stop N (k + 1) s inp hs]
      exact Nat.le_refl _
theorem row_kept {w w' : World} {B : Nat} {e : TypeId} {z : Nat} {v : Value} {n : Nat} {xs : List Value} (h : w.ownsRow B e z v n xs) (hb : ∀ k, B ≤ k → k < w.heap.size → w'.heap[k]? = w.heap[k]?) : w'.ownsRow B e z v n xs := by
  obtain ⟨h1, h2⟩ := h
  refine ⟨h1, ?_⟩
  rcases h2 with h2 | ⟨g, cap, cur, hv, hg', hh, r⟩
  · exact .inl h2
  · exact .inr ⟨g, cap, cur, hv, hg', (hb g hg' (lt_of_get hh)).trans hh, r⟩
theorem evs_app (a b : List MM.Ev) : MD.evs a ++ MD.evs b = MD.evs (a ++ b) := by unfold MD.evs; simp
theorem evs_one (a : List MM.Ev) : ∀ u ∈ MD.evs a, u.oneCell' = true := by
  intro u hu
  unfold MD.evs at hu
  obtain ⟨l, hl, hul⟩ := List.mem_flatten.1 hu
  obtain ⟨e, _, rfl⟩ := List.mem_map.1 hl
  simp only [List.mem_cons, List.not_mem_nil, or_false] at hul
  rcases hul with rfl | rfl | rfl <;> rfl
/-! ### one row behind another -/
section
variable {P : Program} (w : World)
/-- a row, perhaps an empty one, is appended to another -/
theorem run_append_row (t ty : TypeId) (base : Nat) (e : TypeId) (i : TypeInfo) (z : Value) (size bytes : Nat) (ht : P.underlying t = some (.slice e)) (hi : P.info? e = some i) (hz : i.zero = some z)
    (hsize : i.size = size) (hby : i.bytes = bytes) (hzs : z.cells.size = size) (hsz : 0 < size)
    (v : Value) (n : Nat) (xs : List Value) (hown : w.ownsRow base e size v n xs) (base2 : Nat) (v2 : Value) (m : Nat) (news : List Value) (hown2 : w.ownsRow base2 e size v2 m news) (h1 : ∀ u ∈ news, u.oneCell' = true)
    (h63 : n + m ≤ maxLen) (hbytes : (n + m) * bytes ≤ 140737488355328) (hbase : base ≤ w.heap.size) :
    ∃ v' w', (Builtin.append_ #[t, t] ty #[v, v2]).run P w = .ok v' w' ∧ w'.ownsRow base e size v' (n + m) (xs ++ news) ∧ w.grownBy w' v.ownBlock ∧ (v'.ownBlock = v.ownBlock ∨ v'.ownBlock = some w.heap.size) := by
  have hl := hown2.1
  rcases hown2.2 with ⟨rfl, h0⟩ | ⟨g, cap, cur, rfl, _⟩
  · subst h0
    have hn : news = [] := List.eq_nil_of_length_eq_zero (by simpa using hl)
    subst hn
    refine ⟨v, w, run_append_owned_none w base t ty e i size ht hi v n xs hown, by simpa using hown, ⟨rfl, rfl, rfl, Nat.le_refl _, fun _ _ _ => rfl⟩, .inl rfl⟩
  · obtain ⟨v', w', hr, h2, h3, _, h5⟩ := run_append_own_at (P := P) w base t ty e i z size bytes ht hi hz hsize hby hzs hsz v n xs hown ⟨g, 0, none⟩ m cap news hl (fun j u hj => hown2.cells (g := g) rfl j u hj) h1 h63 hbytes hbase
    exact ⟨v', w', hr, h2, h3, h5⟩
/-- the same at a step of a region that draws its order -/
theorem step_append_row {ops : Array Oper} {o : Oper} {a : Act} {K : Act → World → Prop} {Q : Exit → Act → World → Prop} {E : Prop} (hw : Region.wanted o (yielded ops a.tmps) = true) (s x : Operand) (t : TypeId)
    (ho : o.op = .call { callee := .builtin .append, args := #[s, x], argTypes := #[t, t] })
    (base : Nat) (e : TypeId) (i : TypeInfo) (z : Value) (size bytes : Nat) (ht : P.underlying t = some (.slice e)) (hi : P.info? e = some i) (hz : i.zero = some z)
    (hsize : i.size = size) (hby : i.bytes = bytes) (hzs : z.cells.size = size) (hsz : 0 < size)
    (v : Value) (n : Nat) (xs : List Value) (hs : a.eval s = v) (hown : w.ownsRow base e size v n xs)
    (base2 : Nat) (v2 : Value) (m : Nat) (news : List Value) (hx : a.eval x = v2) (hown2 : w.ownsRow base2 e size v2 m news) (h1 : ∀ u ∈ news, u.oneCell' = true)
    (h63 : n + m ≤ maxLen) (hbytes : (n + m) * bytes ≤ 140737488355328) (hbase : base ≤ w.heap.size)
    (h : ∀ p l c w', w'.ownsRow base e size (.slice p l c) (n + m) (xs ++ news) → w.grownBy w' v.ownBlock → ((Value.slice p l c).ownBlock = v.ownBlock ∨ (Value.slice p l c).ownBlock = some w.heap.size) → K (a.put o.dst (.slice p l c)) w') :
    if Region.wanted o (yielded ops a.tmps) = true then Oper.wp P o a w K Q else E := by
  rw [if_pos hw]
  obtain ⟨v', w', hr, h2, h3, h4⟩ := run_append_row (P := P) w t o.type base e i z size bytes ht hi hz hsize hby hzs hsz v n xs hown base2 v2 m news hown2 h1 h63 hbytes hbase
  unfold Oper.wp execOp
  simp only [ho, resolve, invoke, builtin, Sem.run_bind, Sem.run_pure, Result.andThen_ok, List.map_toArray, List.map_cons, List.map_nil, hs, hx, hr]
  obtain ⟨p, l, c, rfl⟩ := MV.own_form h2
  exact h p l c w' h2 h3 h4
end
end MCr
end Go.Proofs.Ytanlccnhkiibeaa
