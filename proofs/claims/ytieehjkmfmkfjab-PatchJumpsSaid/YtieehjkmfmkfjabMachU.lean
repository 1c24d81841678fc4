/-
  A run of the machine: goOn and Run: each a contract. Conditions: fewer than 4,000 steps are made.
-/
import Derived.Test.YtieehjkmfmkfjabMachT
import Derived.Test.YtieehjkmfmkfjabMachW
import Derived.Deep.LoopGhost
namespace Go.Proofs.Ytieehjkmfmkfjab
open Go.RowKit
set_option linter.unusedVariables false
set_option linter.unusedSimpArgs false
namespace MU
attribute [local go_sem ↓] Go.wp_at_zero Go.wp_at_succ
open MM MC MD MG MH MA MF MS MT
section
variable {B br bk b bm N : Nat} {sd : List (Nat × Obj)} {w w' : World} {s s' : St} {vi ve : Value} {inp : List Int} {out : List Ev} {n c : Nat}
theorem out_le (N : Nat) (s : St) (inp : List Int) : (MM.step N s inp).out.length ≤ 1 := by
  have ite_le : ∀ {c : Prop} [Decidable c] {a b : Rs}, a.out.length ≤ 1 → b.out.length ≤ 1 → (if c then a else b).out.length ≤ 1 := fun ha hb => by split <;> assumption
  unfold MM.step
  refine ite_le (ite_le (Nat.zero_le _) ?_) (Nat.zero_le _)
  generalize iOp _ = op
  generalize iRd _ = rd
  generalize iRs1 _ = r1
  generalize iRs2 _ = r2
  generalize iImm _ = im
  unfold act
  refine ite_le (Nat.zero_le _) (ite_le (Nat.zero_le _) (ite_le (ite_le (Nat.zero_le _) (Nat.zero_le _)) (ite_le (ite_le (Nat.zero_le _) (Nat.zero_le _)) (ite_le (Nat.zero_le _) (ite_le (Nat.zero_le _) (ite_le (Nat.zero_le _) (ite_le (Nat.zero_le _) (ite_le (Nat.zero_le _) (ite_le ?_ (Nat.zero_le _))))))))))
  unfold ecall
  exact ite_le (Nat.le_refl _) (ite_le (Nat.zero_le _) (ite_le (Nat.zero_le _) (ite_le (Nat.zero_le _) (ite_le (Nat.le_refl _) (Nat.zero_le _)))))
/-- what holds at the head of each round: g more rounds may come, T is what the whole run leaves -/
structure Round (B br bk b bm N : Nat) (sd : List (Nat × Obj)) (w : World) (T : Rn) (g : Nat) (wr : World) (s : St) (vi ve : Value) (inp : List Int) (out : List Ev) (k c : Nat) : Prop where
  lives : Lives B br bk b bm N sd wr s vi ve inp out k c
  own : Own B b bm w wr
  fine : Fine s
  inb : ∀ x ∈ inp, 0 ≤ x ∧ x ≤ 4294967295
  few : c ≤ k ∧ out.length ≤ k
  rest : (MM.run N g s inp).s = T.s ∧ (MM.run N g s inp).inp = T.inp ∧ out ++ (MM.run N g s inp).out = T.out ∧ k + (MM.run N g s inp).n = T.n
def Head (B br bk b bm N : Nat) (sd : List (Nat × Obj)) (w : World) (T : Rn) (F : Nat) (g : Nat) (wr : World) : Prop := ∃ s vi ve inp out k c, k + g = F ∧ Round B br bk b bm N sd w T g wr s vi ve inp out k c
def Done (B br bk b bm N : Nat) (sd : List (Nat × Obj)) (w : World) (T : Rn) (w' : World) : Prop := ∃ vi ve c, Lives B br bk b bm N sd w' T.s vi ve T.inp T.out T.n c ∧ Own B b bm w w' ∧ Fine T.s ∧ ∀ x ∈ T.inp, 0 ≤ x ∧ x ≤ 4294967295
theorem Lives.less {p : Nat × Obj} (L : Lives B br bk b bm N (p :: sd) w s vi ve inp out n c) : Lives B br bk b bm N sd w s vi ve inp out n c :=
  ⟨L.at_, L.run, L.inp, L.ev, L.known, L.big, L.pl, fun q hq => L.side q (List.mem_cons_of_mem _ hq)⟩
theorem Lives.more (L : Lives B br bk b bm N sd w s vi ve inp out n c) (o : Obj) : Lives B br bk b bm N ((w.heap.size, o) :: sd) (w.alloc o) s vi ve inp out n c := by
  have L1 := MG.Lives.box L o
  have hb := L.big
  have hp := L.pl
  refine ⟨L1.at_, L1.run, L1.inp, L1.ev, L1.known, L1.big, L1.pl, fun q hq => ?_⟩
  rcases List.mem_cons.1 hq with rfl | hq
  · refine ⟨heap_alloc_new w o, ?_, ?_, ?_, ?_, ?_⟩
    · show w.heap.size ≠ b; omega
    · show w.heap.size ≠ bm; omega
    · have := lt_of_get L.run; show w.heap.size ≠ br; omega
    · have := L.known.lt; show w.heap.size ≠ bk; omega
    · intro e; have := (L.evb _ e).2; exact absurd this (Nat.lt_irrefl _)
  · exact L1.side q hq
/-- a round that goes on -/
theorem Round.next {T : Rn} {g : Nat} {wr w2 : World} {vi' ve' : Value} {k : Nat} (R : Round B br bk b bm N sd w T (g + 1) wr s vi ve inp out k c) (h0 : s.state = 0) (hk : (MM.step N s inp).ok = true)
    (L : Lives B br bk b bm N sd w2 (MM.step N s inp).s vi' ve' (MM.step N s inp).inp (out ++ (MM.step N s inp).out) (k + 1) (c + 1)) (O : Own B b bm wr w2) :
    Round B br bk b bm N sd w T g w2 (MM.step N s inp).s vi' ve' (MM.step N s inp).inp (out ++ (MM.step N s inp).out) (k + 1) (c + 1) := by
  have hf := fine_step (N := N) R.fine R.inb
  have ho := out_le N s inp
  obtain ⟨r1, r2, r3, r4⟩ := R.rest
  rw [run_yes N g s inp h0 _ rfl hk] at r1 r2 r3 r4
  refine ⟨L, R.own.trans O, hf.s, hf.inp, ⟨by have := R.few; omega, by have := R.few; rw [List.length_append]; omega⟩, r1, r2, ?_, ?_⟩
  · rw [List.append_assoc]; exact r3
  · simp only at r4; omega
/-- the run has ended by itself, or for want of fuel -/
theorem Round.stop {T : Rn} {g : Nat} {wr : World} {k : Nat} (R : Round B br bk b bm N sd w T g wr s vi ve inp out k c) (h : s.state ≠ 0 ∨ g = 0) : Done B br bk b bm N sd w T wr := by
  have e : MM.run N g s inp = ⟨s, inp, [], 0⟩ := by
    rcases h with h | h
    · exact run_stop N g s inp h
    · subst h; rfl
  obtain ⟨r1, r2, r3, r4⟩ := R.rest
  rw [e] at r1 r2 r3 r4
  simp only [List.append_nil, Nat.add_zero] at r3 r4
  refine ⟨vi, ve, c, ?_, R.own, r1 ▸ R.fine, r2 ▸ R.inb⟩
  rw [← r1, ← r2, ← r3, ← r4]
  exact R.lives
/-- the round's step has failed, and its state is laid -/
theorem Round.fail {T : Rn} {g : Nat} {wr w2 : World} {k c' : Nat} {code : Int} (R : Round B br bk b bm N sd w T (g + 1) wr s vi ve inp out k c) (h0 : s.state = 0) (hk : (MM.step N s inp).ok = false) (hs : (MM.step N s inp).s = setst s code) (hi : (MM.step N s inp).inp = inp)
    (L : Lives B br bk b bm N sd w2 s vi ve inp out k c') (O : Own B b bm wr w2) : Done B br bk b bm N sd w T (w2.setCell ⟨b, 66, none⟩ (.int .i64 code)) := by
  obtain ⟨r1, r2, r3, r4⟩ := R.rest
  rw [run_no N g s inp h0 _ rfl hk] at r1 r2 r3 r4
  simp only [List.append_nil, Nat.add_zero] at r3 r4
  rw [hs] at r1
  simp only [hi] at r2
  refine ⟨vi, ve, c', ?_, (R.own.trans O).trans (Own.set _ _ _), r1 ▸ R.fine.setst code, r2 ▸ R.inb⟩
  rw [← r1, ← r2, ← r3, ← r4]
  exact L.set 66 _ (set_state _ _ _ _) rfl
theorem Done.less {T : Rn} {o : Obj} {k : Nat} (hk : B ≤ k) (h : Done B br bk b bm N ((k, o) :: sd) w T w') : Done B br bk b bm N sd w T w' := by
  obtain ⟨vi, ve, c, L, r⟩ := h
  exact ⟨vi, ve, c, Lives.less L, r⟩
set_option maxRecDepth 100000 in
set_option maxHeartbeats 4000000 in
theorem goOn_ (L : Lives B br bk b bm N sd w s vi ve inp [] 0 0) (hs : Fine s) (hi : ∀ x ∈ inp, 0 ≤ x ∧ x ≤ 4294967295) (hN : N ≤ 2097152) (F : Int) (hF : F ≤ 9000000000000000000) (T : Rn) (hT : MM.run N F.toNat s inp = T) (hn : T.n ≤ 4000) :
    Calls Try.prog 33 #[.pointer (some ⟨br, 0, none⟩), .int .i64 F] w fun e w' => e = .returned (.tuple #[]) ∧ Done B br bk b bm N sd w T w' := by
  have hmf : ∀ (fn : Fn) (first cap : Array Value) (w : World), (Instr.makeFunc fn first cap).run Try.prog w = .ok (.func fn first cap) w := fun _ _ _ _ => rfl
  have hB := L.big
  have R0 : Head B br bk b bm N ((w.heap.size, .cells #[.pointer (some ⟨br, 0, none⟩)] 96) :: sd) w T F.toNat F.toNat (w.alloc (.cells #[.pointer (some ⟨br, 0, none⟩)] 96)) :=
    ⟨s, vi, ve, inp, [], 0, 0, by omega, Lives.more L _, own_box (by omega) _, hs, hi, ⟨Nat.le_refl _, Nat.le_refl _⟩, by rw [hT], by rw [hT], by rw [hT]; rfl, by rw [hT]; omega⟩
  have HR := Lib.hid R0
  clear L hs hi R0 hT
  go_enter_defers Try.func33, Try.ntmps33
  go_wp2
  go_loopg [5] F.toNat (fun g _ wr => Head B br bk b bm N ((w.heap.size, .cells #[.pointer (some ⟨br, 0, none⟩)] 96) :: sd) w T F.toNat g wr)
  case atStart => exact HR.out
  case round =>
    obtain ⟨s, vi, ve, inp, out, k, c, hk, R⟩ := hrel
    have hbx := (R.lives.side _ (List.mem_cons_self)).1
    have q1 : wr.cell? ⟨w.heap.size, 0, none⟩ = some (.pointer (some ⟨br, 0, none⟩)) := cell_of_row wr _ 0 _ _ _ hbx
    have q2 := R.lives.r3
    have q3 := R.lives.r0
    have q4 := R.lives.at_.cst
    have hfew := R.few
    have hrest := R.rest.2.2.2
    have hcat : ∀ (w2 : World) (v : Value), w2.cell? ⟨w.heap.size, 0, none⟩ = some (.pointer (some ⟨br, 0, none⟩)) → True := fun _ _ _ => trivial
    clear hbx hcat
    by_cases hlt : (k : Int) < F
    · have hlt' : decide ((k : Int) < F) = true := by simpa using hlt
      obtain ⟨g, hg⟩ : ∃ g, gk = g + 1 := ⟨gk - 1, by omega⟩
      subst hg
      by_cases h0 : s.state = 0
      · have h0' : (s.state == 0) = true := by simp [h0]
        have HR2 := Lib.hid R
        have H0 := Lib.hid h0
        cases hok : (MM.step N s inp).ok with
        | true =>
          have hc1 : k + 1 ≤ T.n := by rw [run_yes N g s inp h0 _ rfl hok] at hrest; simp only at hrest; omega
          have cs := step_ok R.lives R.fine hN (by omega) (by omega) _ rfl hok
          have HK := Lib.hid hok
          clear R h0 hok hrest
          generalize hst : s.state = sst at *
          have HST := Lib.hid hst
          clear hst
          go_wp2_with (go_at_call 45; (with_reducible refine cs.mono ?_); rintro e w2 ⟨rfl, vi2, ve2, L2, O2⟩; have y1 : w2.cell? ⟨w.heap.size, 0, none⟩ = some (.pointer (some ⟨br, 0, none⟩)) := (cell_of_row w2 _ 0 _ _ _ (L2.side _ (List.mem_cons_self)).1); have y2 := L2.r3; have y3 := L2.rf 3; have HL2 := Lib.hid L2; have HO2 := Lib.hid O2; clear L2 O2 cs)
          go_roundg g
          case measure => omega
          case rel =>
            refine ⟨_, vi2, ve2, _, _, k + 1, c + 1, by omega, HR2.out.next (HST.out.trans H0.out) HK.out ?_ (HO2.out.trans (Own.setRun (by have := HR2.out.lives.pl; omega) _ _))⟩
            rw [show ((k : Int) + 1) = ((k + 1 : Nat) : Int) by omega]
            exact HL2.out.turn 3 _ (rcells_3 _ _ _ _ _ _) HL2.out.inp
        | false =>
          have hc1 : k ≤ T.n := by omega
          obtain ⟨code, e1, e2, cs⟩ := step_bad R.lives R.fine hN (by omega) _ rfl hok
          have HK := Lib.hid hok
          have E1 := Lib.hid e1
          have E2 := Lib.hid e2
          clear R h0 hok hrest e1 e2
          generalize hst : s.state = sst at *
          have HST := Lib.hid hst
          clear hst
          go_wp2_with (go_at_call 45; (with_reducible refine cs.mono ?_); rintro e w2 ⟨rfl, c2, hc2, L2, O2⟩)
          refine leaves_cons (f := 44) (args := #[.pointer (some ⟨w.heap.size, 0, none⟩)]) (by simp) (by simp [go_sem]) ?_
          refine (catch_panicking w.heap.size br b code [] w2 (cell_of_row w2 _ 0 _ _ _ (L2.side _ (List.mem_cons_self)).1) L2.r0 _ L2.at_.cst (L2.at_.fb 66)).mono ?_
          rintro e u' w'' ⟨rfl, rfl, rfl⟩
          have hD := HR2.out.fail (HST.out.trans H0.out) HK.out E1.out E2.out L2 O2
          have HDD := Lib.hid hD
          clear hD
          simp [Leaves, settle, results, Try.results33, go_sem]
          exact Done.less (by omega) HDD.out
      · have h0' : (s.state == 0) = false := by simp [h0]
        have hD := Lib.hid (R.stop (.inl h0))
        clear R h0
        generalize hst : s.state = sst at *
        have HST := Lib.hid hst
        clear hst
        go_wp2
        refine leaves_cons (f := 44) (args := #[.pointer (some ⟨w.heap.size, 0, none⟩)]) (by simp) (by simp [go_sem]) ?_
        refine (catch_idle w.heap.size _).mono ?_
        rintro e u' w'' ⟨rfl, rfl, rfl⟩
        simp [Leaves, settle, results, Try.results33, go_sem]
        exact Done.less (by omega) hD.out
    · have hlt' : decide ((k : Int) < F) = false := by simpa using hlt
      have hD := Lib.hid (R.stop (.inr (by omega)))
      clear R
      go_wp2
      refine leaves_cons (f := 44) (args := #[.pointer (some ⟨w.heap.size, 0, none⟩)]) (by simp) (by simp [go_sem]) ?_
      refine (catch_idle w.heap.size _).mono ?_
      rintro e u' w'' ⟨rfl, rfl, rfl⟩
      simp [Leaves, settle, results, Try.results33, go_sem]
      exact Done.less (by omega) hD.out
end
end MU
end Go.Proofs.Ytieehjkmfmkfjab
