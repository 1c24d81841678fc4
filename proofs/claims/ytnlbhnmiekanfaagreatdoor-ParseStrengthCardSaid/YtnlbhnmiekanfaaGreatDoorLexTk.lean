/-
  All tokens of a text, told: tokens, Lex. Condition: the text is one that memory holds, Go's own variables lie, and real.Parse answers at the reals' texts that may stand there.
-/
import Derived.Test.YtnlbhnmiekanfaaGreatDoorLexZ
import Derived.Deep.AppendLies
namespace Go.Proofs.YtnlbhnmiekanfaaGreatDoor
open Go.RowKit
set_option linter.unusedVariables false
set_option linter.unusedSimpArgs false
namespace LxC
open Lx
theorem row_slice {w : World} {b : Nat} {e : TypeId} {size n : Nat} {v : Value} {xs : List Value} (h : w.ownsRow b e size v n xs) : ∃ p c, v = .slice p n c := by
  rcases h.2 with ⟨rfl, rfl⟩ | ⟨g, cap, cur, rfl, _⟩
  · exact ⟨_, _, rfl⟩
  · exact ⟨_, _, rfl⟩
theorem St.res4 {w : World} {n : Rg} {w1 : World} {R : Nat} {fs : Fs} {s : ByteArray} {k k' : Nat} {v : Value} {ts : List Tok} {wr w2 w4 : World} {o1 o2 : Obj} (h : St w n w1 R fs s k v ts wr) (g : wr.grownBy w2 (some R)) (hrd : RdAt n w1 R fs s k' w2)
    (hg : ((w2.alloc o1).alloc o2).grownBy w4 v.ownBlock) : Res3 w.heap.size v 0 0 w4 ∧ Below w.heap.size w w4 := by
  have hb := h.big
  have r2 := h.res2 g
  have hR2 := hrd.lt
  have hz : ((w2.alloc o1).alloc o2).heap.size = w2.heap.size + 2 := by simp
  have old : ∀ i, i ≤ R → w4.heap[i]? = w2.heap[i]? := fun i hi => by
    rw [hg.block i (by rw [hz]; omega) (ne_own h.own hi), Lib.alloc_old _ _ _ (by simp; omega), Lib.alloc_old _ _ _ (by omega)]
  have hs4 : w2.heap.size ≤ w4.heap.size := by have := hg.size; rw [hz] at this; omega
  have b24 : Below (R + 1) w2 w4 := ⟨hg.os, hg.tape, hg.output, hs4, fun i hi => old i (by omega)⟩
  refine ⟨⟨(old _ (by omega)).trans r2.v, (old _ (by omega)).trans r2.a, (old _ (by omega)).trans r2.e⟩, ?_⟩
  exact (h.bel.grown g h.bel.size (fun k hk => by have := Option.some.inj hk; omega)).trans (b24.mono (by omega))
/-- the three results as they are answered -/
theorem end_world {w w4 : World} {v v' : Value} {R n : Nat} {xs : List Value} (hb : w.heap.size + 3 ≤ R) (r4 : Res3 w.heap.size v 0 0 w4) (b4 : Below w.heap.size w w4) (hown : w4.ownsRow (R + 1) TT 3 v' n xs) :
    Res3 w.heap.size v' 0 0 (((w4.setCell ⟨w.heap.size, 0, none⟩ v').setCell ⟨w.heap.size + 1, 0, none⟩ (.int .i64 0)).setCell ⟨w.heap.size + 2, 0, none⟩ (.int .i64 0)) ∧
    Below w.heap.size w (((w4.setCell ⟨w.heap.size, 0, none⟩ v').setCell ⟨w.heap.size + 1, 0, none⟩ (.int .i64 0)).setCell ⟨w.heap.size + 2, 0, none⟩ (.int .i64 0)) ∧
    (((w4.setCell ⟨w.heap.size, 0, none⟩ v').setCell ⟨w.heap.size + 1, 0, none⟩ (.int .i64 0)).setCell ⟨w.heap.size + 2, 0, none⟩ (.int .i64 0)).ownsRow (R + 1) TT 3 v' n xs := by
  refine ⟨⟨?_, ?_, ?_⟩, ?_, ?_⟩
  · rw [heap_setCell_other _ ⟨w.heap.size + 2, 0, none⟩ _ _ (by show w.heap.size ≠ w.heap.size + 2; omega), heap_setCell_other _ ⟨w.heap.size + 1, 0, none⟩ _ _ (by show w.heap.size ≠ w.heap.size + 1; omega), heap_setCell_same _ w.heap.size 0 #[v] TS v' r4.v]; rfl
  · rw [heap_setCell_other _ ⟨w.heap.size + 2, 0, none⟩ _ _ (by show w.heap.size + 1 ≠ w.heap.size + 2; omega), heap_setCell_same _ (w.heap.size + 1) 0 #[.int .i64 0] 3 _ ((heap_setCell_other _ ⟨w.heap.size, 0, none⟩ _ _ (by show w.heap.size + 1 ≠ w.heap.size; omega)).trans r4.a)]; rfl
  · rw [heap_setCell_same _ (w.heap.size + 2) 0 #[.int .i64 0] 28 _ ((heap_setCell_other _ ⟨w.heap.size + 1, 0, none⟩ _ _ (by show w.heap.size + 2 ≠ w.heap.size + 1; omega)).trans ((heap_setCell_other _ ⟨w.heap.size, 0, none⟩ _ _ (by show w.heap.size + 2 ≠ w.heap.size; omega)).trans r4.e))]; rfl
  · exact ((b4.setCell (p := ⟨w.heap.size, 0, none⟩) (Nat.le_refl _) _).setCell (p := ⟨w.heap.size + 1, 0, none⟩) (by show w.heap.size ≤ w.heap.size + 1; omega) _).setCell (p := ⟨w.heap.size + 2, 0, none⟩) (by show w.heap.size ≤ w.heap.size + 2; omega) _
  · have ne : ∀ i, i < R → v'.ownBlock ≠ some i := fun i hi e => by have := (hown.lt _ e).1; omega
    exact ((hown.kept (gb_set (R := w.heap.size) (i := 0) v') (.inr (ne _ (by omega)))).kept (gb_set (R := w.heap.size + 1) (i := 0) (.int .i64 0)) (.inr (ne _ (by omega)))).kept (gb_set (R := w.heap.size + 2) (i := 0) (.int .i64 0)) (.inr (ne _ (by omega)))
theorem own_less {w : World} {b b' : Nat} {e : TypeId} {size n : Nat} {v : Value} {xs : List Value} (hb : b' ≤ b) (h : w.ownsRow b e size v n xs) : w.ownsRow b' e size v n xs := by
  refine ⟨h.1, ?_⟩
  rcases h.2 with h1 | ⟨g, cap, cur, h1, h2, h3⟩
  · exact .inl h1
  · exact .inr ⟨g, cap, cur, h1, Nat.le_trans hb h2, h3⟩
theorem tok_one (a b : Int) (t : ByteArray) : ∀ u ∈ [Value.int .i64 a, .string t, .int .i64 b], u.oneCell' = true := by
  intro u hu
  simp only [List.mem_cons, List.not_mem_nil, or_false] at hu
  rcases hu with rfl | rfl | rfl <;> rfl
set_option maxRecDepth 100000 in
set_option maxHeartbeats 16000000 in
theorem tokens_ (s : ByteArray) (w : World) (hs : s.size ≤ 8192) (hB : Base w.heap.size w) (hP : Parses w.heap.size w s) :
    Calls Tryz.prog 38 #[.string s] w (LexPost w (tk (at_ s 0) 0 0)) := by
  have hmf : ∀ (fn : Fn) (first cap : Array Value) (w : World), (Instr.makeFunc fn first cap).run Tryz.prog w = .ok (.func fn first cap) w := fun _ _ _ _ => rfl
  have cn := newReader_ w.heap.size s (((w.alloc (.cells #[.slice none 0 0] TS)).alloc (.cells #[.int .i64 0] 3)).alloc (.cells #[.int .i64 0] 28)) (by simp)
  obtain ⟨res, hres⟩ : ∃ r, tk (at_ s 0) 0 0 = r := ⟨_, rfl⟩
  rw [hres]
  have HB := Lib.hid hB
  have HP := Lib.hid hP
  have HRES := Lib.hid hres
  clear hB hP hres
  have hbw : Below w.heap.size w (((w.alloc (.cells #[.slice none 0 0] TS)).alloc (.cells #[.int .i64 0] 3)).alloc (.cells #[.int .i64 0] 28)) :=
    (((Below.refl _ _).alloc (Nat.le_refl _) _).alloc (by simp) _).alloc (by simp; omega) _
  have hr3 : Res3 w.heap.size (.slice none 0 0) 0 0 (((w.alloc (.cells #[.slice none 0 0] TS)).alloc (.cells #[.int .i64 0] 3)).alloc (.cells #[.int .i64 0] 28)) := by
    refine ⟨?_, ?_, ?_⟩
    · rw [Lib.alloc_old _ _ _ (by simp; omega), Lib.alloc_old _ _ _ (by simp)]; exact heap_alloc_new w _
    · rw [Lib.alloc_old _ _ _ (by simp)]
      have := heap_alloc_new (w.alloc (.cells #[.slice none 0 0] TS)) (.cells #[.int .i64 0] 3)
      rwa [World.size_alloc] at this
    · have := heap_alloc_new ((w.alloc (.cells #[.slice none 0 0] TS)).alloc (.cells #[.int .i64 0] 3)) (.cells #[.int .i64 0] 28)
      rwa [World.size_alloc, World.size_alloc] at this
  have hsz : (((w.alloc (.cells #[.slice none 0 0] TS)).alloc (.cells #[.int .i64 0] 3)).alloc (.cells #[.int .i64 0] 28)).heap.size = w.heap.size + 3 := by simp
  have HBW := Lib.hid hbw
  have HR3 := Lib.hid hr3
  have HSZ := Lib.hid hsz
  clear hbw hr3 hsz
  obtain ⟨i0, hi, hz0, hz1, hz2⟩ := info_parts infoTok
  go_enter_defers Tryz.func38, Tryz.ntmps38
  go_wp2_with (go_at_call 62; (with_reducible refine cn.mono ?_); rintro e w2 ⟨fs, w1, rfl, hok, hb1, rfl⟩; have HOK := Lib.hid hok; have HB1 := Lib.hid hb1; clear cn hok hb1)
  have hz1' : w.heap.size + 3 ≤ w1.heap.size := by have := HB1.out.size; rw [HSZ.out] at this; exact this
  have hbw1 : Below w.heap.size w w1 := HBW.out.trans (HB1.out.mono (by rw [HSZ.out]; omega))
  have HP1 : Hid (Parses w.heap.size w1 s) := HP.out.later hbw1 (Nat.le_refl _)
  have h0 : St w ⟨w.heap.size, w1.heap.size⟩ w1 w1.heap.size fs s 0 (.slice none 0 0) [] (w1.alloc (.cells (rdCells s 0 fs) TR)) := by
    refine ⟨hz1', rfl, ⟨HOK.out, HB.out.later hbw1 (Nat.le_refl _) (by show w.heap.size ≤ w1.heap.size; omega), hz1', Nat.le_refl _, Un.of ((Below.refl _ _).alloc (Nat.le_refl _) _) (Nat.le_refl _), heap_alloc_new _ _⟩, ⟨?_, ?_, ?_⟩, World.ownsRow_nil _ _ _ _, hbw1.alloc hbw1.size _, by simp, Nat.zero_le _⟩
    · exact (Lib.alloc_old _ _ _ (by omega)).trans ((HB1.out.block _ (by rw [HSZ.out]; omega)).trans HR3.out.v)
    · exact (Lib.alloc_old _ _ _ (by omega)).trans ((HB1.out.block _ (by rw [HSZ.out]; omega)).trans HR3.out.a)
    · exact (Lib.alloc_old _ _ _ (by omega)).trans ((HB1.out.block _ (by rw [HSZ.out]; omega)).trans HR3.out.e)
  have H0 := Lib.hid h0
  clear h0 hbw1 HB1 HOK HR3 HBW HSZ HP HB
  generalize hR : w1.heap.size = R at *
  obtain ⟨n, hn⟩ : ∃ n : Rg, n = ⟨w.heap.size, R⟩ := ⟨_, rfl⟩
  have HP2 : Hid (Parses n.lo w1 s) := by rw [hn]; exact HP1.out
  rw [← hn] at H0
  clear hn HP1 hR
  go_loopg [6] s.size (fun gg _ wr => ∃ (k : Nat) (v : Value) (ts : List Tok), k ≤ s.size ∧ s.size - k ≤ gg ∧ Aside (St w n w1 R fs s k v ts wr) ∧ Aside (res = pre ts (tk (at_ s k) k ts.length)))
  case atStart =>
    refine ⟨0, _, [], Nat.zero_le _, by omega, H0.out, ?_⟩
    show res = pre [] (tk (at_ s 0) 0 0)
    rw [HRES.out]
    cases res <;> rfl
  case round =>
    obtain ⟨k, v, ts, hk, hgg, A1, A2⟩ := hrel
    obtain ⟨p, c, rfl⟩ := row_slice A1.out.own
    cases hgp : gp (at_ s k) with
    | mk b g =>
      cases b with
      | false =>
        have ct := token_gap A1.out.rd hk hs hgp
        have A3 : Aside (res = .error (k + g, 10)) := by show _ = _; rw [A2.out, tk_gap _ _ hgp]; rfl
        clear hgp
        go_wp2_with (go_at_call 63; (with_reducible refine ct.mono ?_); rintro e w2 ⟨rfl, g2⟩; have G2 := Lib.hid g2; clear g2)
        refine leaves_cons (f := 61) (args := #[.pointer (some ⟨w.heap.size, 0, none⟩), .pointer (some ⟨w.heap.size + 1, 0, none⟩), .pointer (some ⟨w.heap.size + 2, 0, none⟩)]) (by simp) (by simp [go_sem]) ?_
        refine (catch_panicking w.heap.size _ 0 0 ((k + g : Nat) : Int) 10 [] w2 (A1.out.res2 G2.out)).mono ?_
        rintro e u' w'' ⟨rfl, rfl, hc⟩
        have e0 : w''.cell? ⟨w.heap.size, 0, none⟩ = some (.slice none 0 0) := Lib.cell_of_heap hc.1.v 0
        have e1 : w''.cell? ⟨w.heap.size + 1, 0, none⟩ = some (.int .i64 ((k + g : Nat) : Int)) := Lib.cell_of_heap hc.1.a 0
        have e2 : w''.cell? ⟨w.heap.size + 2, 0, none⟩ = some (.int .i64 10) := Lib.cell_of_heap hc.1.e 0
        have HC := Lib.hid (A1.out.caught G2.out hc)
        rw [A3.out]
        clear hc
        simp [Leaves, settle, results, Tryz.results38, go_sem, e0, e1, e2]
        exact ⟨rfl, HC.out⟩
      | true =>
        have hgl : k + g ≤ s.size := by
          have := gp_le (at_ s k)
          rw [hgp, at_len] at this
          simp only at this; omega
        cases htk : token (at_ s (k + g)) with
        | none =>
          have ct := token_none A1.out.rd hk hs hgp HP2.out htk
          have A3 : Aside (res = .error (k + g, 10)) := by show _ = _; rw [A2.out, tk_none _ _ hgp (by rw [at_drop]; exact htk)]; rfl
          clear hgp htk hgl
          go_wp2_with (go_at_call 63; (with_reducible refine ct.mono ?_); rintro e w2 ⟨rfl, g2⟩; have G2 := Lib.hid g2; clear g2)
          refine leaves_cons (f := 61) (args := #[.pointer (some ⟨w.heap.size, 0, none⟩), .pointer (some ⟨w.heap.size + 1, 0, none⟩), .pointer (some ⟨w.heap.size + 2, 0, none⟩)]) (by simp) (by simp [go_sem]) ?_
          refine (catch_panicking w.heap.size _ 0 0 (((k + g : Nat) : Int)) 10 [] _ (A1.out.res2 G2.out)).mono ?_
          rintro e u' w'' ⟨rfl, rfl, hc⟩
          have e0 : w''.cell? ⟨w.heap.size, 0, none⟩ = some (.slice none 0 0) := Lib.cell_of_heap hc.1.v 0
          have e1 : w''.cell? ⟨w.heap.size + 1, 0, none⟩ = some (.int .i64 (((k + g : Nat) : Int))) := Lib.cell_of_heap hc.1.a 0
          have e2 : w''.cell? ⟨w.heap.size + 2, 0, none⟩ = some (.int .i64 10) := Lib.cell_of_heap hc.1.e 0
          have HC := Lib.hid (A1.out.caught G2.out hc)
          rw [A3.out]
          clear hc
          simp [Leaves, settle, results, Tryz.results38, go_sem, e0, e1, e2]
          exact ⟨rfl, HC.out⟩
        | some x =>
          obtain ⟨kd, m⟩ := x
          by_cases hkd : kd = 0
          · subst hkd
            have hnil := token_zero htk
            have hm0 : m = 0 := by
              rw [hnil] at htk
              have : (0, 0) = (0, m) := Option.some.inj htk
              exact (Prod.mk.inj this).2.symm
            subst hm0
            have ct := token_some A1.out.rd hk hs hgp HP2.out htk (by omega)
            have A3 : Aside (res = .ok (ts ++ [Tok.mk 0 [] (k + g)])) := by show _ = _; rw [A2.out, tk_end _ _ hgp (by rw [at_drop]; exact htk)]; rfl
            have A4 : Aside (s.extract (k + g) (k + g + 0) = ⟨([] : List UInt8).toArray⟩) := by show _ = _; rw [extract_eq, Nat.add_zero, Nat.sub_self, List.take_zero]
            clear hgp htk hgl hnil
            obtain ⟨txt, htx⟩ : ∃ x, s.extract (k + g) (k + g + 0) = x := ⟨_, rfl⟩
            obtain ⟨pl, hpl⟩ : ∃ z : Int, ((k + g : Nat) : Int) = z := ⟨_, rfl⟩
            rw [htx, hpl] at ct
            have HTX := Lib.hid htx
            have HPL := Lib.hid hpl
            clear htx hpl
            have ct : Calls Tryz.prog 63 #[.pointer (some ⟨R, 0, none⟩)] wr fun e w' => e = .returned (.agg #[.int .i64 0, .string txt, .int .i64 pl]) ∧ RdAt n w1 R fs s (k + g + 0) w' ∧ wr.grownBy w' (some R) := ct
            go_wp2_with (first
              | (go_at_call 63; (with_reducible refine ct.mono ?_); rintro e w2 ⟨rfl, h2, g2⟩; have r2 := A1.out.res2 g2; have b0 : w2.cell? ⟨w.heap.size, 0, none⟩ = some (.slice p ts.length c) := Lib.cell_of_heap r2.v 0; have hlt2 : w.heap.size < w2.heap.size := (Array.getElem?_eq_some_iff.1 r2.v).1; have hown2 : w2.ownsRow (R + 1) TT 3 (.slice p ts.length c) ts.length (cellsT ts) := A1.out.own.kept g2 (.inr (fun e => ne_own A1.out.own (Nat.le_refl R) e.symm)); have HOWN := Lib.hid hown2; have H2 := Lib.hid h2; have G2 := Lib.hid g2; clear h2 g2 r2 hown2)
              | (at_builtin; go_must (refine wpList_append_own _ rfl _ _ TS rfl (R + 1) TT i0 (.agg #[.int .i64 0, .string ⟨#[]⟩, .int .i64 0]) 3 32 Tryz.underlying61 hi hz0 hz1 hz2 rfl (by decide) _ _ _ rfl ((HOWN.out.alloc _).alloc _) ⟨w2.heap.size + 1, 0, none⟩ 1 1 [.int .i64 0, .string txt, .int .i64 pl] rfl rfl (by have hn := heap_alloc_new (w2.alloc (.cells #[.int .i64 0, .string txt, .int .i64 pl] TT)) (.cells #[.int .i64 0, .string txt, .int .i64 pl] TT); rw [World.size_alloc] at hn; exact World.news_of_block hn) (tok_one _ _ _) (by have := A1.out.few; unfold maxLen; omega) (by have := A1.out.few; omega) (by have := H2.out.lt; have := H2.out.nR; simp only [World.size_alloc]; omega) ?_; intro v4 w4 hown4 hg4 _; obtain ⟨r4, bel4⟩ := A1.out.res4 G2.out H2.out hg4; have c0 : w4.cell? ⟨w.heap.size, 0, none⟩ = some (.slice p ts.length c) := Lib.cell_of_heap r4.v 0; have c1 : w4.cell? ⟨w.heap.size + 1, 0, none⟩ = some (.int .i64 0) := Lib.cell_of_heap r4.a 0; have c2 : w4.cell? ⟨w.heap.size + 2, 0, none⟩ = some (.int .i64 0) := Lib.cell_of_heap r4.e 0; have f0 : w4.frozen? ⟨w.heap.size, 0, none⟩ = false := Lib.frozen_of_heap r4.v 0; have f1 : w4.frozen? ⟨w.heap.size + 1, 0, none⟩ = false := Lib.frozen_of_heap r4.a 0; have f2 : w4.frozen? ⟨w.heap.size + 2, 0, none⟩ = false := Lib.frozen_of_heap r4.e 0; have R4 := Lib.hid r4; have BEL4 := Lib.hid bel4; have HOWN4 := Lib.hid hown4; have HG4 := Lib.hid hg4; obtain ⟨p4, n4, c4, hv4⟩ : ∃ p4 n4 c4, v4 = Value.slice p4 n4 c4 := (by obtain ⟨p4, c4, h⟩ := row_slice hown4; exact ⟨p4, _, c4, h⟩); subst hv4; clear r4 bel4 hown4 hg4)))
            refine leaves_cons (f := 61) (args := #[.pointer (some ⟨w.heap.size, 0, none⟩), .pointer (some ⟨w.heap.size + 1, 0, none⟩), .pointer (some ⟨w.heap.size + 2, 0, none⟩)]) (by simp) (by simp [go_sem]) ?_
            refine (catch_idle w.heap.size _).mono ?_
            rintro e u' w'' ⟨rfl, rfl, rfl⟩
            obtain ⟨q1, q2, q3⟩ := end_world A1.out.big R4.out BEL4.out HOWN4.out
            have e0 := Lib.cell_of_heap q1.v 0
            have e1 := Lib.cell_of_heap q1.a 0
            have e2 := Lib.cell_of_heap q1.e 0
            have Q2 := Lib.hid q2
            have Q3 := Lib.hid q3
            clear q1 q2 q3
            simp only [List.getElem?_toArray, List.getElem?_cons_zero] at e0 e1 e2
            generalize (((w4.setCell ⟨w.heap.size, 0, none⟩ (.slice p4 n4 c4)).setCell ⟨w.heap.size + 1, 0, none⟩ (.int .i64 0)).setCell ⟨w.heap.size + 2, 0, none⟩ (.int .i64 0)) = W5 at *
            rw [A3.out]
            simp [Leaves, settle, results, Tryz.results38, go_sem, e0, e1, e2]
            refine ⟨_, rfl, ?_, Q2.out⟩
            show W5.ownsRow w.heap.size TT 3 _ (ts ++ [Tok.mk 0 [] (k + g)]).length (cellsT (ts ++ [Tok.mk 0 [] (k + g)]))
            have hq := Q3.out
            rw [List.length_append, cellsT_snoc]
            have e3 : (.string txt : Value) = .string (ByteArray.mk ([] : List UInt8).toArray) := by rw [← HTX.out, A4.out]
            have e4 : (.int .i64 pl : Value) = .int .i64 ((k + g : Nat) : Int) := by rw [HPL.out]
            rw [e3, e4] at hq
            exact own_less (by have := A1.out.big; omega) hq
          · have hn := token_n htk hkd
            rw [at_len] at hn
            have ct := token_some A1.out.rd hk hs hgp HP2.out htk (by omega)
            obtain ⟨txt, htx⟩ : ∃ x, s.extract (k + g) (k + g + m) = x := ⟨_, rfl⟩
            obtain ⟨pl, hpl⟩ : ∃ z : Int, ((k + g : Nat) : Int) = z := ⟨_, rfl⟩
            obtain ⟨ki, hki⟩ : ∃ z : Int, ((kd : Nat) : Int) = z := ⟨_, rfl⟩
            have hk0 : (ki == 0) = false := by rw [beq_eq_false_iff_ne]; omega
            rw [htx, hpl, hki] at ct
            have HTX := Lib.hid htx
            have HPL := Lib.hid hpl
            have HKI := Lib.hid hki
            have HTK := Lib.hid htk
            have HGP := Lib.hid hgp
            have hfew := A1.out.few
            clear htx hpl hki htk hgp
            by_cases h25 : ts.length = 2500
            · have A3 : Aside (res = .error (k + g, 5)) := by
                show _ = _
                rw [A2.out, h25, tk_full _ HGP.out (by rw [at_drop]; exact HTK.out) hkd]; rfl
              have d25 : ((ts.length : Int) == 2500) = true := by rw [beq_iff_eq]; omega
              have d25' : (ts.length == 2500) = true := by rw [beq_iff_eq]; exact h25
              clear h25 hfew
              go_wp2_with (first
                | (go_at_call 63; (with_reducible refine ct.mono ?_); rintro e w2 ⟨rfl, h2, g2⟩; have r2 := A1.out.res2 g2; have b0 : w2.cell? ⟨w.heap.size, 0, none⟩ = some (.slice p ts.length c) := Lib.cell_of_heap r2.v 0; have hlt2 : w.heap.size < w2.heap.size := (Array.getElem?_eq_some_iff.1 r2.v).1; have hown2 : w2.ownsRow (R + 1) TT 3 (.slice p ts.length c) ts.length (cellsT ts) := A1.out.own.kept g2 (.inr (fun e => ne_own A1.out.own (Nat.le_refl R) e.symm)); have HOWN := Lib.hid hown2; have H2 := Lib.hid h2; have G2 := Lib.hid g2; clear h2 g2 r2 hown2))
              have G3 : Hid (wr.grownBy (w2.alloc (.cells #[.int .i64 ki, .string txt, .int .i64 pl] TT)) (some R)) := gb_trans G2.out (gb_below ((Below.refl _ _).alloc (Nat.le_refl _) _))
              refine leaves_cons (f := 61) (args := #[.pointer (some ⟨w.heap.size, 0, none⟩), .pointer (some ⟨w.heap.size + 1, 0, none⟩), .pointer (some ⟨w.heap.size + 2, 0, none⟩)]) (by simp) (by simp [go_sem]) ?_
              refine (catch_panicking w.heap.size _ 0 0 (pl) 5 [] _ (A1.out.res2 G3.out)).mono ?_
              rintro e u' w'' ⟨rfl, rfl, hc⟩
              have e0 : w''.cell? ⟨w.heap.size, 0, none⟩ = some (.slice none 0 0) := Lib.cell_of_heap hc.1.v 0
              have e1 : w''.cell? ⟨w.heap.size + 1, 0, none⟩ = some (.int .i64 (pl)) := Lib.cell_of_heap hc.1.a 0
              have e2 : w''.cell? ⟨w.heap.size + 2, 0, none⟩ = some (.int .i64 5) := Lib.cell_of_heap hc.1.e 0
              have HC := Lib.hid (A1.out.caught G3.out hc)
              rw [A3.out]
              clear hc
              simp [Leaves, settle, results, Tryz.results38, go_sem, e0, e1, e2]
              exact ⟨by rw [← HPL.out], HC.out⟩
            · have d25 : ((ts.length : Int) == 2500) = false := by rw [beq_eq_false_iff_ne]; omega
              have d25' : (ts.length == 2500) = false := by rw [beq_eq_false_iff_ne]; exact h25
              have A3 : Aside (res = pre (ts ++ [(Tok.mk kd ((at_ s (k + g)).take m) (k + g))]) (tk (at_ s (k + g + m)) (k + g + m) (ts ++ [(Tok.mk kd ((at_ s (k + g)).take m) (k + g))]).length)) := by
                show _ = _
                rw [A2.out, tk_step k ts.length HGP.out (by rw [at_drop]; exact HTK.out) hkd h25, pre_more, at_drop, at_drop, List.length_append]
                rfl
              have hlt25 : ts.length + 1 ≤ 2500 := by omega
              have hkm : k + g + m ≤ s.size := by omega
              have hkm2 : s.size - (k + g + m) < s.size - k := by omega
              clear h25 hfew hn
              go_wp2_with (first
                | (go_at_call 63; (with_reducible refine ct.mono ?_); rintro e w2 ⟨rfl, h2, g2⟩; have r2 := A1.out.res2 g2; have b0 : w2.cell? ⟨w.heap.size, 0, none⟩ = some (.slice p ts.length c) := Lib.cell_of_heap r2.v 0; have hlt2 : w.heap.size < w2.heap.size := (Array.getElem?_eq_some_iff.1 r2.v).1; have hown2 : w2.ownsRow (R + 1) TT 3 (.slice p ts.length c) ts.length (cellsT ts) := A1.out.own.kept g2 (.inr (fun e => ne_own A1.out.own (Nat.le_refl R) e.symm)); have HOWN := Lib.hid hown2; have H2 := Lib.hid h2; have G2 := Lib.hid g2; clear h2 g2 r2 hown2)
                | (at_builtin; go_must (refine wpList_append_own _ rfl _ _ TS rfl (R + 1) TT i0 (.agg #[.int .i64 0, .string ⟨#[]⟩, .int .i64 0]) 3 32 Tryz.underlying61 hi hz0 hz1 hz2 rfl (by decide) _ _ _ rfl ((HOWN.out.alloc _).alloc _) ⟨w2.heap.size + 1, 0, none⟩ 1 1 [.int .i64 ki, .string txt, .int .i64 pl] rfl rfl (by have hn := heap_alloc_new (w2.alloc (.cells #[.int .i64 ki, .string txt, .int .i64 pl] TT)) (.cells #[.int .i64 ki, .string txt, .int .i64 pl] TT); rw [World.size_alloc] at hn; exact World.news_of_block hn) (tok_one _ _ _) (by have := A1.out.few; unfold maxLen; omega) (by have := A1.out.few; omega) (by have := H2.out.lt; have := H2.out.nR; simp only [World.size_alloc]; omega) ?_; intro v4 w4 hown4 hg4 _; obtain ⟨r4, bel4⟩ := A1.out.res4 G2.out H2.out hg4; have c0 : w4.cell? ⟨w.heap.size, 0, none⟩ = some (.slice p ts.length c) := Lib.cell_of_heap r4.v 0; have c1 : w4.cell? ⟨w.heap.size + 1, 0, none⟩ = some (.int .i64 0) := Lib.cell_of_heap r4.a 0; have c2 : w4.cell? ⟨w.heap.size + 2, 0, none⟩ = some (.int .i64 0) := Lib.cell_of_heap r4.e 0; have f0 : w4.frozen? ⟨w.heap.size, 0, none⟩ = false := Lib.frozen_of_heap r4.v 0; have f1 : w4.frozen? ⟨w.heap.size + 1, 0, none⟩ = false := Lib.frozen_of_heap r4.a 0; have f2 : w4.frozen? ⟨w.heap.size + 2, 0, none⟩ = false := Lib.frozen_of_heap r4.e 0; have R4 := Lib.hid r4; have BEL4 := Lib.hid bel4; have HOWN4 := Lib.hid hown4; have HG4 := Lib.hid hg4; obtain ⟨p4, n4, c4, hv4⟩ : ∃ p4 n4 c4, v4 = Value.slice p4 n4 c4 := (by obtain ⟨p4, c4, h⟩ := row_slice hown4; exact ⟨p4, _, c4, h⟩); subst hv4; clear r4 bel4 hown4 hg4)))
              have e3 : (.string txt : Value) = .string (ByteArray.mk ((at_ s (k + g)).take m).toArray) := by rw [← HTX.out, extract_eq, Nat.add_sub_cancel_left]
              have e4 : (.int .i64 pl : Value) = .int .i64 ((k + g : Nat) : Int) := by rw [HPL.out]
              have e5 : (.int .i64 ki : Value) = .int .i64 ((kd : Nat) : Int) := by rw [HKI.out]
              have hq := HOWN4.out
              rw [e3, e4, e5] at hq
              have HS := Lib.hid (A1.out.next (t := (Tok.mk kd ((at_ s (k + g)).take m) (k + g))) G2.out H2.out hq HG4.out hkm hlt25)
              clear hq e3 e4 e5
              go_roundg (s.size - (k + g + m))
              case measure => omega
              case rel => exact ⟨k + g + m, _, _, hkm, Nat.le_refl _, HS.out, A3.out⟩
end LxC
end Go.Proofs.YtnlbhnmiekanfaaGreatDoor
