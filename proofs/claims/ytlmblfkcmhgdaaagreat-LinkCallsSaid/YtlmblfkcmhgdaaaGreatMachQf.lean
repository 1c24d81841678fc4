/-
  What a run decodes a word to, a contract. Conditions: fewer than 4,096 words are known.
  What a run's small operations answer: the operations of words, branches, loads and stores: each a contract.
-/
import Derived.Test.YtlmblfkcmhgdaaaGreatMachQe
import Derived.Test.YtlmblfkcmhgdaaaGreatCodeQd
import Derived.Test.YtlmblfkcmhgdaaaGreatWordQ
import Derived.Test.YtlmblfkcmhgdaaaGreatRealQa
import Derived.StillTailTactics
import Derived.Deep.RegionHeld3
namespace Go.Proofs.YtlmblfkcmhgdaaaGreat
open Go.RowKit
set_option linter.unusedVariables false
set_option linter.unusedSimpArgs false
namespace MF
open MM MC MD
theorem zeroI (w : World) : (zeroValue 54).run Tryz.prog w = .ok (insV 0 0 0 0 0) w := by kernel_rfl
theorem key_of {x : Int} (hx : 0 ≤ x ∧ x < 4294967296) : keyOf Tryz.prog 46 (.int .u32 x) = some (.int .u32 x) := Maps.keyOf_int_mk Tryz.underlying46 (by simp [Lit.wf, IntKind.min, IntKind.max, IntKind.signed, IntKind.bits]; omega)
theorem look_ {w : World} {bk c : Nat} {D : DataW Unit} (K : w.ownsMap Tryz.prog 46 insR bk c D) {x : Int} (hx : 0 ≤ x ∧ x < 4294967296) (p q r s t : Int) (h : D.atKey (.int .u32 x) (insD 0 0 0 0 0) = insD p q r s t) :
    (Instr.lookup 114 (.map (some bk)) (.int .u32 x) true).run Tryz.prog w = .ok (.tuple #[.agg #[.int .i64 p, .int .i64 q, .int .i64 r, .int .i64 s, .int .i64 t], .bool (Maps.has D (.int .u32 x))]) w := by
  obtain ⟨v, ps, hrun, hv⟩ := K.look_ok keyed Tryz.underlying114 (zeroI w) (insR_mk 0 0 0 0 0) (key_of hx)
  obtain ⟨a, b', c', d, e, rfl, hz⟩ := insR_inv hv
  rw [h] at hz
  obtain ⟨rfl, rfl, rfl, rfl, rfl⟩ := insD_inj (Prod.mk.inj hz).1
  rw [hrun]; rfl
theorem fin_ {Q : Ending → World → Prop} {tmps : Array Value} {k : Nat} {w : World} {a b c d e : Int}
    (hp : tmps.getD 4 undef = .pointer (some ⟨k, 0, none⟩)) (hg : w.heap[k]? = some (.cells #[.int .i64 a, .int .i64 b, .int .i64 c, .int .i64 d, .int .i64 e] 54 (0, 0))) (hQ : Q (.returned (insV a b c d e)) w) :
    bodyPost Tryz.prog Tryz.f93 Q .ret { tmps := tmps, defers := [] } w := by
  refine bodyPost_ret (v := insV a b c d e) ?_ rfl hQ
  exact results_cell_row Tryz.results93 tmps _ k 54 _ (0, 0) _ hp hg Tryz.underlying54 rfl (by kernel_rfl)
theorem c5 {w : World} {k : Nat} {a b c d e : Value} (h : w.heap[k]? = some (.cells #[a, b, c, d, e] 54 (0, 0))) :
    (w.cell? ⟨k, 0, none⟩ = some a ∧ w.cell? ⟨k, 1, none⟩ = some b ∧ w.cell? ⟨k, 2, none⟩ = some c ∧ w.cell? ⟨k, 3, none⟩ = some d ∧ w.cell? ⟨k, 4, none⟩ = some e) ∧
    (w.frozen? ⟨k, 0, none⟩ = false ∧ w.frozen? ⟨k, 1, none⟩ = false ∧ w.frozen? ⟨k, 2, none⟩ = false ∧ w.frozen? ⟨k, 3, none⟩ = false ∧ w.frozen? ⟨k, 4, none⟩ = false) :=
  ⟨⟨cell_of_row w k 0 _ _ _ h, cell_of_row w k 1 _ _ _ h, cell_of_row w k 2 _ _ _ h, cell_of_row w k 3 _ _ _ h, cell_of_row w k 4 _ _ _ h⟩, frozen_of_row w k 0 _ _ h, frozen_of_row w k 1 _ _ h, frozen_of_row w k 2 _ _ h, frozen_of_row w k 3 _ _ h, frozen_of_row w k 4 _ _ h⟩
def set5 (w : World) (k : Nat) (p q r t u : Int) : World := ((((w.setCell ⟨k, 0, none⟩ (.int .i64 p)).setCell ⟨k, 1, none⟩ (.int .i64 q)).setCell ⟨k, 2, none⟩ (.int .i64 r)).setCell ⟨k, 3, none⟩ (.int .i64 t)).setCell ⟨k, 4, none⟩ (.int .i64 u)
theorem set5_at {w : World} {k : Nat} {a b c d e : Value} (h : w.heap[k]? = some (.cells #[a, b, c, d, e] 54 (0, 0))) (p q r t u : Int) :
    (set5 w k p q r t u).heap[k]? = some (.cells #[.int .i64 p, .int .i64 q, .int .i64 r, .int .i64 t, .int .i64 u] 54 (0, 0)) := by
  have h1 := heap_setCell_same w k 0 _ _ (.int .i64 p) h
  have h2 := heap_setCell_same _ k 1 _ _ (.int .i64 q) h1
  have h3 := heap_setCell_same _ k 2 _ _ (.int .i64 r) h2
  have h4 := heap_setCell_same _ k 3 _ _ (.int .i64 t) h3
  exact heap_setCell_same _ k 4 _ _ (.int .i64 u) h4
theorem set5_grown (w : World) (k : Nat) (p q r t u : Int) : w.grownBy (set5 w k p q r t u) (some k) := by
  have h : ∀ (w : World) (j : Nat) (v : Value), w.grownBy (w.setCell ⟨k, j, none⟩ v) (some k) := fun w j v => ⟨rfl, rfl, rfl, by simp [World.setCell], fun i _ hi => heap_setCell_other w ⟨k, j, none⟩ i v (fun e => hi (by rw [e]))⟩
  have tr : ∀ (u v w : World), u.grownBy v (some k) → v.grownBy w (some k) → u.grownBy w (some k) := fun u v w a b =>
    ⟨b.os.trans a.os, b.tape.trans a.tape, b.output.trans a.output, Nat.le_trans a.size b.size, fun i hi hn => (b.block i (Nat.lt_of_lt_of_le hi a.size) hn).trans (a.block i hi hn)⟩
  exact tr _ _ _ (tr _ _ _ (tr _ _ _ (tr _ _ _ (h w 0 _) (h _ 1 _)) (h _ 2 _)) (h _ 3 _)) (h _ 4 _)
section
variable {B br bk b bm N : Nat} {sd : List (Nat × Obj)} {w w' : World} {s s' : St} {vi ve : Value} {inp : List Int} {out : List Ev} {n c : Nat}
set_option maxHeartbeats 1000000 in
theorem decoded_hit (L : Lives B br bk b bm N sd w s vi ve inp out n c) (x : Int) (hx : 0 ≤ x ∧ x < 4294967296) (D : DataW Unit) (K : w.ownsMap Tryz.prog 46 insR bk c D) (hD : ∀ z, D.atKey (.int .u32 x) z = insD (iOp x) (iRd x) (iRs1 x) (iRs2 x) (iImm x)) (hh : Maps.has D (.int .u32 x) = true) :
    Calls Tryz.prog 93 #[.pointer (some ⟨br, 0, none⟩), .int .u32 x] w fun e w' => e = .returned (insV (iOp x) (iRd x) (iRs1 x) (iRs2 x) (iImm x)) ∧ Lives B br bk b bm N sd w' s vi ve inp out n c ∧ Own B b bm w w' := by
  have h4 := L.r4
  have hlt : br < w.heap.size := lt_of_get L.run
  have hl := fun o : Obj => look_ (K.alloc o) hx _ _ _ _ _ (hD _)
  rw [hh] at hl
  have hbig := L.big
  have HL := Lib.hid L
  clear L hD hh K
  generalize iOp x = p at *
  generalize iRd x = q at *
  generalize iRs1 x = r at *
  generalize iRs2 x = t at *
  generalize iImm x = u at *
  go_enter Tryz.func93, Tryz.ntmps93
  go_wp2
  have hb : Below w.heap.size w ((w.alloc (.cells #[.int .i64 p, .int .i64 q, .int .i64 r, .int .i64 t, .int .i64 u] 54)).alloc (.cells #[.int .i64 p, .int .i64 q, .int .i64 r, .int .i64 t, .int .i64 u] 54)) := ((Below.refl _ _).alloc (Nat.le_refl _) _).alloc (by simp) _
  exact fin_ (k := w.heap.size) rfl (heap_alloc2_old w _ _) ⟨rfl, HL.out.below hb, Own.of_below hb (by omega)⟩
/-- what leaves all but the map alone -/
theorem Lives.turned (L : Lives B br bk b bm N sd w s vi ve inp out n c) {c' : Nat} (hs : w.heap.size ≤ w'.heap.size) (hb : ∀ k, k < w.heap.size → k ≠ bk → w'.heap[k]? = w.heap[k]?) (hk : Known w' bk c') : Lives B br bk b bm N sd w' s vi ve inp out n c' := by
  have hp := L.pl
  have hg := L.big
  refine ⟨L.at_.kept (hb b (by omega) (by omega)) (hb bm (by omega) (by omega)), (hb br (by omega) (by omega)).trans L.run, L.inp.kept fun k hk _ _ => hb k (by omega) (by omega), ?_, hk, by omega, hp, fun p h => ⟨(hb _ (lt_of_get (L.side p h).1) (L.side p h).2.2.2.2.1).trans (L.side p h).1, (L.side p h).2⟩⟩
  obtain ⟨h1, h2⟩ := L.ev
  refine ⟨h1, ?_⟩
  rcases h2 with h2 | ⟨g, cap, cur, hv, hg', hh, r⟩
  · exact .inl h2
  · exact .inr ⟨g, cap, cur, hv, hg', (hb g (lt_of_get hh) (by omega)).trans hh, r⟩
theorem known_put {D : DataW Unit} {x : Int} (K : w.ownsMap Tryz.prog 46 insR bk c D) (K' : w'.ownsMap Tryz.prog 46 insR bk (c + 1) (D.put (.int .u32 x) (insD (iOp x) (iRd x) (iRs1 x) (iRs2 x) (iImm x))))
    (hD : ∀ x, Maps.has D (.int .u32 x) = true → CM.dec x ≠ 0 ∧ ∀ z, D.atKey (.int .u32 x) z = insD (iOp x) (iRd x) (iRs1 x) (iRs2 x) (iImm x)) (h0 : CM.dec x ≠ 0) (hx : 0 ≤ x ∧ x < 4294967296) : Known w' bk (c + 1) := by
  refine ⟨_, K', fun y hy => ?_⟩
  have hm : Maps.IsMap D := K.isMap
  have hl : WideAt.IsKeyLit (Lit.int .u32 x) := trivial
  by_cases e : y = x
  · subst e
    exact ⟨h0, fun z => Maps.atKey_put_same hm hl _ z⟩
  · have hne : (Lit.int .u32 y) ≠ Lit.int .u32 x := fun h => by injection h with _ h2; exact e h2
    rw [Maps.has_put_other hne] at hy
    refine ⟨(hD y hy).1, fun z => ?_⟩
    rw [Maps.atKey_put_other hne]
    exact (hD y hy).2 z
set_option maxHeartbeats 1000000 in
theorem decoded_yes (L : Lives B br bk b bm N sd w s vi ve inp out n c) (hc : c < 4096) (x : Int) (hx : 0 ≤ x ∧ x < 4294967296) (h0 : CM.dec x ≠ 0) (D : DataW Unit) (K : w.ownsMap Tryz.prog 46 insR bk c D) (hh : Maps.has D (.int .u32 x) = false)
    (hD : ∀ x, Maps.has D (.int .u32 x) = true → CM.dec x ≠ 0 ∧ ∀ z, D.atKey (.int .u32 x) z = insD (iOp x) (iRd x) (iRs1 x) (iRs2 x) (iImm x)) :
    Calls Tryz.prog 93 #[.pointer (some ⟨br, 0, none⟩), .int .u32 x] w fun e w' => e = .returned (insV (iOp x) (iRd x) (iRs1 x) (iRs2 x) (iImm x)) ∧ Lives B br bk b bm N sd w' s vi ve inp out n (c + 1) ∧ Own B b bm w w' := by
  have h4 := L.r4
  have hlt : br < w.heap.size := lt_of_get L.run
  have hl := fun o : Obj => look_ (K.alloc o) hx 0 0 0 0 0 (Maps.atKey_of_not_has hh _)
  rw [hh] at hl
  have hbig := L.big
  have HL := Lib.hid L
  have HD := Lib.hid hD
  have HK := Lib.hid K
  have HH := Lib.hid hh
  have hsz := K.size_le
  clear L hD hh K
  have cd := fun w => CD.decode_ x hx.1 hx.2 w
  rw [show CD.dE x = 0 by unfold CD.dE; rw [if_neg h0]] at cd
  unfold CW.iv at cd
  have e1 := Lib.hid (show CD.dOp x = iOp x from rfl)
  have e2 := Lib.hid (show CD.dRd x = iRd x from rfl)
  have e3 := Lib.hid (show CD.dRs1 x = iRs1 x from rfl)
  have e4 := Lib.hid (show CD.dRs2 x = iRs2 x from rfl)
  have e5 := Lib.hid (show CD.dImm x = iImm x from rfl)
  rw [e1.out, e2.out, e3.out, e4.out, e5.out] at cd
  clear e1 e2 e3 e4 e5
  have HP := Lib.hid (show ∀ z, z = insD (iOp x) (iRd x) (iRs1 x) (iRs2 x) (iImm x) → z = insD (iOp x) (iRd x) (iRs1 x) (iRs2 x) (iImm x) from fun _ h => h)
  have hnew := Lib.hid (show CM.dec x ≠ 0 from h0)
  clear h0
  have hne : (Maps.size D == 4096) = false := by simp; omega
  have hne' : ((Maps.size D : Int) == 4096) = false := by simp; omega
  go_enter Tryz.func93, Tryz.ntmps93
  go_wp2_with (first
    | (go_at_call 116; (with_reducible refine (cd _).mono ?_); rintro e w2 ⟨rfl, hb2⟩; have h42 : w2.cell? ⟨br, 4, none⟩ = some (.map (some bk)) := (hb2.cell (p := ⟨br, 4, none⟩) (by simp only [World.size_alloc]; omega)).trans (by go_simp); have K2 := (((HK.out.alloc _).alloc _).kept (CD.grown_of hb2) (by simp)); have KH := Lib.hid K2; have hlt2 : br < w2.heap.size := (by have := hb2.size; simp only [World.size_alloc] at this; omega); clear K2 h4 hl)
    | (at_len; refine wpList_len_own _ rfl _ 114 rfl 46 54 Tryz.underlying114 insR bk c D rfl (KH.out.alloc _) ?_))
  have s2 := hb2.size
  simp only [World.size_alloc] at s2
  obtain ⟨w3, hrun, hown3, hgrow3⟩ := ((KH.out.alloc (.cells #[.int .i64 (iOp x), .int .i64 (iRd x), .int .i64 (iRs1 x), .int .i64 (iRs2 x), .int .i64 (iImm x)] 54)).drew).update keyed Tryz.underlying114 (show c < maxLen by unfold maxLen; omega) (key_of hx) (insR_mk (iOp x) (iRd x) (iRs1 x) (iRs2 x) (iImm x))
  unfold insV at hrun
  have g2 : w3.heap[w2.heap.size]? = some (.cells #[.int .i64 (iOp x), .int .i64 (iRd x), .int .i64 (iRs1 x), .int .i64 (iRs2 x), .int .i64 (iImm x)] 54 (0, 0)) :=
    (hgrow3.block _ (by simp) (by have := KH.out.lt; simp; omega)).trans (heap_alloc_new w2 _)
  have g1 : w3.heap[w.heap.size]? = some (.cells #[.int .i64 0, .int .i64 0, .int .i64 0, .int .i64 0, .int .i64 0] 54 (0, 0)) := by
    rw [hgrow3.block _ (by simp; omega) (by have := HK.out.lt; simp; omega)]
    show (w2.alloc _).heap[w.heap.size]? = _
    rw [Below.heap_alloc _ _ _ (by omega), hb2.block _ (by simp only [World.size_alloc]; omega)]
    exact heap_alloc2_old w _ _
  obtain ⟨⟨a0, a1, a2, a3, a4⟩, b0, b1, b2, b3, b4⟩ := c5 g1
  obtain ⟨⟨p0, p1, p2, p3, p4⟩, -⟩ := c5 g2
  have G1 := Lib.hid g1
  clear g1 g2
  go_region
  all_goals
    go_wp2
    have hgs := set5_grown w3 w.heap.size (iOp x) (iRd x) (iRs1 x) (iRs2 x) (iImm x)
    have hlk := HK.out.lt
    have K4 := hown3.kept hgs (fun e => by injection e with e; omega)
    have s3 := hgrow3.size
    simp only [World.size_drew, World.size_alloc] at s3
    have s4 := hgs.size
    have hblk : ∀ k, k < w.heap.size → k ≠ bk → (set5 w3 w.heap.size (iOp x) (iRd x) (iRs1 x) (iRs2 x) (iImm x)).heap[k]? = w.heap[k]? := fun k h1 h2 => by
      rw [hgs.block k (by omega) (fun e => by injection e with e; omega), hgrow3.block k (by simp only [World.size_drew, World.size_alloc]; omega) (fun e => by injection e with e; exact h2 e)]
      show (w2.alloc _).heap[k]? = _
      rw [Below.heap_alloc _ _ _ (by omega), hb2.block _ (by simp only [World.size_alloc]; omega), Below.heap_alloc _ _ _ (by simp only [World.size_alloc]; omega), Below.heap_alloc _ _ _ h1]
    refine fin_ (w := set5 w3 w.heap.size (iOp x) (iRd x) (iRs1 x) (iRs2 x) (iImm x)) (k := w.heap.size) rfl (set5_at G1.out _ _ _ _ _) ⟨rfl, ?_, ?_⟩
    · exact Lives.turned HL.out (by omega) hblk (known_put HK.out K4 HD.out hnew.out hx)
    · have hp := HL.out.pl
      exact ⟨(hgs.os.trans hgrow3.os).trans hb2.os, (hgs.tape.trans hgrow3.tape).trans hb2.tape, (hgs.output.trans hgrow3.output).trans hb2.output, by omega, fun k h1 _ _ => hblk k (by omega) (by omega)⟩
/-- any word that is an instruction's -/
theorem decoded_ok (L : Lives B br bk b bm N sd w s vi ve inp out n c) (hc : c < 4096) (x : Int) (hx : 0 ≤ x ∧ x < 4294967296) (h0 : CM.dec x ≠ 0) :
    Calls Tryz.prog 93 #[.pointer (some ⟨br, 0, none⟩), .int .u32 x] w fun e w' => e = .returned (insV (iOp x) (iRd x) (iRs1 x) (iRs2 x) (iImm x)) ∧ Lives B br bk b bm N sd w' s vi ve inp out n (c + 1) ∧ Own B b bm w w' := by
  obtain ⟨D, K, hD⟩ := L.known
  cases hh : Maps.has D (.int .u32 x) with
  | true =>
    refine (decoded_hit L x hx D K (hD x hh).2 hh).mono ?_
    rintro e w' ⟨rfl, L1, O1⟩
    obtain ⟨D', K', hD'⟩ := L1.known
    exact ⟨rfl, Lives.turned L1 (Nat.le_refl _) (fun _ _ _ => rfl) ⟨D', K'.mono (Nat.le_succ _), hD'⟩, O1⟩
  | false => exact decoded_yes L hc x hx h0 D K hh hD
end
end MF
end Go.Proofs.YtlmblfkcmhgdaaaGreat
namespace Go.Proofs.YtlmblfkcmhgdaaaGreat
open Go.RowKit
set_option linter.unusedVariables false
set_option linter.unusedSimpArgs false
namespace MG
attribute [local go_sem ↓] Go.wp_at_zero Go.wp_at_succ
open MM MC MD
theorem reckoned_ (op a b : Int) (ho : WM.isOp op = true) (ha : WM.Ok a) (hb : WM.Ok b) (w : World) : Calls Tryz.prog 114 #[.int .i64 op, .int .u32 a, .int .u32 b] w fun e w' => e = .returned (.int .u32 (WM.val op a b)) ∧ w' = w := by
  have c := fun w => WC.do_yes op a b ho ha hb w
  generalize WM.val op a b = v at *
  clear ho ha hb
  go_enter Tryz.func114, Tryz.ntmps114
  go_wp2_with (go_at_call 137; (with_reducible refine (c _).mono ?_); rintro e w1 ⟨rfl, rfl⟩)
  go_ret
  exact ⟨rfl, rfl⟩
theorem withoutImm_ (op : Int) (h1 : 18 ≤ op) (h2 : op ≤ 26) (w : World) : Calls Tryz.prog 115 #[.int .i64 op] w fun e w' => e = .returned (.int .i64 (plainOp op)) ∧ w' = w := by
  rcases (show op = 18 ∨ op = 19 ∨ op = 20 ∨ op = 21 ∨ op = 22 ∨ op = 23 ∨ op = 24 ∨ op = 25 ∨ op = 26 by omega) with rfl | rfl | rfl | rfl | rfl | rfl | rfl | rfl | rfl
  all_goals
    clear h1 h2
    go_enter Tryz.func115, Tryz.ntmps115
    go_wp2
    go_ret
    exact ⟨rfl, rfl⟩
/-! ### loads -/
theorem fit_lt {N : Nat} {a n : Int} (h : fit N a n = true) (ha : 0 ≤ a) (hn : 0 ≤ n) : a.toNat + n.toNat ≤ N := by
  have h' : a % n = 0 ∧ a + n ≤ N := by simpa [fit] using h
  omega
section
variable {B br bk b bm N : Nat} {sd : List (Nat × Obj)} {w w' : World} {s s' : St} {vi ve : Value} {inp : List Int} {out : List Ev} {n c : Nat}
/-- the number at a place -/
theorem num_at (L : Lives B br bk b bm N sd w s vi ve inp out n c) (hs : Fine s) (a : Nat) (m cc : Nat) (hm : m ≤ 8) (ha : a + m ≤ N) :
    Calls Tryz.prog 90 #[.slice (some ⟨bm, a, none⟩) m cc] w fun e w' => e = .returned (.int .u64 (num s.mem a m)) ∧ w' = w :=
  (number_ bm a m cc s.mem hs.mem hm w (fun k hk => L.at_.cm (i := a + k) (by omega))).mono fun _ _ h => ⟨h.1, h.2.symm⟩
theorem bytes_at (L : Lives B br bk b bm N sd w s vi ve inp out n c) (hN : N ≤ 2097152) (a m : Int) (ha : 0 ≤ a ∧ a ≤ 4294967295) (hm : 1 ≤ m ∧ m ≤ 8) (hf : fit N a m = true) :
    Calls Tryz.prog 91 #[.pointer (some ⟨br, 0, none⟩), .int .u32 a, .int .i64 m] w fun e w' => e = .returned (.slice (some ⟨bm, a.toNat, none⟩) m.toNat (N - a.toNat)) ∧ w' = w :=
  (bytes_yes br b bm N hN a m ha hm hf w L.r0 L.at_.c0).mono fun _ _ h => ⟨h.1, h.2.symm⟩
theorem Lives.box (L : Lives B br bk b bm N sd w s vi ve inp out n c) (o : Obj) : Lives B br bk b bm N sd (w.alloc o) s vi ve inp out n c := Lives.below L ((Below.refl _ _).alloc (Nat.le_refl _) _)
theorem Lives.drew (L : Lives B br bk b bm N sd w s vi ve inp out n c) : Lives B br bk b bm N sd w.drew s vi ve inp out n c := Lives.kept L (Nat.le_refl _) (fun _ _ => rfl)
theorem own_box (hB : B ≤ w.heap.size) (o : Obj) : Own B b bm w (w.alloc o) := Own.of_below ((Below.refl _ _).alloc (Nat.le_refl _) _) hB
theorem own_drew {u : World} (h : Own B b bm u w) : Own B b bm u w.drew := ⟨h.os, h.tape, h.output, h.size, h.block⟩
end
/-! ### by kinds -/
section
variable {B br bk b bm N : Nat} {sd : List (Nat × Obj)} {w w' : World} {s s' : St} {vi ve : Value} {inp : List Int} {out : List Ev} {n c : Nat}
set_option maxRecDepth 100000 in
set_option maxHeartbeats 2000000 in
theorem load_29 (L : Lives B br bk b bm N sd w s vi ve inp out n c) (hs : Fine s) (hN : N ≤ 2097152) (rd : Nat) (hr : rd < 32) (r1 r2 im : Int) (a : Int) (ha : 0 ≤ a ∧ a ≤ 4294967295) (hf : fit N a 4 = true) :
    Calls Tryz.prog 108 #[.pointer (some ⟨br, 0, none⟩), .agg #[.int .i64 29, .int .i64 rd, .int .i64 r1, .int .i64 r2, .int .i64 im], .int .u32 a] w fun e w' => e = .returned (.tuple #[]) ∧ Lives B br bk b bm N sd w' (setx s rd (num s.mem a.toNat 4)) vi ve inp out n c ∧ Own B b bm w w' := by
  have LB := Lives.drew (Lives.box L (.cells #[.int .i64 29, .int .i64 rd, .int .i64 r1, .int .i64 r2, .int .i64 im] 54))
  have hB := L.big
  have c1 := bytes_at LB hN a 4 ha (by omega) hf
  have c2 := fun cc => num_at LB hs a.toNat 4 cc (by omega) (fit_lt hf ha.1 (by omega))
  have hn := num4 s.mem hs.mem a.toNat
  rw [show (4 : Int).toNat = 4 from rfl] at c1
  have c4 := put_ LB rd hr (num s.mem a.toNat 4)
  clear L LB hs hf ha
  generalize num s.mem a.toNat 4 = M at *
  go_enter Tryz.func108, Tryz.ntmps108
  go_wp2
  refine wp_region_still_tail 8 (by kernel_rfl) (by kernel_rfl) ?_
  simp only [List.take_succ_cons, List.take_zero, List.drop_succ_cons, List.drop_zero]
  change wpStill _ _ ((w.alloc (.cells #[.int .i64 29, .int .i64 rd, .int .i64 r1, .int .i64 r2, .int .i64 im] 54)).drew) _ _ _
  repeat still_step
  still_call c1
  repeat still_step
  still_call (c2 _)
  repeat still_step
  refine wpStill_nil ?_
  change wpList _ _ _ _ _ ((w.alloc (.cells #[.int .i64 29, .int .i64 rd, .int .i64 r1, .int .i64 r2, .int .i64 im] 54)).drew)
  go_wp2_with (go_at_call 111; (with_reducible refine c4.mono ?_); rintro e w1 ⟨rfl, L1, O1⟩)
  go_end0
  exact ⟨rfl, L1, (own_drew (own_box (by omega) _)).trans O1⟩
end
end MG
end Go.Proofs.YtlmblfkcmhgdaaaGreat
