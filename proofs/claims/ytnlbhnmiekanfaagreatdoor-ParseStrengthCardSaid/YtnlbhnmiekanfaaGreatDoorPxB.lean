/-
  ParF ParG ParH ParI ParJ, joined.
  Conditions: those that are written at each.
-/
import Derived.Test.YtnlbhnmiekanfaaGreatDoorPxA
import Derived.Test.YtnlbhnmiekanfaaGreatDoorLexU
/-
  The parser: numbers and lengths. Condition: what the parser holds lies in memory.
-/
namespace Go.Proofs.YtnlbhnmiekanfaaGreatDoor
open Go.RowKit
set_option linter.unusedVariables false
set_option linter.unusedSimpArgs false
namespace PaC
open Pa Lx
variable {N : Nat}
attribute [local go_sem] fld0 fld1 fld2
variable {Rl : Bs → Prop}
theorem want_bad {ts : List Tok} {signs : List Bs} (h : Pa.sees ts signs = false) : Pa.want ts signs = .bad (hd ts).place 11 := by rw [Pa.want, if_neg (by rw [h]; decide)]
theorem want_ok {ts : List Tok} {signs : List Bs} (h : Pa.sees ts signs = true) : Pa.want ts signs = .ok (hd ts).text ts.tail := by rw [Pa.want, if_pos h]
theorem isInt_val {t : Bs} (h : isInt t = true) : val t ≤ 4294967295 ∧ t.length ≤ 10 := by
  unfold isInt at h
  rw [Bool.and_eq_true] at h
  exact ⟨of_decide_eq_true h.2, of_decide_eq_true h.1⟩
set_option maxRecDepth 100000 in
set_option maxHeartbeats 4000000 in
theorem number_ (w : World) {t : Bs} (h : isInt t = true) (hd : ∀ b ∈ t, digit b = true) (h0 : t ≠ []) :
    Calls Tryz.prog 141 #[.string ⟨t.toArray⟩] w fun e w' => e = .returned (.int .u32 (val t : Int)) ∧ Below w.heap.size w w' := by
  obtain ⟨h1, h2⟩ := isInt_val h
  have hp : Lib.parseUintM 4294967295 0 t = .ok (val t) := by
    rw [LxC.parse_digits t 0 (by omega) hd]
    exact if_pos h1
  have hsz : (⟨t.toArray⟩ : ByteArray).size = t.length := by simp [ByteArray.size]
  have hl : t.length ≠ 0 := fun e => h0 (List.length_eq_zero_iff.1 e)
  have c := LxC.parseUint_ok ⟨t.toArray⟩ w (by omega) (by omega) (val t) hp
  have hw : (val t : Int) % 4294967296 = (val t : Int) := by omega
  generalize val t = n at *
  clear h hd h0 hp hsz hl h2
  go_enter Tryz.func141, Tryz.ntmps141
  go_wp2_with (go_at_call 172; (with_reducible refine c.mono ?_); rintro e w' ⟨rfl, hw⟩; have HW := Lib.hid hw; clear hw)
  go_ret
  exact ⟨rfl, HW.out⟩
set_option maxRecDepth 100000 in
set_option maxHeartbeats 4000000 in
theorem length_kind {w : World} {G d : Nat} {t : Tok} {r : List Tok} (h : PAt N w G (t :: r) d) (hk : t.kind ≠ 2) :
    Calls Tryz.prog 97 #[ptr G] w (BadPost G (t.place : Int) 11 w) := by
  have c1 := next_ h
  have c2 : ∀ W, Below w.heap.size w W → Calls Tryz.prog 137 #[ptr G, .bool false, .int .i64 11] W (BadPost G (t.place : Int) 11 W) := fun W hW => demand_no (h.below hW) 11
  have B1 : ((t.kind : Int) == 2) = false := by rw [beq_eq_false_iff_ne]; omega
  clear h hk
  go_enter Tryz.func97, Tryz.ntmps97
  go_wp2_with (first
    | ((with_reducible refine c1.mono ?_); rintro e w1 ⟨rfl, hb1⟩; have c3 := c2 w1 hb1; have HB1 := Lib.hid hb1; clear hb1 c1 c2)
    | ((with_reducible refine c3.mono ?_); rintro e w2 ⟨rfl, hp2, hk2⟩; have HP2 := Lib.hid hp2; have HK2 := Lib.hid hk2; clear hp2 hk2 c3))
  exact ⟨rfl, rfl, HP2.out, (Keep.of HB1.out).trans HK2.out⟩
theorem Below.two {a b c : World} (h : Below a.heap.size a b) (k : Below b.heap.size b c) : Below a.heap.size a c := h.trans (k.mono h.size)
set_option maxRecDepth 100000 in
set_option maxHeartbeats 4000000 in
theorem length_far {w : World} {G d : Nat} {t : Tok} {r : List Tok} (h : PAt N w G (t :: r) d) (hk : t.kind = 2) (hi : isInt t.text = true) (hd : ∀ b ∈ t.text, digit b = true) (h0 : t.text ≠ []) (hn : ¬ (1 ≤ val t.text ∧ val t.text ≤ 1000)) :
    Calls Tryz.prog 97 #[ptr G] w (BadPost G (t.place : Int) 1 w) := by
  have c1 := next_ h
  have c2 : ∀ W, Below w.heap.size w W → Calls Tryz.prog 64 #[ptr G] W (TokPost t W) := fun W hW => next_ (h.below hW)
  have cn : ∀ W, Calls Tryz.prog 141 #[.string ⟨t.text.toArray⟩] W fun e w' => e = .returned (.int .u32 (val t.text : Int)) ∧ Below W.heap.size W w' := fun W => number_ W hi hd h0
  have B1 : ((t.kind : Int) == 2) = true := by rw [beq_iff_eq]; omega
  have cb : ∀ W, Below w.heap.size w W → Calls Tryz.prog 137 #[ptr G, .bool false, .int .i64 1] W (BadPost G (t.place : Int) 1 W) := fun W hW => demand_no (h.below hW) 1
  generalize val t.text = n at *
  clear h hk hi hd h0
  go_enter Tryz.func97, Tryz.ntmps97
  go_wp2_with (first
    | ((with_reducible refine c1.mono ?_); rintro e w1 ⟨rfl, hb1⟩; have c3 := c2 w1 hb1; have HB1 := Lib.hid hb1; clear hb1 c1 c2)
    | ((with_reducible refine (demand_yes G 11 _).mono ?_); rintro e w2 ⟨rfl, rfl⟩)
    | ((with_reducible refine c3.mono ?_); rintro e w3 ⟨rfl, hb3⟩; have HB3 := Lib.hid (Below.two HB1.out hb3); clear hb3 c3)
    | ((with_reducible refine (cn _).mono ?_); rintro e w4 ⟨rfl, hb4⟩; have hbb := Below.two HB3.out hb4; have HB4 := Lib.hid hbb; have c5 := cb w4 hbb; clear hb4 hbb cn cb)
    | ((with_reducible refine c5.mono ?_); rintro e w5 ⟨rfl, hp5, hk5⟩; have HP5 := Lib.hid hp5; have HK5 := Lib.hid hk5; clear hp5 hk5 c5)
    | (rw [show decide ((n : Int) ≤ 1000) = false from decide_eq_false (by omega)]; (with_reducible refine c5.mono ?_); rintro e w5 ⟨rfl, hp5, hk5⟩; have HP5 := Lib.hid hp5; have HK5 := Lib.hid hk5; clear hp5 hk5 c5))
  all_goals exact ⟨rfl, rfl, HP5.out, (Keep.of HB4.out).trans HK5.out⟩
set_option maxRecDepth 100000 in
set_option maxHeartbeats 4000000 in
theorem length_open {w : World} {G d : Nat} {t u : Tok} {r : List Tok} (h : PAt N w G (t :: u :: r) d) (hk : t.kind = 2) (hi : isInt t.text = true) (hd : ∀ b ∈ t.text, digit b = true) (h0 : t.text ≠ []) (hn : 1 ≤ val t.text ∧ val t.text ≤ 1000) (hx : Pa.sees (u :: r) [[93]] = false) :
    Calls Tryz.prog 97 #[ptr G] w (BadPost G (u.place : Int) 11 w) := by
  have c1 := next_ h
  have c2 : ∀ W, Below w.heap.size w W → Calls Tryz.prog 64 #[ptr G] W (TokPost t W) := fun W hW => next_ (h.below hW)
  have cn : ∀ W, Calls Tryz.prog 141 #[.string ⟨t.text.toArray⟩] W fun e w' => e = .returned (.int .u32 (val t.text : Int)) ∧ Below W.heap.size W w' := fun W => number_ W hi hd h0
  have B1 : ((t.kind : Int) == 2) = true := by rw [beq_iff_eq]; omega
  have cb : ∀ W, Below w.heap.size w W → Calls Tryz.prog 135 #[ptr G] W (ReadPost N G d t (u :: r) W) := fun W hW => read_ (h.below hW)
  have cw : ∀ W, PAt N W G (u :: r) d → Calls Tryz.prog 95 #[ptr G, .slice (some ⟨W.heap.size, 0, none⟩) 1 1] (W.alloc (.cells #[.string ⟨#[93]⟩] 9)) (BadPost G (u.place : Int) 11 W) := fun W hW => (want_no (c := 1) (n := 1) (hW.below ((Below.refl _ _).alloc (Nat.le_refl _) _)) (signs1 (x := [93]) (heap_alloc_new W _)) rfl (by omega) (by simp) hx).mono fun e w' h => ⟨h.1, h.2.1, (Keep.of ((Below.refl _ _).alloc (Nat.le_refl _) _)).trans h.2.2⟩
  generalize val t.text = n at *
  clear h hk hi hd h0
  go_enter Tryz.func97, Tryz.ntmps97
  go_wp2_with (first
    | ((with_reducible refine c1.mono ?_); rintro e w1 ⟨rfl, hb1⟩; have c3 := c2 w1 hb1; have HB1 := Lib.hid hb1; clear hb1 c1 c2)
    | ((with_reducible refine (demand_yes G 11 _).mono ?_); rintro e w2 ⟨rfl, rfl⟩)
    | ((with_reducible refine (demand_yes G 1 _).mono ?_); rintro e w2 ⟨rfl, rfl⟩)
    | ((with_reducible refine c3.mono ?_); rintro e w3 ⟨rfl, hb3⟩; have HB3 := Lib.hid (Below.two HB1.out hb3); clear hb3 c3)
    | ((with_reducible refine (cn _).mono ?_); rintro e w4 ⟨rfl, hb4⟩; have hbb := Below.two HB3.out hb4; have HB4 := Lib.hid hbb; have c5 := cb w4 hbb; clear hb4 hbb cn cb)
    | (rw [show decide ((n : Int) ≤ 1000) = true from decide_eq_true (by omega)]; (with_reducible refine (demand_yes G 1 _).mono ?_); rintro e w2 ⟨rfl, rfl⟩)
    | ((with_reducible refine c5.mono ?_); rintro e w5 ⟨rfl, hp5, hk5⟩; have c6 := cw w5 hp5; have HK5 := Lib.hid hk5; clear hp5 hk5 c5 cw)
    | ((with_reducible refine c6.mono ?_); rintro e w6 ⟨rfl, hp6, hk6⟩; have HP6 := Lib.hid hp6; have HK6 := Lib.hid hk6; clear hp6 hk6 c6)
    | (exfalso; omega))
  all_goals exact ⟨rfl, rfl, HP6.out, ((Keep.of HB4.out).trans HK5.out).trans HK6.out⟩
set_option maxRecDepth 100000 in
set_option maxHeartbeats 4000000 in
theorem length_shut {w : World} {G d : Nat} {t u v : Tok} {r : List Tok} (h : PAt N w G (t :: u :: v :: r) d) (hk : t.kind = 2) (hi : isInt t.text = true) (hd : ∀ b ∈ t.text, digit b = true) (h0 : t.text ≠ []) (hn : 1 ≤ val t.text ∧ val t.text ≤ 1000) (hx : Pa.sees (u :: v :: r) [[93]] = true) :
    Calls Tryz.prog 97 #[ptr G] w (OkPost N G d (.int .i64 (val t.text : Int)) (v :: r) w) := by
  have c1 := next_ h
  have c2 : ∀ W, Below w.heap.size w W → Calls Tryz.prog 64 #[ptr G] W (TokPost t W) := fun W hW => next_ (h.below hW)
  have cn : ∀ W, Calls Tryz.prog 141 #[.string ⟨t.text.toArray⟩] W fun e w' => e = .returned (.int .u32 (val t.text : Int)) ∧ Below W.heap.size W w' := fun W => number_ W hi hd h0
  have B1 : ((t.kind : Int) == 2) = true := by rw [beq_iff_eq]; omega
  have cb : ∀ W, Below w.heap.size w W → Calls Tryz.prog 135 #[ptr G] W (ReadPost N G d t (u :: v :: r) W) := fun W hW => read_ (h.below hW)
  have cw : ∀ W, PAt N W G (u :: v :: r) d → Calls Tryz.prog 95 #[ptr G, .slice (some ⟨W.heap.size, 0, none⟩) 1 1] (W.alloc (.cells #[.string ⟨#[93]⟩] 9)) (OkPost N G d (.string ⟨u.text.toArray⟩) (v :: r) W) := fun W hW => (want_yes (c := 1) (n := 1) (hW.below ((Below.refl _ _).alloc (Nat.le_refl _) _)) (signs1 (x := [93]) (heap_alloc_new W _)) rfl (by omega) (by simp) hx).mono fun e w' h => ⟨h.1, h.2.1, (Keep.of ((Below.refl _ _).alloc (Nat.le_refl _) _)).trans h.2.2⟩
  generalize val t.text = n at *
  clear h hk hi hd h0
  go_enter Tryz.func97, Tryz.ntmps97
  go_wp2_with (first
    | ((with_reducible refine c1.mono ?_); rintro e w1 ⟨rfl, hb1⟩; have c3 := c2 w1 hb1; have HB1 := Lib.hid hb1; clear hb1 c1 c2)
    | ((with_reducible refine (demand_yes G 11 _).mono ?_); rintro e w2 ⟨rfl, rfl⟩)
    | ((with_reducible refine (demand_yes G 1 _).mono ?_); rintro e w2 ⟨rfl, rfl⟩)
    | ((with_reducible refine c3.mono ?_); rintro e w3 ⟨rfl, hb3⟩; have HB3 := Lib.hid (Below.two HB1.out hb3); clear hb3 c3)
    | ((with_reducible refine (cn _).mono ?_); rintro e w4 ⟨rfl, hb4⟩; have hbb := Below.two HB3.out hb4; have HB4 := Lib.hid hbb; have c5 := cb w4 hbb; clear hb4 hbb cn cb)
    | (rw [show decide ((n : Int) ≤ 1000) = true from decide_eq_true (by omega)]; (with_reducible refine (demand_yes G 1 _).mono ?_); rintro e w2 ⟨rfl, rfl⟩)
    | ((with_reducible refine c5.mono ?_); rintro e w5 ⟨rfl, hp5, hk5⟩; have c6 := cw w5 hp5; have HK5 := Lib.hid hk5; clear hp5 hk5 c5 cw)
    | ((with_reducible refine c6.mono ?_); rintro e w6 ⟨rfl, hp6, hk6⟩; have HP6 := Lib.hid hp6; have HK6 := Lib.hid hk6; clear hp6 hk6 c6)
    | (exfalso; omega))
  all_goals first
    | omega
    | (go_ret; exact ⟨rfl, HP6.out, ((Keep.of HB4.out).trans HK5.out).trans HK6.out⟩)
    | trace_state
/-- a length, as the model says -/
theorem length_ {w : World} {G d : Nat} {ts : List Tok} (h : PAt N w G ts d) (hg : Good Rl ts) : Calls Tryz.prog 97 #[ptr G] w (NatPost N G d .i64 (pLength ts) w) ∧ ∀ a r, pLength ts = .ok a r → Good Rl r := by
  obtain ⟨t, l, rfl⟩ := hg.ne
  by_cases hk : t.kind = 2
  · obtain ⟨u, r, rfl, hg2⟩ := hg.tail (.inl (by omega))
    have hd' := hg.2.2.1 hk
    have h0 := hg.2.1
    by_cases hn : 1 ≤ val t.text ∧ val t.text ≤ 1000
    · cases hx : Pa.sees (u :: r) [[93]] with
      | false =>
        have e : pLength (t :: u :: r) = .bad u.place 11 := by
          rw [pLength, if_pos (show (hd (t :: u :: r)).kind = 2 from hk), if_pos (show 1 ≤ val (hd (t :: u :: r)).text ∧ val (hd (t :: u :: r)).text ≤ 1000 from hn), want_bad (ts := (t :: u :: r).tail) hx]; rfl
        rw [e]
        exact ⟨length_open h hk hd'.1 hd'.2 h0 hn hx, fun a r e => by cases e⟩
      | true =>
        obtain ⟨v, r', rfl, hg3⟩ := hg2.sees (by decide) hx
        have e : pLength (t :: u :: v :: r') = .ok (val t.text) (v :: r') := by
          rw [pLength, if_pos (show (hd (t :: u :: v :: r')).kind = 2 from hk), if_pos (show 1 ≤ val (hd (t :: u :: v :: r')).text ∧ val (hd (t :: u :: v :: r')).text ≤ 1000 from hn), want_ok (ts := (t :: u :: v :: r').tail) hx]; rfl
        rw [e]
        exact ⟨length_shut h hk hd'.1 hd'.2 h0 hn hx, fun a r e => by cases e; exact hg3⟩
    · have e : pLength (t :: u :: r) = .bad t.place 1 := by
        rw [pLength, if_pos (show (hd (t :: u :: r)).kind = 2 from hk), if_neg (show ¬ (1 ≤ val (hd (t :: u :: r)).text ∧ val (hd (t :: u :: r)).text ≤ 1000) from hn)]; rfl
      rw [e]
      exact ⟨length_far h hk hd'.1 hd'.2 h0 hn, fun a r e => by cases e⟩
  · have e : pLength (t :: l) = .bad t.place 11 := by
      rw [pLength, if_neg (show ¬ (hd (t :: l)).kind = 2 from hk)]; rfl
    rw [e]
    exact ⟨length_kind h hk, fun a r e => by cases e⟩
end PaC
end Go.Proofs.YtnlbhnmiekanfaaGreatDoor
/-
  The parser: what has two operands. Condition: the operands lie in memory.
-/
namespace Go.Proofs.YtnlbhnmiekanfaaGreatDoor
open Go.RowKit
set_option linter.unusedVariables false
set_option linter.unusedSimpArgs false
namespace PaC
open Pa Lx
variable {N : Nat}
abbrev TE : TypeId := 41
/-- an expression's eight cells -/
abbrev ex8 (k : Int) (op nm : ByteArray) (n b : Int) (kv : Value) (t p : Int) : Array Value := #[.int .i64 k, .string op, .string nm, .int .u32 n, .int .u64 b, kv, .int .i64 t, .int .i64 p]
theorem load_ex {w : World} {B : Nat} {k n b t p : Int} {op nm : ByteArray} {kv : Value} (h : w.heap[B]? = some (.cells (ex8 k op nm n b kv t p) TE (0, 0))) :
    (Instr.loadAt TE (.pointer (some ⟨B, 0, none⟩))).run Tryz.prog w = .ok (.agg (ex8 k op nm n b kv t p)) w := by
  have := run_loadVar_row (P := Tryz.prog) w B TE TE (ex8 k op nm n b kv t p) (0, 0) _ h Tryz.underlying41 rfl (by kernel_rfl)
  exact this
set_option maxRecDepth 100000 in
set_option maxHeartbeats 4000000 in
theorem pair_cells (w : World) (k k1 n1 b1 t1 p1 k2 n2 b2 t2 p2 : Int) (op op1 nm1 op2 nm2 : ByteArray) (a1 a2 : Option Addr) (l1 c1 l2 c2 : Nat) :
    Calls Tryz.prog 140 #[.int .i64 k, .string op, .agg (ex8 k1 op1 nm1 n1 b1 (.slice a1 l1 c1) t1 p1), .agg (ex8 k2 op2 nm2 n2 b2 (.slice a2 l2 c2) t2 p2)] w fun e w' => ∃ B, e = .returned (.agg (ex8 k op ⟨#[]⟩ 0 0 (.slice (some ⟨B, 0, none⟩) 2 2) 0 p1)) ∧ Below w.heap.size w w' ∧ w.heap.size ≤ B ∧
      w'.heap[B]? = some (.cells (ex8 k1 op1 nm1 n1 b1 (.slice a1 l1 c1) t1 p1 ++ ex8 k2 op2 nm2 n2 b2 (.slice a2 l2 c2) t2 p2) TE (0, 0)) := by
  go_enter Tryz.func140, Tryz.ntmps140
  go_wp2
  have hz := heap_alloc_new ((w.alloc (.cells (ex8 k1 op1 nm1 n1 b1 (.slice a1 l1 c1) t1 p1) TE)).alloc (.cells (ex8 k2 op2 nm2 n2 b2 (.slice a2 l2 c2) t2 p2) TE)) (.cells (ex8 k op ⟨#[]⟩ 0 0 (.slice (some ⟨w.heap.size + 1 + 1 + 1, 0, none⟩) 2 2) 0 p1) TE)
  have hl : w.heap.size + 1 + 1 < ((((w.alloc (.cells (ex8 k1 op1 nm1 n1 b1 (.slice a1 l1 c1) t1 p1) TE)).alloc (.cells (ex8 k2 op2 nm2 n2 b2 (.slice a2 l2 c2) t2 p2) TE)).alloc (.cells (ex8 k op ⟨#[]⟩ 0 0 (.slice (some ⟨w.heap.size + 1 + 1 + 1, 0, none⟩) 2 2) 0 p1) TE))).heap.size := by simp
  simp only [World.size_alloc] at hz
  have hz2 := fun o => (Lib.alloc_old _ o _ hl).trans hz
  have HZ := fun o => load_ex (hz2 o)
  refine bodyPost_ret (v := .agg (ex8 k op ⟨#[]⟩ 0 0 (.slice (some ⟨w.heap.size + 1 + 1 + 1, 0, none⟩) 2 2) 0 p1)) (by simp [results, Tryz.results140, go_sem]) rfl ⟨_, rfl, (((Below.refl _ _).alloc (Nat.le_refl _) _).alloc (by simp) _).alloc (by simp; omega) _ |>.alloc (by simp; omega) _, by omega, ?_⟩
  have := heap_alloc_new (((w.alloc (.cells (ex8 k1 op1 nm1 n1 b1 (.slice a1 l1 c1) t1 p1) TE)).alloc (.cells (ex8 k2 op2 nm2 n2 b2 (.slice a2 l2 c2) t2 p2) TE)).alloc (.cells (ex8 k op ⟨#[]⟩ 0 0 (.slice (some ⟨w.heap.size + 1 + 1 + 1, 0, none⟩) 2 2) 0 p1) TE)) (.cells (ex8 k1 op1 nm1 n1 b1 (.slice a1 l1 c1) t1 p1 ++ ex8 k2 op2 nm2 n2 b2 (.slice a2 l2 c2) t2 p2) TE)
  simp only [World.size_alloc] at this
  exact this
theorem KsAt.slice {P : Nat → Prop} {w : World} {ks : List Ex} {v : Value} (h : KsAt P w ks v) : ∃ a l c, v = .slice a l c := by
  cases h with
  | nil => exact ⟨_, _, _, rfl⟩
  | some kids g o cap rows hl hne hc hm hP hg hr hk => exact ⟨_, _, _, rfl⟩
theorem ExAt.eight {P : Nat → Prop} {w : World} {x : Ex} {c : List Value} (h : ExAt P w x c) : ∃ (k : Nat) (op nm : Bs) (n b : Nat) (t p : Nat) (a : Option Addr) (l q : Nat), c.toArray = ex8 k ⟨op.toArray⟩ ⟨nm.toArray⟩ n b (.slice a l q) t p ∧ c.length = 8 ∧ x.place = p := by
  cases h with
  | mk kind op name num bits kids type place kv hk =>
    obtain ⟨a, l, q, rfl⟩ := hk.slice
    exact ⟨_, _, _, _, _, _, _, _, _, _, rfl, rfl, rfl⟩
theorem range_two {w : World} {B : Nat} {a b : List Value} (ha : a.length = 8) (hb : b.length = 8) (h : w.heap[B]? = some (.cells (a.toArray ++ b.toArray) TE (0, 0))) (i : Nat) (r : List Value) (hi : [a, b][i]? = some r) : w.rangeAt B (0 + i * 8) r := by
  intro j v hj
  have hjl : j < r.length := (List.getElem?_eq_some_iff.1 hj).1
  have key : (a.toArray ++ b.toArray)[0 + i * 8 + j]? = some v := by
    match i, hi with
    | 0, hi =>
      cases hi
      rw [List.append_toArray, List.getElem?_toArray, List.getElem?_append_left (by omega)]
      rw [show 0 + 0 * 8 + j = j by omega]; exact hj
    | 1, hi =>
      cases hi
      rw [List.append_toArray, List.getElem?_toArray, List.getElem?_append_right (by omega)]
      rw [show 0 + 1 * 8 + j - a.length = j by omega]; exact hj
    | i + 2, hi => simp at hi
  unfold World.cell?
  simp only [h]
  exact key
/-- what has two operands -/
theorem pair_ {P : Nat → Prop} {w : World} {l r : Ex} {lc rc : List Value} (k : Nat) (op : Bs) (hl : ExAt P w l lc) (hr : ExAt P w r rc) :
    Calls Tryz.prog 140 #[.int .i64 (k : Int), .string ⟨op.toArray⟩, .agg lc.toArray, .agg rc.toArray] w fun e w' => ∃ c, e = .returned (.agg c.toArray) ∧ Below w.heap.size w w' ∧ ExAt (fun b => P b ∨ w.heap.size ≤ b) w' (Pa.pair k op l r) c := by
  obtain ⟨k1, op1, nm1, n1, b1, t1, p1, a1, l1, q1, e1, z1, x1⟩ := hl.eight
  obtain ⟨k2, op2, nm2, n2, b2, t2, p2, a2, l2, q2, e2, z2, x2⟩ := hr.eight
  have c := pair_cells w k k1 n1 b1 t1 p1 k2 n2 b2 t2 p2 ⟨op.toArray⟩ ⟨op1.toArray⟩ ⟨nm1.toArray⟩ ⟨op2.toArray⟩ ⟨nm2.toArray⟩ a1 a2 l1 q1 l2 q2
  rw [e1, e2]
  refine c.mono ?_
  rintro e w' ⟨B, rfl, hb, hB, hh⟩
  have hs : Same P w w' := ⟨hb.size, fun b _ hlt => hb.block b hlt⟩
  refine ⟨_, rfl, hb, ?_⟩
  have hlt : B < w'.heap.size := (Array.getElem?_eq_some_iff.1 hh).1
  have hr2 := range_two (w := w') (B := B) z1 z2 (by rw [e1, e2]; exact hh)
  rw [Pa.pair, x1]
  exact .mk k op [] 0 0 [l, r] 0 p1 _ (.some [l, r] B 0 2 [lc, rc] rfl (by simp) (by simp) (by decide) (.inr hB) hlt hr2 (fun i c x hi hx => by
    match i, hi, hx with
    | 0, hi, hx => cases hi; cases hx; exact hl.mono hs fun b h => .inl h
    | 1, hi, hx => cases hi; cases hx; exact hr.mono hs fun b h => .inl h
    | i + 2, hi, hx => simp at hi))
end PaC
end Go.Proofs.YtnlbhnmiekanfaaGreatDoor
/-
  The parser's atoms that hold no expression: numbers, reals, names. Condition: what the parser holds lies in memory.
-/
namespace Go.Proofs.YtnlbhnmiekanfaaGreatDoor
open Go.RowKit
set_option linter.unusedVariables false
set_option linter.unusedSimpArgs false
namespace PaC
open Pa Lx
attribute [local go_sem] fld0 fld1 fld2
variable {N : Nat} {Rl : Bs → Prop}
theorem PAt.frame {w w' : World} {G d : Nat} {ts : List Tok} (h : PAt N w G ts d) (hs : w.heap.size ≤ w'.heap.size) (hb : ∀ k, k < N → w'.heap[k]? = w.heap[k]?) : PAt N w' G ts d := by
  obtain ⟨g, o, c, L, h1, h2, h3, h4, h5, h6, h7, h8, h9, h10, h11⟩ := h
  refine ⟨g, o, c, L, (hb G h10).trans h1, h2, h3, h4, fun i t hi j v hv => cell_same (hb g h8) (h5 i t hi j v hv), h6, fun s hs => ?_, h8, h9, h10, Nat.le_trans h11 hs⟩
  obtain ⟨b, a1, a2, a3, a4⟩ := h7 s hs
  exact ⟨b, a1, a2, cell_same (hb L h9) a3, fun j x hj => cell_same (hb b a2) (a4 j x hj)⟩
theorem PAt.base {w : World} {G d : Nat} {ts : List Tok} (h : PAt N w G ts d) : N ≤ w.heap.size ∧ G < N := by
  obtain ⟨g, o, c, L, h1, h2, h3, h4, h5, h6, h7, h8, h9, h10, h11⟩ := h
  exact ⟨h11, h10⟩
theorem PAt.row {w : World} {G d B : Nat} {ts : List Tok} (h : PAt N w G ts d) (hB : N ≤ B) (cs : Array Value) : PAt N (w.setRow B cs) G ts d :=
  h.frame (by simp) fun k hk => setRow_other _ _ _ _ (by omega)
theorem Keep.row {w w' : World} {G B : Nat} (h : Keep G w w') (hB : w.heap.size ≤ B) (cs : Array Value) : Keep G w (w'.setRow B cs) :=
  ⟨h.os, h.tape, h.output, by simpa using h.size, fun k hk hg => (setRow_other _ _ _ _ (by omega)).trans (h.block k hk hg)⟩
/-- the result's own cells are as they were -/
theorem rowAt {w w3 w5 w6 : World} {G : Nat} {o : Obj} (hz : (w.alloc o).heap[w.heap.size]? = some o) (hlt : N ≤ w.heap.size ∧ G < N) (h3 : Below (w.alloc o).heap.size (w.alloc o) w3) (h5 : Keep G w3 w5) (h6 : Below w5.heap.size w5 w6) : w6.heap[w.heap.size]? = some o := by
  have s3 := h3.size
  have s5 := h5.size
  simp only [World.size_alloc] at s3
  rw [h6.block _ (by omega), h5.block _ (by omega) (by omega), h3.block _ (by simp)]
  exact hz
abbrev z8 : Array Value := ex8 0 ⟨#[]⟩ ⟨#[]⟩ 0 0 (.slice none 0 0) 0 0
theorem size8 (k n b t p : Int) (op nm : ByteArray) (kv : Value) : (Tryz.prog.info? TE).map (·.size) = some (ex8 k op nm n b kv t p).size := by kernel_rfl
theorem one8 (k n b t p : Int) (op nm : ByteArray) (a : Option Addr) (l c : Nat) : (ex8 k op nm n b (.slice a l c) t p).all (·.oneCell') = true := by simp [ex8, Value.oneCell']
section
variable {ops : Array Oper} {rest : List Oper} {o : Oper} {a : Act} {w : World} {Q : Exit → Act → World → Prop}
theorem load8 (hgd : o.guard = none) (x : Operand) (ho : o.op = .load TE x) (g : Nat) (k n b t p : Int) (op nm : ByteArray) (kv : Value) (hx : a.eval x = .pointer (some ⟨g, 0, none⟩)) (hg : w.heap[g]? = some (.cells (ex8 k op nm n b kv t p) TE (0, 0)))
    (h : wpList Tryz.prog ops Q rest (a.put o.dst (.agg (ex8 k op nm n b kv t p))) w) : wpList Tryz.prog ops Q (o :: rest) a w :=
  wpList_load_row hgd TE x ho g hx TE (ex8 k op nm n b kv t p) (0, 0) _ hg Tryz.underlying41 rfl (size8 k n b t p op nm kv) h
theorem store8 (hgd : o.guard = none) (x y : Operand) (ho : o.op = .store TE x y) (g : Nat) (k n b t p : Int) (op nm : ByteArray) (ad : Option Addr) (l c : Nat) (hx : a.eval x = .pointer (some ⟨g, 0, none⟩)) (hy : a.eval y = .agg (ex8 k op nm n b (.slice ad l c) t p)) (old : Array Value) (h8 : old.size = 8)
    (hg : w.heap[g]? = some (.cells old TE (0, 0))) (h : wpList Tryz.prog ops Q rest (a.put o.dst undef) (w.setRow g (ex8 k op nm n b (.slice ad l c) t p))) : wpList Tryz.prog ops Q (o :: rest) a w :=
  wpList_store_row hgd TE x y ho g (ex8 k op nm n b (.slice ad l c) t p) hx hy TE old hg (size8 k n b t p op nm _) (by rw [h8]; rfl) (one8 k n b t p op nm ad l c) h
end
theorem fin_atom {Q : Ending → World → Prop} (k n b t p : Int) (op nm : ByteArray) (kv : Value) {tmps : Array Value} {B : Nat} {w : World} (old : Array Value)
    (hp : tmps.getD 2 undef = .pointer (some ⟨B, 0, none⟩)) (hg : w.heap[B]? = some (.cells old TE (0, 0))) (hQ : Q (.returned (.agg (ex8 k op nm n b kv t p))) (w.setRow B (ex8 k op nm n b kv t p))) :
    bodyPost Tryz.prog Tryz.f218 Q .ret { tmps := tmps, defers := [] } (w.setRow B (ex8 k op nm n b kv t p)) :=
  bodyPost_ret (v := .agg (ex8 k op nm n b kv t p)) (results_cell_row Tryz.results218 tmps _ B TE (ex8 k op nm n b kv t p) (0, 0) _ hp (setRow_heap _ _ _ _ _ _ hg) Tryz.underlying41 rfl (size8 k n b t p op nm kv)) rfl hQ
set_option maxRecDepth 100000 in
set_option maxHeartbeats 4000000 in
theorem atom_int {w : World} {G d : Nat} {t u : Tok} {r : List Tok} (h : PAt N w G (t :: u :: r) d) (hk : t.kind = 2) (hi : isInt t.text = true) (hd : ∀ b ∈ t.text, digit b = true) (h0 : t.text ≠ []) :
    Calls Tryz.prog 218 #[ptr G] w (OkPost N G d (.agg (ex8 1 ⟨#[]⟩ ⟨#[]⟩ (val t.text) 0 (.slice none 0 0) 0 t.place)) (u :: r) w) := by
  have hlt := h.base
  have hb : Below w.heap.size w (w.alloc (.cells z8 TE)) := (Below.refl _ _).alloc (Nat.le_refl _) _
  have c1 := next_ (h.below hb)
  have c2 : ∀ W, Below (w.alloc (.cells z8 TE)).heap.size (w.alloc (.cells z8 TE)) W → Calls Tryz.prog 64 #[ptr G] W (TokPost t W) := fun W hW => next_ ((h.below hb).below hW)
  have c3 : ∀ W, Below (w.alloc (.cells z8 TE)).heap.size (w.alloc (.cells z8 TE)) W → Calls Tryz.prog 135 #[ptr G] W (ReadPost N G d t (u :: r) W) := fun W hW => read_ ((h.below hb).below hW)
  have cn : ∀ W, Calls Tryz.prog 141 #[.string ⟨t.text.toArray⟩] W fun e w' => e = .returned (.int .u32 (val t.text : Int)) ∧ Below W.heap.size W w' := fun W => number_ W hi hd h0
  have B1 : ((t.kind : Int) == 2) = true := by rw [beq_iff_eq]; omega
  have hz := heap_alloc_new w (.cells z8 TE)
  have HB := Lib.hid hb
  have HZ := Lib.hid hz
  generalize val t.text = n at *
  clear h hk hi hd h0 hb hz
  go_enter Tryz.func218, Tryz.ntmps218
  go_wp2_with (first
    | ((with_reducible refine c1.mono ?_); rintro e w1 ⟨rfl, hb1⟩; have c4 := c2 w1 hb1; have HB1 := Lib.hid hb1; clear hb1 c1 c2)
    | ((with_reducible refine c4.mono ?_); rintro e w3 ⟨rfl, hb3⟩; have hbb := Below.two HB1.out hb3; have c5 := c3 w3 hbb; have HB3 := Lib.hid hbb; clear hb3 hbb c4 c3)
    | ((with_reducible refine c5.mono ?_); rintro e w5 ⟨rfl, hp5, hk5⟩; have HP5 := Lib.hid hp5; have HK5 := Lib.hid hk5; clear hp5 hk5 c5)
    | ((with_reducible refine (cn _).mono ?_); rintro e w6 ⟨rfl, hb6⟩; have hz6 := rowAt HZ.out hlt HB3.out HK5.out hb6; have HB6 := Lib.hid hb6; clear hb6 cn)
    | ((with_reducible refine store8 rfl (.tmp 2) (.tmp 21) rfl w.heap.size 1 n 0 0 t.place ⟨#[]⟩ ⟨#[]⟩ none 0 0 ?xa ?xb z8 rfl hz6 ?_); (case xa => simp [go_sem]); (case xb => simp [go_sem])))
  refine fin_atom _ _ _ _ _ _ _ _ _ (by simp) hz6 ⟨rfl, (HP5.out.below HB6.out).row (by omega) _, ?_⟩
  exact ((((Keep.of HB.out).trans (Keep.of HB3.out)).trans HK5.out).trans (Keep.of HB6.out)).row (Nat.le_refl _) _
end PaC
end Go.Proofs.YtnlbhnmiekanfaaGreatDoor
/-
  The parser's atoms, each way through. Condition: what the parser holds lies in memory.
-/
namespace Go.Proofs.YtnlbhnmiekanfaaGreatDoor
open Go.RowKit
set_option linter.unusedVariables false
set_option linter.unusedSimpArgs false
namespace PaC
open Pa Lx
attribute [local go_sem] fld0 fld1 fld2
variable {N : Nat} {Rl : Bs → Prop}
abbrev tokV (t : Tok) : Value := .agg #[.int .i64 (t.kind : Int), .string ⟨t.text.toArray⟩, .int .i64 (t.place : Int)]
theorem next2 {w : World} {G d : Nat} {t : Tok} {r : List Tok} (h : PAt N w G (t :: r) d) : Calls Tryz.prog 64 #[ptr G] w (OkPost N G d (tokV t) (t :: r) w) :=
  (next_ h).mono fun e w' hq => ⟨hq.1, h.below hq.2, Keep.of hq.2⟩
abbrev one (w : World) (x : Array UInt8) : World := w.alloc (.cells #[.string ⟨x⟩] 9)
abbrev sl1 (w : World) : Value := .slice (some ⟨w.heap.size, 0, none⟩) 1 1
theorem Keep.one {w w' : World} {G : Nat} {x : Array UInt8} (h : Keep G (one w x) w') : Keep G w w' := (Keep.of ((Below.refl _ _).alloc (Nat.le_refl _) _)).trans h
theorem takes1_yes {w : World} {G d : Nat} {t u : Tok} {r : List Tok} (x : Bs) (h : PAt N w G (t :: u :: r) d) (hx : Pa.sees (t :: u :: r) [x] = true) : Calls Tryz.prog 92 #[ptr G, sl1 w] (one w x.toArray) (OkPost N G d (.bool true) (u :: r) w) :=
  (takes_yes (c := 1) (n := 1) (h.below ((Below.refl _ _).alloc (Nat.le_refl _) _)) (signs1 (x := x) (heap_alloc_new w _)) rfl (by omega) (by simp) hx).mono fun e w' hq => ⟨hq.1, hq.2.1, hq.2.2.one⟩
theorem takes1_no {w : World} {G d : Nat} {t : Tok} {r : List Tok} (x : Bs) (h : PAt N w G (t :: r) d) (hx : Pa.sees (t :: r) [x] = false) : Calls Tryz.prog 92 #[ptr G, sl1 w] (one w x.toArray) (OkPost N G d (.bool false) (t :: r) w) :=
  (takes_no (c := 1) (n := 1) (h.below ((Below.refl _ _).alloc (Nat.le_refl _) _)) (signs1 (x := x) (heap_alloc_new w _)) rfl (by omega) (by simp) hx).mono fun e w' hq => ⟨hq.1, hq.2.1, hq.2.2.one⟩
theorem want1_yes {w : World} {G d : Nat} {t u : Tok} {r : List Tok} (x : Bs) (h : PAt N w G (t :: u :: r) d) (hx : Pa.sees (t :: u :: r) [x] = true) : Calls Tryz.prog 95 #[ptr G, sl1 w] (one w x.toArray) (OkPost N G d (.string ⟨t.text.toArray⟩) (u :: r) w) :=
  (want_yes (c := 1) (n := 1) (h.below ((Below.refl _ _).alloc (Nat.le_refl _) _)) (signs1 (x := x) (heap_alloc_new w _)) rfl (by omega) (by simp) hx).mono fun e w' hq => ⟨hq.1, hq.2.1, hq.2.2.one⟩
theorem want1_no {w : World} {G d : Nat} {t : Tok} {r : List Tok} (x : Bs) (h : PAt N w G (t :: r) d) (hx : Pa.sees (t :: r) [x] = false) : Calls Tryz.prog 95 #[ptr G, sl1 w] (one w x.toArray) (BadPost G (t.place : Int) 11 w) :=
  (want_no (c := 1) (n := 1) (h.below ((Below.refl _ _).alloc (Nat.le_refl _) _)) (signs1 (x := x) (heap_alloc_new w _)) rfl (by omega) (by simp) hx).mono fun e w' hq => ⟨hq.1, hq.2.1, hq.2.2.one⟩
/-- the result's own cells are as they were -/
theorem rowK {w w' : World} {G : Nat} {o : Obj} (hz : (w.alloc o).heap[w.heap.size]? = some o) (hlt : N ≤ w.heap.size ∧ G < N) (h : Keep G (w.alloc o) w') : w'.heap[w.heap.size]? = some o := by
  rw [h.block _ (by simp) (by omega)]
  exact hz
theorem Keep.first {w w' : World} {G : Nat} {o : Obj} (h : Keep G (w.alloc o) w') : Keep G w w' := (Keep.of ((Below.refl _ _).alloc (Nat.le_refl _) _)).trans h
set_option maxRecDepth 100000 in
set_option maxHeartbeats 4000000 in
theorem atom_name {w : World} {G d : Nat} {t u : Tok} {r : List Tok} (h : PAt N w G (t :: u :: r) d) (hk : t.kind = 1) (hx : Pa.sees (u :: r) [[40]] = false) :
    Calls Tryz.prog 218 #[ptr G] w (OkPost N G d (.agg (ex8 3 ⟨#[]⟩ ⟨t.text.toArray⟩ 0 0 (.slice none 0 0) 0 t.place)) (u :: r) w) := by
  have hlt := h.base
  have HP0 := Lib.hid (h.below ((Below.refl _ _).alloc (Nat.le_refl _) (.cells z8 TE)))
  have HK0 := Lib.hid (Keep.refl G (w.alloc (.cells z8 TE)))
  have HZ := Lib.hid (heap_alloc_new w (.cells z8 TE))
  have c0 : ∀ W, PAt N W G (t :: u :: r) d → Calls Tryz.prog 64 #[ptr G] W (OkPost N G d (tokV t) (t :: u :: r) W) := fun W hW => next2 hW
  have c1 : ∀ W, PAt N W G (t :: u :: r) d → Calls Tryz.prog 64 #[ptr G] W (OkPost N G d (tokV t) (t :: u :: r) W) := fun W hW => next2 hW
  have c2 : ∀ W, PAt N W G (t :: u :: r) d → Calls Tryz.prog 135 #[ptr G] W (OkPost N G d (tokV t) (u :: r) W) := fun W hW => read_ hW
  have c3 : ∀ W, PAt N W G (u :: r) d → Calls Tryz.prog 92 #[ptr G, sl1 W] (one W #[40]) (OkPost N G d (.bool false) (u :: r) W) := fun W hW => takes1_no [40] hW hx
  have K2 : ((t.kind : Int) == 2) = false := by rw [beq_eq_false_iff_ne]; omega
  have K3 : ((t.kind : Int) == 3) = false := by rw [beq_eq_false_iff_ne]; omega
  have K1 : ((t.kind : Int) == 1) = true := by rw [beq_iff_eq]; omega
  clear h hk hx
  go_enter Tryz.func218, Tryz.ntmps218
  go_wp2_with (first
    | ((with_reducible refine (c0 _ HP0.out).mono ?_); rintro e w1 ⟨rfl, hp, hk⟩; have HP1 := Lib.hid hp; have HK1 := Lib.hid (HK0.out.trans hk); have hz1 := rowK HZ.out hlt HK1.out; clear hp hk)
    | ((with_reducible refine (c1 _ HP1.out).mono ?_); rintro e w2 ⟨rfl, hp, hk⟩; have HP2 := Lib.hid hp; have HK2 := Lib.hid (HK1.out.trans hk); have hz2 := rowK HZ.out hlt HK2.out; clear hp hk)
    | ((with_reducible refine (c2 _ HP2.out).mono ?_); rintro e w3 ⟨rfl, hp, hk⟩; have HP3 := Lib.hid hp; have HK3 := Lib.hid (HK2.out.trans hk); have hz3 := rowK HZ.out hlt HK3.out; clear hp hk)
    | ((with_reducible refine (c3 _ HP3.out).mono ?_); rintro e w4 ⟨rfl, hp, hk⟩; have HP4 := Lib.hid hp; have HK4 := Lib.hid (HK3.out.trans hk); have hz4 := rowK HZ.out hlt HK4.out; clear hp hk)
    | ((with_reducible refine store8 rfl (.tmp 2) (.tmp 49) rfl w.heap.size 3 0 0 0 t.place ⟨#[]⟩ ⟨t.text.toArray⟩ none 0 0 ?xa ?xb z8 rfl hz4 ?_); (case xa => simp [go_sem]); (case xb => simp [go_sem])))
  refine fin_atom _ _ _ _ _ _ _ _ _ (by simp) hz4 ⟨rfl, HP4.out.row (by omega) _, HK4.out.first.row (Nat.le_refl _) _⟩
set_option maxRecDepth 100000 in
set_option maxHeartbeats 4000000 in
theorem atom_real {w : World} {G d : Nat} {t u : Tok} {r : List Tok} {b : Nat} (h : PAt N w G (t :: u :: r) d) (hk : t.kind = 3) (cr : ∀ W, PAt N W G (u :: r) d → Calls Tryz.prog 190 #[.string ⟨t.text.toArray⟩] W (OkPost N G d (.tuple #[.int .u64 (b : Int), .int .i64 0]) (u :: r) W)) :
    Calls Tryz.prog 218 #[ptr G] w (OkPost N G d (.agg (ex8 2 ⟨#[]⟩ ⟨#[]⟩ 0 b (.slice none 0 0) 0 t.place)) (u :: r) w) := by
  have hlt := h.base
  have HP0 := Lib.hid (h.below ((Below.refl _ _).alloc (Nat.le_refl _) (.cells z8 TE)))
  have HK0 := Lib.hid (Keep.refl G (w.alloc (.cells z8 TE)))
  have HZ := Lib.hid (heap_alloc_new w (.cells z8 TE))
  have c0 : ∀ W, PAt N W G (t :: u :: r) d → Calls Tryz.prog 64 #[ptr G] W (OkPost N G d (tokV t) (t :: u :: r) W) := fun W hW => next2 hW
  have c1 : ∀ W, PAt N W G (t :: u :: r) d → Calls Tryz.prog 64 #[ptr G] W (OkPost N G d (tokV t) (t :: u :: r) W) := fun W hW => next2 hW
  have c2 : ∀ W, PAt N W G (t :: u :: r) d → Calls Tryz.prog 135 #[ptr G] W (OkPost N G d (tokV t) (u :: r) W) := fun W hW => read_ hW
  have K2 : ((t.kind : Int) == 2) = false := by rw [beq_eq_false_iff_ne]; omega
  have K3 : ((t.kind : Int) == 3) = true := by rw [beq_iff_eq]; omega
  clear h hk
  go_enter Tryz.func218, Tryz.ntmps218
  go_wp2_with (first
    | ((with_reducible refine (c0 _ HP0.out).mono ?_); rintro e w1 ⟨rfl, hp, hk⟩; have HP1 := Lib.hid hp; have HK1 := Lib.hid (HK0.out.trans hk); have hz1 := rowK HZ.out hlt HK1.out; clear hp hk)
    | ((with_reducible refine (c1 _ HP1.out).mono ?_); rintro e w2 ⟨rfl, hp, hk⟩; have HP2 := Lib.hid hp; have HK2 := Lib.hid (HK1.out.trans hk); have hz2 := rowK HZ.out hlt HK2.out; clear hp hk)
    | ((with_reducible refine (c2 _ HP2.out).mono ?_); rintro e w3 ⟨rfl, hp, hk⟩; have HP3 := Lib.hid hp; have HK3 := Lib.hid (HK2.out.trans hk); have hz3 := rowK HZ.out hlt HK3.out; clear hp hk)
    | ((with_reducible refine (cr _ HP3.out).mono ?_); rintro e w4 ⟨rfl, hp, hk⟩; have HP4 := Lib.hid hp; have HK4 := Lib.hid (HK3.out.trans hk); have hz4 := rowK HZ.out hlt HK4.out; clear hp hk)
    | ((with_reducible refine store8 rfl (.tmp 2) (.tmp 33) rfl w.heap.size 2 0 b 0 t.place ⟨#[]⟩ ⟨#[]⟩ none 0 0 ?xa ?xb z8 rfl hz4 ?_); (case xa => simp [go_sem]); (case xb => simp [go_sem])))
  refine fin_atom _ _ _ _ _ _ _ _ _ (by simp) hz4 ⟨rfl, HP4.out.row (by omega) _, HK4.out.first.row (Nat.le_refl _) _⟩
set_option maxRecDepth 100000 in
set_option maxHeartbeats 4000000 in
theorem atom_no {w : World} {G d : Nat} {t : Tok} {r : List Tok} (h : PAt N w G (t :: r) d) (h2 : t.kind ≠ 2) (h3 : t.kind ≠ 3) (h1 : t.kind ≠ 1) (hx : Pa.sees (t :: r) [[40]] = false) :
    Calls Tryz.prog 218 #[ptr G] w (BadPost G (t.place : Int) 11 w) := by
  have hlt := h.base
  have HP0 := Lib.hid (h.below ((Below.refl _ _).alloc (Nat.le_refl _) (.cells z8 TE)))
  have HK0 := Lib.hid (Keep.refl G (w.alloc (.cells z8 TE)))
  have HZ := Lib.hid (heap_alloc_new w (.cells z8 TE))
  have c0 : ∀ W, PAt N W G (t :: r) d → Calls Tryz.prog 64 #[ptr G] W (OkPost N G d (tokV t) (t :: r) W) := fun W hW => next2 hW
  have c1 : ∀ W, PAt N W G (t :: r) d → Calls Tryz.prog 64 #[ptr G] W (OkPost N G d (tokV t) (t :: r) W) := fun W hW => next2 hW
  have c2 : ∀ W, PAt N W G (t :: r) d → Calls Tryz.prog 95 #[ptr G, sl1 W] (one W #[40]) (BadPost G (t.place : Int) 11 W) := fun W hW => want1_no [40] hW hx
  have K2 : ((t.kind : Int) == 2) = false := by rw [beq_eq_false_iff_ne]; omega
  have K3 : ((t.kind : Int) == 3) = false := by rw [beq_eq_false_iff_ne]; omega
  have K1 : ((t.kind : Int) == 1) = false := by rw [beq_eq_false_iff_ne]; omega
  clear h h1 h2 h3 hx
  go_enter Tryz.func218, Tryz.ntmps218
  go_wp2_with (first
    | ((with_reducible refine (c0 _ HP0.out).mono ?_); rintro e w1 ⟨rfl, hp, hk⟩; have HP1 := Lib.hid hp; have HK1 := Lib.hid (HK0.out.trans hk); have hz1 := rowK HZ.out hlt HK1.out; clear hp hk)
    | ((with_reducible refine (c1 _ HP1.out).mono ?_); rintro e w2 ⟨rfl, hp, hk⟩; have HP2 := Lib.hid hp; have HK2 := Lib.hid (HK1.out.trans hk); have hz2 := rowK HZ.out hlt HK2.out; clear hp hk)
    | ((with_reducible refine (c2 _ HP2.out).mono ?_); rintro e w3 ⟨rfl, hp, hk⟩; have HW := Lib.hid hp; have HK3 := Lib.hid (HK2.out.trans hk); clear hp hk))
  exact ⟨rfl, rfl, HW.out, HK3.out.first⟩
set_option maxRecDepth 100000 in
set_option maxHeartbeats 4000000 in
theorem atom_call_bad {w : World} {G d : Nat} {t u v : Tok} {r : List Tok} {p er : Nat} (h : PAt N w G (t :: u :: v :: r) d) (hk : t.kind = 1) (hx : Pa.sees (u :: v :: r) [[40]] = true) (ca : ∀ W, PAt N W G (v :: r) d → Calls Tryz.prog 247 #[ptr G] W (BadPost G (p : Int) (er : Int) W)) :
    Calls Tryz.prog 218 #[ptr G] w (BadPost G (p : Int) (er : Int) w) := by
  have hlt := h.base
  have HP0 := Lib.hid (h.below ((Below.refl _ _).alloc (Nat.le_refl _) (.cells z8 TE)))
  have HK0 := Lib.hid (Keep.refl G (w.alloc (.cells z8 TE)))
  have HZ := Lib.hid (heap_alloc_new w (.cells z8 TE))
  have c0 : ∀ W, PAt N W G (t :: u :: v :: r) d → Calls Tryz.prog 64 #[ptr G] W (OkPost N G d (tokV t) (t :: u :: v :: r) W) := fun W hW => next2 hW
  have c1 : ∀ W, PAt N W G (t :: u :: v :: r) d → Calls Tryz.prog 64 #[ptr G] W (OkPost N G d (tokV t) (t :: u :: v :: r) W) := fun W hW => next2 hW
  have c2 : ∀ W, PAt N W G (t :: u :: v :: r) d → Calls Tryz.prog 135 #[ptr G] W (OkPost N G d (tokV t) (u :: v :: r) W) := fun W hW => read_ hW
  have c3 : ∀ W, PAt N W G (u :: v :: r) d → Calls Tryz.prog 92 #[ptr G, sl1 W] (one W #[40]) (OkPost N G d (.bool true) (v :: r) W) := fun W hW => takes1_yes [40] hW hx
  have K2 : ((t.kind : Int) == 2) = false := by rw [beq_eq_false_iff_ne]; omega
  have K3 : ((t.kind : Int) == 3) = false := by rw [beq_eq_false_iff_ne]; omega
  have K1 : ((t.kind : Int) == 1) = true := by rw [beq_iff_eq]; omega
  clear h hk hx
  go_enter Tryz.func218, Tryz.ntmps218
  go_wp2_with (first
    | ((with_reducible refine (c0 _ HP0.out).mono ?_); rintro e w1 ⟨rfl, hp, hk⟩; have HP1 := Lib.hid hp; have HK1 := Lib.hid (HK0.out.trans hk); have hz1 := rowK HZ.out hlt HK1.out; clear hp hk)
    | ((with_reducible refine (c1 _ HP1.out).mono ?_); rintro e w2 ⟨rfl, hp, hk⟩; have HP2 := Lib.hid hp; have HK2 := Lib.hid (HK1.out.trans hk); have hz2 := rowK HZ.out hlt HK2.out; clear hp hk)
    | ((with_reducible refine (c2 _ HP2.out).mono ?_); rintro e w3 ⟨rfl, hp, hk⟩; have HP3 := Lib.hid hp; have HK3 := Lib.hid (HK2.out.trans hk); have hz3 := rowK HZ.out hlt HK3.out; clear hp hk)
    | ((with_reducible refine (c3 _ HP3.out).mono ?_); rintro e w4 ⟨rfl, hp, hk⟩; have HP4 := Lib.hid hp; have HK4 := Lib.hid (HK3.out.trans hk); have hz4 := rowK HZ.out hlt HK4.out; clear hp hk)
    | ((with_reducible refine (ca _ HP4.out).mono ?_); rintro e w5 ⟨rfl, hp, hk⟩; have HW := Lib.hid hp; have HK5 := Lib.hid (HK4.out.trans hk); clear hp hk))
  exact ⟨rfl, rfl, HW.out, HK5.out.first⟩
set_option maxRecDepth 100000 in
set_option maxHeartbeats 4000000 in
theorem atom_paren_bad {w : World} {G d : Nat} {t u : Tok} {r : List Tok} {p er : Nat} (h : PAt N w G (t :: u :: r) d) (h2 : t.kind ≠ 2) (h3 : t.kind ≠ 3) (h1 : t.kind ≠ 1) (hx : Pa.sees (t :: u :: r) [[40]] = true) (ca : ∀ W, PAt N W G (u :: r) d → Calls Tryz.prog 96 #[ptr G] W (BadPost G (p : Int) (er : Int) W)) :
    Calls Tryz.prog 218 #[ptr G] w (BadPost G (p : Int) (er : Int) w) := by
  have hlt := h.base
  have HP0 := Lib.hid (h.below ((Below.refl _ _).alloc (Nat.le_refl _) (.cells z8 TE)))
  have HK0 := Lib.hid (Keep.refl G (w.alloc (.cells z8 TE)))
  have HZ := Lib.hid (heap_alloc_new w (.cells z8 TE))
  have c0 : ∀ W, PAt N W G (t :: u :: r) d → Calls Tryz.prog 64 #[ptr G] W (OkPost N G d (tokV t) (t :: u :: r) W) := fun W hW => next2 hW
  have c1 : ∀ W, PAt N W G (t :: u :: r) d → Calls Tryz.prog 64 #[ptr G] W (OkPost N G d (tokV t) (t :: u :: r) W) := fun W hW => next2 hW
  have c2 : ∀ W, PAt N W G (t :: u :: r) d → Calls Tryz.prog 95 #[ptr G, sl1 W] (one W #[40]) (OkPost N G d (.string ⟨t.text.toArray⟩) (u :: r) W) := fun W hW => want1_yes [40] hW hx
  have K2 : ((t.kind : Int) == 2) = false := by rw [beq_eq_false_iff_ne]; omega
  have K3 : ((t.kind : Int) == 3) = false := by rw [beq_eq_false_iff_ne]; omega
  have K1 : ((t.kind : Int) == 1) = false := by rw [beq_eq_false_iff_ne]; omega
  clear h h1 h2 h3 hx
  go_enter Tryz.func218, Tryz.ntmps218
  go_wp2_with (first
    | ((with_reducible refine (c0 _ HP0.out).mono ?_); rintro e w1 ⟨rfl, hp, hk⟩; have HP1 := Lib.hid hp; have HK1 := Lib.hid (HK0.out.trans hk); have hz1 := rowK HZ.out hlt HK1.out; clear hp hk)
    | ((with_reducible refine (c1 _ HP1.out).mono ?_); rintro e w2 ⟨rfl, hp, hk⟩; have HP2 := Lib.hid hp; have HK2 := Lib.hid (HK1.out.trans hk); have hz2 := rowK HZ.out hlt HK2.out; clear hp hk)
    | ((with_reducible refine (c2 _ HP2.out).mono ?_); rintro e w3 ⟨rfl, hp, hk⟩; have HP3 := Lib.hid hp; have HK3 := Lib.hid (HK2.out.trans hk); have hz3 := rowK HZ.out hlt HK3.out; clear hp hk)
    | ((with_reducible refine (ca _ HP3.out).mono ?_); rintro e w4 ⟨rfl, hp, hk⟩; have HW := Lib.hid hp; have HK4 := Lib.hid (HK3.out.trans hk); clear hp hk))
  exact ⟨rfl, rfl, HW.out, HK4.out.first⟩
/-- an expression in memory, and what is left -/
def ExOk (N G d : Nat) (x : Ex) (r : List Tok) (w : World) (e : Ending) (w' : World) : Prop := ∃ c, e = .returned (.agg c.toArray) ∧ ExAt (New w.heap.size) w' x c ∧ PAt N w' G r d ∧ Keep G w w'
/-- expressions in memory, and what is left -/
def KsOk (N G d : Nat) (ks : List Ex) (r : List Tok) (w : World) (e : Ending) (w' : World) : Prop := ∃ v, e = .returned v ∧ KsAt (New w.heap.size) w' ks v ∧ PAt N w' G r d ∧ Keep G w w'
theorem Same.row {n G B : Nat} {w w' : World} (h : Keep G w w') (hG : G < n) (hB : B < n) (cs : Array Value) : Same (New n) w (w'.setRow B cs) :=
  ⟨by rw [setRow_size]; exact h.size, fun b hb hlt => by
    have hn : n ≤ b := hb
    rw [setRow_other _ _ _ _ (by omega)]
    exact h.block b hlt (by omega)⟩
theorem New.le {m n : Nat} (h : m ≤ n) (b : Nat) (hb : New n b) : New m b := Nat.le_trans h hb
set_option maxRecDepth 100000 in
set_option maxHeartbeats 4000000 in
theorem atom_call {w : World} {G d : Nat} {t u v : Tok} {r r2 : List Tok} {ks : List Ex} (h : PAt N w G (t :: u :: v :: r) d) (hk : t.kind = 1) (hx : Pa.sees (u :: v :: r) [[40]] = true) (ca : ∀ W, PAt N W G (v :: r) d → Calls Tryz.prog 247 #[ptr G] W (KsOk N G d ks r2 W)) :
    Calls Tryz.prog 218 #[ptr G] w (ExOk N G d (.mk 7 [] t.text 0 0 ks 0 t.place) r2 w) := by
  have hlt := h.base
  have HP0 := Lib.hid (h.below ((Below.refl _ _).alloc (Nat.le_refl _) (.cells z8 TE)))
  have HK0 := Lib.hid (Keep.refl G (w.alloc (.cells z8 TE)))
  have HZ := Lib.hid (heap_alloc_new w (.cells z8 TE))
  have c0 : ∀ W, PAt N W G (t :: u :: v :: r) d → Calls Tryz.prog 64 #[ptr G] W (OkPost N G d (tokV t) (t :: u :: v :: r) W) := fun W hW => next2 hW
  have c1 : ∀ W, PAt N W G (t :: u :: v :: r) d → Calls Tryz.prog 64 #[ptr G] W (OkPost N G d (tokV t) (t :: u :: v :: r) W) := fun W hW => next2 hW
  have c2 : ∀ W, PAt N W G (t :: u :: v :: r) d → Calls Tryz.prog 135 #[ptr G] W (OkPost N G d (tokV t) (u :: v :: r) W) := fun W hW => read_ hW
  have c3 : ∀ W, PAt N W G (u :: v :: r) d → Calls Tryz.prog 92 #[ptr G, sl1 W] (one W #[40]) (OkPost N G d (.bool true) (v :: r) W) := fun W hW => takes1_yes [40] hW hx
  have K2 : ((t.kind : Int) == 2) = false := by rw [beq_eq_false_iff_ne]; omega
  have K3 : ((t.kind : Int) == 3) = false := by rw [beq_eq_false_iff_ne]; omega
  have K1 : ((t.kind : Int) == 1) = true := by rw [beq_iff_eq]; omega
  clear h hk hx
  go_enter Tryz.func218, Tryz.ntmps218
  go_wp2_with (first
    | ((with_reducible refine (c0 _ HP0.out).mono ?_); rintro e w1 ⟨rfl, hp, hk⟩; have HP1 := Lib.hid hp; have HK1 := Lib.hid (HK0.out.trans hk); have hz1 := rowK HZ.out hlt HK1.out; clear hp hk)
    | ((with_reducible refine (c1 _ HP1.out).mono ?_); rintro e w2 ⟨rfl, hp, hk⟩; have HP2 := Lib.hid hp; have HK2 := Lib.hid (HK1.out.trans hk); have hz2 := rowK HZ.out hlt HK2.out; clear hp hk)
    | ((with_reducible refine (c2 _ HP2.out).mono ?_); rintro e w3 ⟨rfl, hp, hk⟩; have HP3 := Lib.hid hp; have HK3 := Lib.hid (HK2.out.trans hk); have hz3 := rowK HZ.out hlt HK3.out; clear hp hk)
    | ((with_reducible refine (c3 _ HP3.out).mono ?_); rintro e w4 ⟨rfl, hp, hk⟩; have HP4 := Lib.hid hp; have HK4 := Lib.hid (HK3.out.trans hk); have hz4 := rowK HZ.out hlt HK4.out; clear hp hk)
    | ((with_reducible refine (ca _ HP4.out).mono ?_); rintro e w5 ⟨v, rfl, hks, hp, hk⟩; obtain ⟨ad, l, q, rfl⟩ := hks.slice; have HP5 := Lib.hid hp; have HK5 := Lib.hid (HK4.out.trans hk); have hz5 := rowK HZ.out hlt HK5.out; have HX := Lib.hid hks; clear hp hk hks)
    | ((with_reducible refine store8 rfl (.tmp 2) (.tmp 46) rfl w.heap.size 7 0 0 0 t.place ⟨#[]⟩ ⟨t.text.toArray⟩ ad l q ?xa ?xb z8 rfl hz5 ?_); (case xa => simp [go_sem]); (case xb => simp [go_sem])))
  refine fin_atom _ _ _ _ _ _ _ _ _ (by simp) hz5 ⟨_, rfl, ?_, HP5.out.row (by omega) _, HK5.out.first.row (Nat.le_refl _) _⟩
  have hs4 := HK4.out.size
  simp only [World.size_alloc] at hs4
  exact .mk 7 [] t.text 0 0 ks 0 t.place _ (HX.out.mono (Same.row (G := G) (Keep.refl G w5) (by omega) (by omega) _) (New.le (by omega)))
set_option maxRecDepth 100000 in
set_option maxHeartbeats 4000000 in
theorem atom_open {w : World} {G d : Nat} {t u v : Tok} {r r2 : List Tok} {x : Ex} (h : PAt N w G (t :: u :: r) d) (h2 : t.kind ≠ 2) (h3 : t.kind ≠ 3) (h1 : t.kind ≠ 1) (hx : Pa.sees (t :: u :: r) [[40]] = true) (ca : ∀ W, PAt N W G (u :: r) d → Calls Tryz.prog 96 #[ptr G] W (ExOk N G d x (v :: r2) W)) (hy : Pa.sees (v :: r2) [[41]] = false) :
    Calls Tryz.prog 218 #[ptr G] w (BadPost G (v.place : Int) 11 w) := by
  have hlt := h.base
  have HP0 := Lib.hid (h.below ((Below.refl _ _).alloc (Nat.le_refl _) (.cells z8 TE)))
  have HK0 := Lib.hid (Keep.refl G (w.alloc (.cells z8 TE)))
  have HZ := Lib.hid (heap_alloc_new w (.cells z8 TE))
  have c0 : ∀ W, PAt N W G (t :: u :: r) d → Calls Tryz.prog 64 #[ptr G] W (OkPost N G d (tokV t) (t :: u :: r) W) := fun W hW => next2 hW
  have c1 : ∀ W, PAt N W G (t :: u :: r) d → Calls Tryz.prog 64 #[ptr G] W (OkPost N G d (tokV t) (t :: u :: r) W) := fun W hW => next2 hW
  have c2 : ∀ W, PAt N W G (t :: u :: r) d → Calls Tryz.prog 95 #[ptr G, sl1 W] (one W #[40]) (OkPost N G d (.string ⟨t.text.toArray⟩) (u :: r) W) := fun W hW => want1_yes [40] hW hx
  have c4 : ∀ W, PAt N W G (v :: r2) d → Calls Tryz.prog 95 #[ptr G, sl1 W] (one W #[41]) (BadPost G (v.place : Int) 11 W) := fun W hW => want1_no [41] hW hy
  have K2 : ((t.kind : Int) == 2) = false := by rw [beq_eq_false_iff_ne]; omega
  have K3 : ((t.kind : Int) == 3) = false := by rw [beq_eq_false_iff_ne]; omega
  have K1 : ((t.kind : Int) == 1) = false := by rw [beq_eq_false_iff_ne]; omega
  clear h h1 h2 h3 hx hy
  go_enter Tryz.func218, Tryz.ntmps218
  go_wp2_with (first
    | ((with_reducible refine (c0 _ HP0.out).mono ?_); rintro e w1 ⟨rfl, hp, hk⟩; have HP1 := Lib.hid hp; have HK1 := Lib.hid (HK0.out.trans hk); have hz1 := rowK HZ.out hlt HK1.out; clear hp hk)
    | ((with_reducible refine (c1 _ HP1.out).mono ?_); rintro e w2 ⟨rfl, hp, hk⟩; have HP2 := Lib.hid hp; have HK2 := Lib.hid (HK1.out.trans hk); have hz2 := rowK HZ.out hlt HK2.out; clear hp hk)
    | ((with_reducible refine (c2 _ HP2.out).mono ?_); rintro e w3 ⟨rfl, hp, hk⟩; have HP3 := Lib.hid hp; have HK3 := Lib.hid (HK2.out.trans hk); have hz3 := rowK HZ.out hlt HK3.out; clear hp hk)
    | ((with_reducible refine (ca _ HP3.out).mono ?_); rintro e w4 ⟨c, rfl, hex, hp, hk⟩; obtain ⟨k1, op1, nm1, n1, b1, t1, p1, a1, l1, q1, e1, z1, -⟩ := hex.eight; rw [e1]; have HP4 := Lib.hid (hp.below ((Below.refl _ _).alloc (Nat.le_refl _) (.cells (ex8 k1 ⟨op1.toArray⟩ ⟨nm1.toArray⟩ n1 b1 (.slice a1 l1 q1) t1 p1) TE))); have HA4 := Lib.hid (Keep.of (G := G) ((Below.refl w4.heap.size w4).alloc (Nat.le_refl _) (.cells (ex8 k1 ⟨op1.toArray⟩ ⟨nm1.toArray⟩ n1 b1 (.slice a1 l1 q1) t1 p1) TE))); have HK4 := Lib.hid ((HK3.out.trans hk).trans HA4.out); have HN4 := Lib.hid (heap_alloc_new w4 (.cells (ex8 k1 ⟨op1.toArray⟩ ⟨nm1.toArray⟩ n1 b1 (.slice a1 l1 q1) t1 p1) TE)); have HS4 := Lib.hid hk.size; have HX := Lib.hid hex; have HE := Lib.hid e1; clear hp hk hex e1)
    | (have c4' := c4 _ HP4.out; simp only [sl1, one, World.size_alloc] at c4'; (with_reducible refine c4'.mono ?_); rintro e w5 ⟨rfl, hp, hk⟩; have HW := Lib.hid hp; have HK5 := Lib.hid (HK4.out.trans hk); clear hp hk))
  exact ⟨rfl, rfl, HW.out, HK5.out.first⟩
set_option maxRecDepth 100000 in
set_option maxHeartbeats 4000000 in
theorem atom_paren {w : World} {G d : Nat} {t u v y : Tok} {r r2 : List Tok} {x : Ex} (h : PAt N w G (t :: u :: r) d) (h2 : t.kind ≠ 2) (h3 : t.kind ≠ 3) (h1 : t.kind ≠ 1) (hx : Pa.sees (t :: u :: r) [[40]] = true) (ca : ∀ W, PAt N W G (u :: r) d → Calls Tryz.prog 96 #[ptr G] W (ExOk N G d x (v :: y :: r2) W)) (hy : Pa.sees (v :: y :: r2) [[41]] = true) :
    Calls Tryz.prog 218 #[ptr G] w (ExOk N G d x (y :: r2) w) := by
  have hlt := h.base
  have HP0 := Lib.hid (h.below ((Below.refl _ _).alloc (Nat.le_refl _) (.cells z8 TE)))
  have HK0 := Lib.hid (Keep.refl G (w.alloc (.cells z8 TE)))
  have HZ := Lib.hid (heap_alloc_new w (.cells z8 TE))
  have c0 : ∀ W, PAt N W G (t :: u :: r) d → Calls Tryz.prog 64 #[ptr G] W (OkPost N G d (tokV t) (t :: u :: r) W) := fun W hW => next2 hW
  have c1 : ∀ W, PAt N W G (t :: u :: r) d → Calls Tryz.prog 64 #[ptr G] W (OkPost N G d (tokV t) (t :: u :: r) W) := fun W hW => next2 hW
  have c2 : ∀ W, PAt N W G (t :: u :: r) d → Calls Tryz.prog 95 #[ptr G, sl1 W] (one W #[40]) (OkPost N G d (.string ⟨t.text.toArray⟩) (u :: r) W) := fun W hW => want1_yes [40] hW hx
  have c4 : ∀ W, PAt N W G (v :: y :: r2) d → Calls Tryz.prog 95 #[ptr G, sl1 W] (one W #[41]) (OkPost N G d (.string ⟨v.text.toArray⟩) (y :: r2) W) := fun W hW => want1_yes [41] hW hy
  have K2 : ((t.kind : Int) == 2) = false := by rw [beq_eq_false_iff_ne]; omega
  have K3 : ((t.kind : Int) == 3) = false := by rw [beq_eq_false_iff_ne]; omega
  have K1 : ((t.kind : Int) == 1) = false := by rw [beq_eq_false_iff_ne]; omega
  clear h h1 h2 h3 hx hy
  go_enter Tryz.func218, Tryz.ntmps218
  go_wp2_with (first
    | ((with_reducible refine (c0 _ HP0.out).mono ?_); rintro e w1 ⟨rfl, hp, hk⟩; have HP1 := Lib.hid hp; have HK1 := Lib.hid (HK0.out.trans hk); have hz1 := rowK HZ.out hlt HK1.out; clear hp hk)
    | ((with_reducible refine (c1 _ HP1.out).mono ?_); rintro e w2 ⟨rfl, hp, hk⟩; have HP2 := Lib.hid hp; have HK2 := Lib.hid (HK1.out.trans hk); have hz2 := rowK HZ.out hlt HK2.out; clear hp hk)
    | ((with_reducible refine (c2 _ HP2.out).mono ?_); rintro e w3 ⟨rfl, hp, hk⟩; have HP3 := Lib.hid hp; have HK3 := Lib.hid (HK2.out.trans hk); have hz3 := rowK HZ.out hlt HK3.out; clear hp hk)
    | ((with_reducible refine (ca _ HP3.out).mono ?_); rintro e w4 ⟨c, rfl, hex, hp, hk⟩; obtain ⟨k1, op1, nm1, n1, b1, t1, p1, a1, l1, q1, e1, z1, -⟩ := hex.eight; rw [e1]; have HP4 := Lib.hid (hp.below ((Below.refl _ _).alloc (Nat.le_refl _) (.cells (ex8 k1 ⟨op1.toArray⟩ ⟨nm1.toArray⟩ n1 b1 (.slice a1 l1 q1) t1 p1) TE))); have HA4 := Lib.hid (Keep.of (G := G) ((Below.refl w4.heap.size w4).alloc (Nat.le_refl _) (.cells (ex8 k1 ⟨op1.toArray⟩ ⟨nm1.toArray⟩ n1 b1 (.slice a1 l1 q1) t1 p1) TE))); have HK4 := Lib.hid ((HK3.out.trans hk).trans HA4.out); have HN4 := Lib.hid (heap_alloc_new w4 (.cells (ex8 k1 ⟨op1.toArray⟩ ⟨nm1.toArray⟩ n1 b1 (.slice a1 l1 q1) t1 p1) TE)); have HS4 := Lib.hid hk.size; have HX := Lib.hid hex; have HE := Lib.hid e1; clear hp hk hex e1)
    | (have c4' := c4 _ HP4.out; simp only [sl1, one, World.size_alloc] at c4'; (with_reducible refine c4'.mono ?_); rintro e w5 ⟨rfl, hp, hk⟩; have HP5 := Lib.hid hp; have HK5 := Lib.hid (HK4.out.trans hk); have hz5 := rowK HZ.out hlt HK5.out; have hs3 := HK3.out.size; have hs4 := HS4.out; simp only [World.size_alloc] at hs3; have hN5 := (hk.block _ (by simp) (by omega)).trans HN4.out; have HA5 := Lib.hid (HA4.out.trans hk); clear hp hk)
    | ((with_reducible refine load8 rfl (.tmp 7) rfl w4.heap.size k1 n1 b1 t1 p1 ⟨op1.toArray⟩ ⟨nm1.toArray⟩ (.slice a1 l1 q1) ?xc hN5 ?_); (case xc => simp [go_sem]))
    | ((with_reducible refine store8 rfl (.tmp 2) (.tmp 58) rfl w.heap.size k1 n1 b1 t1 p1 ⟨op1.toArray⟩ ⟨nm1.toArray⟩ a1 l1 q1 ?xa ?xb z8 rfl hz5 ?_); (case xa => simp [go_sem]); (case xb => simp [go_sem])))
  refine fin_atom _ _ _ _ _ _ _ _ _ (by simp) hz5 ⟨c, by rw [HE.out], ?_, HP5.out.row (by omega) _, HK5.out.first.row (Nat.le_refl _) _⟩
  exact HX.out.mono (Same.row (G := G) HA5.out (by omega) (by omega) _) (New.le (by omega))
end PaC
end Go.Proofs.YtnlbhnmiekanfaaGreatDoor
/-
  The parser's expressions: what goes deeper goes back. Condition: what the parser holds lies in memory.
-/
namespace Go.Proofs.YtnlbhnmiekanfaaGreatDoor
open Go.RowKit
set_option linter.unusedVariables false
set_option linter.unusedSimpArgs false
namespace PaC
open Pa Lx
attribute [local go_sem] fld0 fld1 fld2
variable {N : Nat} {Rl : Bs → Prop}
set_option maxRecDepth 100000 in
set_option maxHeartbeats 4000000 in
theorem expr_deep {w : World} {G d : Nat} {t : Tok} {r : List Tok} (h : PAt N w G (t :: r) d) (hd : 40 ≤ d) : Calls Tryz.prog 96 #[ptr G] w (BadPost G (t.place : Int) 12 w) := by
  have hb : Below w.heap.size w (w.alloc (.cells z8 TE)) := (Below.refl _ _).alloc (Nat.le_refl _) _
  have cd := deeper_no (h.below hb) hd
  have HB := Lib.hid hb
  clear h hb hd
  go_enter_defers Tryz.func96, Tryz.ntmps96
  go_wp2_with ((with_reducible refine cd.mono ?_); rintro e w1 ⟨rfl, hp, hk⟩; have HW := Lib.hid hp; have HK := Lib.hid hk; clear hp hk cd)
  exact ⟨rfl, HW.out, (Keep.of HB.out).trans HK.out⟩
/-- the deferred call that goes back -/
theorem goes_back {N : Nat} {w : World} {G B d : Nat} {ts : List Tok} (h : PAt N w G ts (d + 1)) (hd : d < 40) (h2 : w.heap[B]? = some (.cells #[ptr G] 121 (0, 0))) (u : FrameMode) :
    CallsD Tryz.prog 170 #[.pointer (some ⟨B, 0, none⟩)] u w fun e u' w' => u' = u ∧ e = .returned (.tuple #[]) ∧ PAt N w' G ts d ∧ Keep G w w' := by
  obtain ⟨a, b, h1, h3⟩ := h.back (by omega)
  refine (back_ h1 h2 u).mono ?_
  rintro e u' w' ⟨rfl, rfl, rfl⟩
  exact ⟨rfl, rfl, h3, (Keep.refl G w).set 2 _⟩
/-- and behind what was thrown -/
theorem falls_back {w : World} {G B : Nat} (h : PWk w G) (h2 : w.heap[B]? = some (.cells #[ptr G] 121 (0, 0))) (u : FrameMode) :
    CallsD Tryz.prog 170 #[.pointer (some ⟨B, 0, none⟩)] u w fun e u' w' => u' = u ∧ e = .returned (.tuple #[]) ∧ PWk w' G ∧ Keep G w w' := by
  obtain ⟨a, b, d, h1⟩ := h
  refine (back_ h1 h2 u).mono ?_
  rintro e u' w' ⟨rfl, rfl, rfl⟩
  exact ⟨rfl, rfl, PWk.back ⟨a, b, d, h1⟩ _, (Keep.refl G w).set 2 _⟩
/-- one deeper, behind one cell of a result -/
theorem deeper2 {w : World} {G d : Nat} {ts : List Tok} {o : Obj} (h : PAt N w G ts d) (hne : ts ≠ []) (hd : d < 40) : Calls Tryz.prog 138 #[ptr G] (w.alloc o) fun e w' =>
    e = .returned (.func (.func 170) #[] #[.pointer (some ⟨w.heap.size + 1, 0, none⟩)]) ∧ w'.heap[w.heap.size + 1]? = some (.cells #[ptr G] 121 (0, 0)) ∧ PAt N w' G ts (d + 1) ∧ Keep G (w.alloc o) w' := by
  refine (deeper_yes (h.below ((Below.refl _ _).alloc (Nat.le_refl _) o)) hd).mono fun e w' hq => ?_
  obtain ⟨h1, h2, h3, h4⟩ := hq
  simp only [World.size_alloc] at h1 h2
  exact ⟨h1, h2, h3, h4⟩
/-- what lies in a block of its own lies there still -/
theorem Keep.at {w w' : World} {G B : Nat} {o : Obj} (h : Keep G w w') (hB : B ≠ G) (hv : w.heap[B]? = some o) : w'.heap[B]? = some o := by
  rw [h.block B (Array.getElem?_eq_some_iff.1 hv).1 hB]
  exact hv
set_option maxRecDepth 100000 in
set_option maxHeartbeats 4000000 in
theorem expr_bin_bad {w : World} {G d p er : Nat} {t : Tok} {r : List Tok} (h : PAt N w G (t :: r) d) (hd : d < 40)
    (cb : ∀ W, PAt N W G (t :: r) (d + 1) → Calls Tryz.prog 139 #[ptr G, .int .i64 0] W (BadPost G (p : Int) (er : Int) W)) : Calls Tryz.prog 96 #[ptr G] w (BadPost G (p : Int) (er : Int) w) := by
  have hlt := h.base
  have cd := deeper2 (o := .cells z8 TE) h (by simp) hd
  clear h hd
  go_enter_defers Tryz.func96, Tryz.ntmps96
  go_wp2_with (first
    | ((with_reducible refine cd.mono ?_); rintro e w1 ⟨rfl, hv, hp, hk⟩; have HV := Lib.hid hv; have HP1 := Lib.hid hp; have HK1 := Lib.hid hk; clear hp hk cd hv)
    | ((with_reducible refine (cb _ HP1.out).mono ?_); rintro e w2 ⟨rfl, hp, hk⟩; have HW := Lib.hid hp; have HV2 := Lib.hid (hk.at (by omega) HV.out); have HK2 := Lib.hid (HK1.out.trans hk); clear hp hk))
  refine leaves_cons (f := 170) (args := #[.pointer (some ⟨w.heap.size + 1, 0, none⟩)]) (by simp) (by simp [go_sem]) ?_
  refine (falls_back HW.out HV2.out _).mono ?_
  rintro e u' w3 ⟨rfl, rfl, hp3, hk3⟩
  exact ⟨rfl, hp3, (HK2.out.trans hk3).first⟩
/-- the result is read, behind what went back -/
theorem leaves_ex {R : Ending → World → Prop} {tmps : Array Value} {B : Nat} {w w' : World} {G : Nat} (k n b t p : Int) (op nm : ByteArray) (kv : Value) (old : Array Value)
    (hp : tmps.getD 2 undef = .pointer (some ⟨B, 0, none⟩)) (hB : B ≠ G) (hg : w.heap[B]? = some (.cells old TE (0, 0))) (hk : Keep G (w.setRow B (ex8 k op nm n b kv t p)) w') (hQ : R (.returned (.agg (ex8 k op nm n b kv t p))) w') :
    Leaves Tryz.prog Tryz.f96 tmps R [] .returning w' :=
  ⟨_, results_cell_row Tryz.results96 tmps w' B TE (ex8 k op nm n b kv t p) (0, 0) _ hp (hk.at hB (setRow_heap _ _ _ _ _ _ hg)) Tryz.underlying41 rfl (size8 k n b t p op nm kv), hQ⟩
set_option maxRecDepth 100000 in
set_option maxHeartbeats 4000000 in
theorem expr_plain {w : World} {G d : Nat} {t u : Tok} {r r2 : List Tok} {x : Ex} (h : PAt N w G (t :: r) d) (hd : d < 40)
    (cb : ∀ W, PAt N W G (t :: r) (d + 1) → Calls Tryz.prog 139 #[ptr G, .int .i64 0] W (ExOk N G (d + 1) x (u :: r2) W)) (hx : Pa.sees (u :: r2) [[61]] = false) : Calls Tryz.prog 96 #[ptr G] w (ExOk N G d x (u :: r2) w) := by
  have hlt := h.base
  have cd := deeper2 (o := .cells z8 TE) h (by simp) hd
  have ct : ∀ W, PAt N W G (u :: r2) (d + 1) → Calls Tryz.prog 92 #[ptr G, sl1 W] (one W #[61]) (OkPost N G (d + 1) (.bool false) (u :: r2) W) := fun W hW => takes1_no [61] hW hx
  have HD := Lib.hid hd
  have HZ := Lib.hid (heap_alloc_new w (.cells z8 TE))
  clear h hd hx
  go_enter_defers Tryz.func96, Tryz.ntmps96
  go_wp2_with (first
    | ((with_reducible refine cd.mono ?_); rintro e w1 ⟨rfl, hv, hp, hk⟩; have HV := Lib.hid hv; have HP1 := Lib.hid hp; have HK1 := Lib.hid hk; clear hp hk cd hv)
    | ((with_reducible refine (cb _ HP1.out).mono ?_); rintro e w4 ⟨c, rfl, hex, hp, hk⟩; obtain ⟨k1, op1, nm1, n1, b1, t1, p1, a1, l1, q1, e1, z1, -⟩ := hex.eight; rw [e1]; have HP4 := Lib.hid (hp.below ((Below.refl _ _).alloc (Nat.le_refl _) (.cells (ex8 k1 ⟨op1.toArray⟩ ⟨nm1.toArray⟩ n1 b1 (.slice a1 l1 q1) t1 p1) TE))); have HA4 := Lib.hid (Keep.of (G := G) ((Below.refl w4.heap.size w4).alloc (Nat.le_refl _) (.cells (ex8 k1 ⟨op1.toArray⟩ ⟨nm1.toArray⟩ n1 b1 (.slice a1 l1 q1) t1 p1) TE))); have HK4 := Lib.hid ((HK1.out.trans hk).trans HA4.out); have HV4 := Lib.hid ((hk.trans HA4.out).at (by omega) HV.out); have HN4 := Lib.hid (heap_alloc_new w4 (.cells (ex8 k1 ⟨op1.toArray⟩ ⟨nm1.toArray⟩ n1 b1 (.slice a1 l1 q1) t1 p1) TE)); have HS4 := Lib.hid hk.size; have HX := Lib.hid hex; have HE := Lib.hid e1; clear hp hk hex e1)
    | (have ct' := ct _ HP4.out; simp only [sl1, one, World.size_alloc] at ct'; (with_reducible refine ct'.mono ?_); rintro e w5 ⟨rfl, hp, hk⟩; have HP5 := Lib.hid hp; have HK5 := Lib.hid (HK4.out.trans hk); have hz5 := rowK HZ.out hlt HK5.out; have hs3 := HK1.out.size; have hs4 := HS4.out; simp only [World.size_alloc] at hs3; have hN5 := hk.at (by omega) HN4.out; have HV5 := Lib.hid (hk.at (by omega) HV4.out); have HA5 := Lib.hid (HA4.out.trans hk); clear hp hk)
    | ((with_reducible refine load8 rfl (.tmp 3) rfl w4.heap.size k1 n1 b1 t1 p1 ⟨op1.toArray⟩ ⟨nm1.toArray⟩ (.slice a1 l1 q1) ?xc hN5 ?_); (case xc => simp [go_sem]))
    | ((with_reducible refine store8 rfl (.tmp 2) (.tmp 15) rfl w.heap.size k1 n1 b1 t1 p1 ⟨op1.toArray⟩ ⟨nm1.toArray⟩ a1 l1 q1 ?xa ?xb z8 rfl hz5 ?_); (case xa => simp [go_sem]); (case xb => simp [go_sem])))
  refine leaves_cons (f := 170) (args := #[.pointer (some ⟨w.heap.size + 1, 0, none⟩)]) (by simp) (by simp [go_sem]) ?_
  refine (goes_back (HP5.out.row (by omega) _) HD.out ((setRow_other _ _ _ _ (by omega)).trans HV5.out) _).mono ?_
  rintro e u' w6 ⟨rfl, rfl, hp6, hk6⟩
  refine leaves_ex _ _ _ _ _ _ _ _ _ rfl (by omega) hz5 hk6 ⟨c, by rw [HE.out], ?_, hp6, ((HK5.out.first.row (Nat.le_refl _) _).trans hk6)⟩
  refine (HX.out.mono (Same.row (G := G) HA5.out (by omega) (by omega) _) (New.le (by omega))).mono (Same.of hk6 (by omega)) fun b hb => hb
end PaC
end Go.Proofs.YtnlbhnmiekanfaaGreatDoor
