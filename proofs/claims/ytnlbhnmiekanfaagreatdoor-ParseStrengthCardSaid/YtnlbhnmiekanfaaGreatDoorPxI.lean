/-
  ParPr ParPs ParDa ParDb, joined.
  Conditions: those that are written at each.
-/
import Derived.Test.YtnlbhnmiekanfaaGreatDoorPxH
/-
  The parser's params. Condition: what the parser holds lies in memory.
-/
namespace Go.Proofs.YtnlbhnmiekanfaaGreatDoor
open Go.RowKit Go.Deep
set_option linter.unusedVariables false
set_option linter.unusedSimpArgs false
namespace PaC
open Pa Lx
attribute [local go_sem] fld0 fld1 fld2
variable {N : Nat} {Rl : Bs → Prop} {rb : Bs → Nat}
abbrev TPr : TypeId := 186
abbrev pc3 (nm : ByteArray) (t p : Int) : Array Value := #[.string nm, .int .i64 t, .int .i64 p]
theorem size3 (nm : ByteArray) (t p : Int) : (Tryz.prog.info? TPr).map (·.size) = some (pc3 nm t p).size := by kernel_rfl
theorem infoP3 : (Tryz.prog.info? TPr).map (fun i => (i.zero, i.size, i.bytes)) = some (some (.agg (pc3 ⟨#[]⟩ 0 0)), 3, 32) := by kernel_rfl
theorem one3 (nm : ByteArray) (t p : Int) : (pc3 nm t p).all (·.oneCell') = true := by simp [pc3, Value.oneCell']
theorem pr_one (nm : ByteArray) (t p : Int) : ∀ u ∈ (pc3 nm t p).toList, u.oneCell' = true := by
  have := one3 nm t p
  rw [Array.all_eq_true_iff_forall_mem] at this
  exact fun u hu => this u (Array.mem_toList_iff.1 hu)
/-- a param, and what is left -/
def PrOk (N G d : Nat) (x : Pr) (r : List Tok) (w : World) (e : Ending) (w' : World) : Prop := e = .returned (.agg (pc3 ⟨x.name.toArray⟩ x.type x.place)) ∧ PAt N w' G r d ∧ Keep G w w'
/-- params in memory, and what is left -/
def PsOk (N G d : Nat) (ks : List Pr) (r : List Tok) (w : World) (e : Ending) (w' : World) : Prop := ∃ v, e = .returned v ∧ PsAt (New w.heap.size) w' ks v ∧ PAt N w' G r d ∧ Keep G w w'
abbrev RP : (Nat → Prop) → World → Pr → List Value → Prop := fun _ _ p c => c = pr3 p
section
variable {ops : Array Oper} {rest : List Oper} {o : Oper} {a : Act} {w : World} {Q : Exit → Act → World → Prop}
theorem store3 (hgd : o.guard = none) (x y : Operand) (ho : o.op = .store TPr x y) (g : Nat) (nm : ByteArray) (t p : Int) (hx : a.eval x = .pointer (some ⟨g, 0, none⟩)) (hy : a.eval y = .agg (pc3 nm t p)) (old : Array Value) (h8 : old.size = 3)
    (hg : w.heap[g]? = some (.cells old TPr (0, 0))) (h : wpList Tryz.prog ops Q rest (a.put o.dst undef) (w.setRow g (pc3 nm t p))) : wpList Tryz.prog ops Q (o :: rest) a w :=
  wpList_store_row hgd TPr x y ho g (pc3 nm t p) hx hy TPr old hg (size3 nm t p) (by rw [h8]; rfl) (one3 nm t p) h
end
theorem fin_param {Q : Ending → World → Prop} (nm : ByteArray) (t p : Int) {tmps : Array Value} {B : Nat} {w : World} (old : Array Value)
    (hp : tmps.getD 2 undef = .pointer (some ⟨B, 0, none⟩)) (hg : w.heap[B]? = some (.cells old TPr (0, 0))) (hQ : Q (.returned (.agg (pc3 nm t p))) (w.setRow B (pc3 nm t p))) :
    bodyPost Tryz.prog Tryz.f145 Q .ret { tmps := tmps, defers := [] } (w.setRow B (pc3 nm t p)) :=
  bodyPost_ret (v := .agg (pc3 nm t p)) (results_cell_row Tryz.results145 tmps _ B TPr (pc3 nm t p) (0, 0) _ hp (setRow_heap _ _ _ _ _ _ hg) Tryz.underlying186 rfl (size3 nm t p)) rfl hQ
set_option maxRecDepth 100000 in
set_option maxHeartbeats 8000000 in
theorem param_typed {w : World} {G d : Nat} {ts : List Tok} {p er : Nat} (h : PAt N w G ts d) (hg : Good Rl ts) (h1 : pType ts = .bad p er) :
    Calls Tryz.prog 145 #[ptr G] w (BadPost G (p : Int) (er : Int) w) := by
  have hlt := h.base
  have HP0 := Lib.hid (h.below ((Below.refl _ _).alloc (Nat.le_refl _) (.cells (pc3 ⟨#[]⟩ 0 0) TPr)))
  have HK0 := Lib.hid (Keep.refl G (w.alloc (.cells (pc3 ⟨#[]⟩ 0 0) TPr)))
  have HZ := Lib.hid (heap_alloc_new w (.cells (pc3 ⟨#[]⟩ 0 0) TPr))
  have c0 : ∀ W, PAt N W G ts d → Calls Tryz.prog 64 #[ptr G] W (OkPost N G d (tokV (Pa.hd ts)) ts W) := fun W hW => nextL hg hW
  have c1 : ∀ W, PAt N W G ts d → Calls Tryz.prog 93 #[ptr G] W (BadPost G (p : Int) (er : Int) W) := fun W hW => by have := typedL hg hW; rw [h1] at this; exact this
  clear h h1
  go_enter Tryz.func145, Tryz.ntmps145
  go_wp2_with (first
    | ((with_reducible refine (c0 _ HP0.out).mono ?_); rintro e w1 ⟨rfl, hp, hk⟩; have HP1 := Lib.hid hp; have HK1 := Lib.hid (HK0.out.trans hk); have hz1 := rowK HZ.out hlt HK1.out; clear hp hk c0)
    | ((with_reducible refine (c1 _ HP1.out).mono ?_); rintro e w2 ⟨rfl, hp, hk⟩; have HW := Lib.hid hp; have HK2 := Lib.hid (HK1.out.trans hk); clear hp hk c1))
  exact ⟨rfl, rfl, HW.out, HK2.out.first⟩
set_option maxRecDepth 100000 in
set_option maxHeartbeats 8000000 in
theorem param_name {w : World} {G d : Nat} {ts r1 : List Tok} {a p er : Nat} (h : PAt N w G ts d) (hg : Good Rl ts) (h1 : pType ts = .ok a r1) (g1 : Good Rl r1) (h2 : pName r1 = .bad p er) :
    Calls Tryz.prog 145 #[ptr G] w (BadPost G (p : Int) (er : Int) w) := by
  have hlt := h.base
  have HP0 := Lib.hid (h.below ((Below.refl _ _).alloc (Nat.le_refl _) (.cells (pc3 ⟨#[]⟩ 0 0) TPr)))
  have HK0 := Lib.hid (Keep.refl G (w.alloc (.cells (pc3 ⟨#[]⟩ 0 0) TPr)))
  have HZ := Lib.hid (heap_alloc_new w (.cells (pc3 ⟨#[]⟩ 0 0) TPr))
  have c0 : ∀ W, PAt N W G ts d → Calls Tryz.prog 64 #[ptr G] W (OkPost N G d (tokV (Pa.hd ts)) ts W) := fun W hW => nextL hg hW
  have c1 : ∀ W, PAt N W G ts d → Calls Tryz.prog 93 #[ptr G] W (OkPost N G d (.int .i64 (a : Int)) r1 W) := fun W hW => by have := typedL hg hW; rw [h1] at this; exact this
  have c2 : ∀ W, PAt N W G r1 d → Calls Tryz.prog 94 #[ptr G] W (BadPost G (p : Int) (er : Int) W) := fun W hW => by have := nameL g1 hW; rw [h2] at this; exact this
  clear h h1 h2
  go_enter Tryz.func145, Tryz.ntmps145
  go_wp2_with (first
    | ((with_reducible refine (c0 _ HP0.out).mono ?_); rintro e w1 ⟨rfl, hp, hk⟩; have HP1 := Lib.hid hp; have HK1 := Lib.hid (HK0.out.trans hk); have hz1 := rowK HZ.out hlt HK1.out; clear hp hk c0)
    | ((with_reducible refine (c1 _ HP1.out).mono ?_); rintro e w2 ⟨rfl, hp, hk⟩; have HP2 := Lib.hid hp; have HK2 := Lib.hid (HK1.out.trans hk); have hz2 := rowK HZ.out hlt HK2.out; clear hp hk c1)
    | ((with_reducible refine (c2 _ HP2.out).mono ?_); rintro e w3 ⟨rfl, hp, hk⟩; have HW := Lib.hid hp; have HK3 := Lib.hid (HK2.out.trans hk); clear hp hk c2))
  exact ⟨rfl, rfl, HW.out, HK3.out.first⟩
set_option maxRecDepth 100000 in
set_option maxHeartbeats 8000000 in
theorem param_ok {w : World} {G d : Nat} {ts r1 r2 : List Tok} {a : Nat} {nm : Bs} (h : PAt N w G ts d) (hg : Good Rl ts) (h1 : pType ts = .ok a r1) (g1 : Good Rl r1) (h2 : pName r1 = .ok nm r2) :
    Calls Tryz.prog 145 #[ptr G] w (PrOk N G d ⟨nm, a, (Pa.hd ts).place⟩ r2 w) := by
  have hlt := h.base
  have HP0 := Lib.hid (h.below ((Below.refl _ _).alloc (Nat.le_refl _) (.cells (pc3 ⟨#[]⟩ 0 0) TPr)))
  have HK0 := Lib.hid (Keep.refl G (w.alloc (.cells (pc3 ⟨#[]⟩ 0 0) TPr)))
  have HZ := Lib.hid (heap_alloc_new w (.cells (pc3 ⟨#[]⟩ 0 0) TPr))
  have c0 : ∀ W, PAt N W G ts d → Calls Tryz.prog 64 #[ptr G] W (OkPost N G d (tokV (Pa.hd ts)) ts W) := fun W hW => nextL hg hW
  have c1 : ∀ W, PAt N W G ts d → Calls Tryz.prog 93 #[ptr G] W (OkPost N G d (.int .i64 (a : Int)) r1 W) := fun W hW => by have := typedL hg hW; rw [h1] at this; exact this
  have c2 : ∀ W, PAt N W G r1 d → Calls Tryz.prog 94 #[ptr G] W (OkPost N G d (.string ⟨nm.toArray⟩) r2 W) := fun W hW => by have := nameL g1 hW; rw [h2] at this; exact this
  clear h h1 h2
  go_enter Tryz.func145, Tryz.ntmps145
  go_wp2_with (first
    | ((with_reducible refine (c0 _ HP0.out).mono ?_); rintro e w1 ⟨rfl, hp, hk⟩; have HP1 := Lib.hid hp; have HK1 := Lib.hid (HK0.out.trans hk); have hz1 := rowK HZ.out hlt HK1.out; clear hp hk c0)
    | ((with_reducible refine (c1 _ HP1.out).mono ?_); rintro e w2 ⟨rfl, hp, hk⟩; have HP2 := Lib.hid hp; have HK2 := Lib.hid (HK1.out.trans hk); have hz2 := rowK HZ.out hlt HK2.out; clear hp hk c1)
    | ((with_reducible refine (c2 _ HP2.out).mono ?_); rintro e w3 ⟨rfl, hp, hk⟩; have HP3 := Lib.hid hp; have HK3 := Lib.hid (HK2.out.trans hk); have hz3 := rowK HZ.out hlt HK3.out; clear hp hk c2)
    | ((with_reducible refine store3 rfl (.tmp 2) (.tmp 14) rfl w.heap.size ⟨nm.toArray⟩ a (Pa.hd ts).place ?xa ?xb (pc3 ⟨#[]⟩ 0 0) rfl hz3 ?_); (case xa => simp [go_sem]); (case xb => simp [go_sem])))
  exact fin_param _ _ _ _ (by simp) hz3 ⟨rfl, HP3.out.row (by omega) _, HK3.out.first.row (Nat.le_refl _) _⟩
theorem param_step {G d : Nat} {ts : List Tok} (hg : Good Rl ts) : ConW (PrOk N G d) N G Rl 145 #[ptr G] d ts (pParam ts) := by
  have e : pParam ts = (pType ts).bind fun t r => (pName r).bind fun n r2 => .ok ⟨n, t, (Pa.hd ts).place⟩ r2 := by rw [pParam]
  cases h1 : pType ts with
  | out => exact absurd h1 (typed_no_out hg)
  | bad p er => rw [e, h1]; exact conS_bad fun w hp => param_typed hp hg h1
  | ok a r1 =>
    have g1 := good_typed hg h1
    have e2 : pParam ts = (pName r1).bind fun n r2 => .ok ⟨n, a, (Pa.hd ts).place⟩ r2 := by rw [e, h1]; rfl
    cases h2 : pName r1 with
    | out => exact absurd h2 name_no_out
    | bad p er => rw [e2, h2]; exact conS_bad fun w hp => param_name hp hg h1 g1 h2
    | ok nm r2 => rw [e2, h2]; exact conS_ok (good_name g1 h2) fun w hp => param_ok hp hg h1 g1 h2
/-- what list is given for params -/
abbrev plistV (G : Nat) : Array Value := #[ptr G, .func (.func 145) #[ptr G] #[], .int .i64 8, .string ⟨#[41]⟩]
set_option maxRecDepth 100000 in
set_option maxHeartbeats 8000000 in
theorem plist_bad {w : World} {G d p er : Nat} {ts : List Tok} (h : PAt N w G ts d) (ca : ∀ W, PAt N W G ts d → Calls Tryz.prog 145 #[ptr G] W (BadPost G (p : Int) (er : Int) W)) :
    Calls Tryz.prog 144 (plistV G) w (BadPost G (p : Int) (er : Int) w) := by
  have HP0 := Lib.hid h
  clear h
  go_enter Tryz.func144, Tryz.ntmps144
  go_wp2_with ((with_reducible refine (ca _ HP0.out).mono ?_); rintro e w1 ⟨rfl, hp, hk⟩; have HW := Lib.hid hp; have HK1 := Lib.hid hk; clear hp hk)
  exact ⟨rfl, rfl, HW.out, HK1.out⟩
set_option maxRecDepth 100000 in
set_option maxHeartbeats 16000000 in
theorem plist_loop {w : World} {G d f : Nat} {ts r : List Tok} {x : Pr} {X : R (List Pr)} (h : PAt N w G ts d) (hgr : Good Rl r) (ca : ∀ W, PAt N W G ts d → Calls Tryz.prog 145 #[ptr G] W (PrOk N G d x r W))
    (hX : X ≠ .out) (hx : X = pParMore f [x] r) : Calls Tryz.prog 144 (plistV G) w (RPost (PsOk N G d) G X w) := by
  have hlt := h.base
  have hlt2 : G < w.heap.size := by omega
  have HP0 := Lib.hid h
  have HX := Lib.hid hx
  have HNX := Lib.hid hX
  have HG := Lib.hid hgr
  clear h hx hX hgr
  obtain ⟨i0, hi, hz0, hz1, hz2⟩ := info_parts infoP3
  go_enter Tryz.func144, Tryz.ntmps144
  go_wp2_with (first
    | ((with_reducible refine (ca _ HP0.out).mono ?_); rintro e w1 ⟨rfl, hp, hk⟩; have HI := Lib.hid (RowI.first (R := RP) (k := x) (r := pr3 x) (n := 3) (e := TPr) stays_pr HG.out hp hk rfl rfl); clear hp hk ca))
  obtain ⟨v0, hv0⟩ : ∃ v, v = Value.slice (some ⟨w1.heap.size, 0, none⟩) 1 1 := ⟨_, rfl⟩
  rw [← hv0] at HI ⊢
  clear HP0 HG hv0
  go_loopg [9] f (fun gg v wr => ∃ (acc : List Pr) (rows : List (List Value)) (ts : List Tok), gg ≤ f ∧ Aside (RowI 3 RP TPr N G d Rl w wr acc v rows ts) ∧ Aside (X = pParMore gg acc ts))
  case atStart => exact ⟨[x], _, r, Nat.le_refl _, HI.out, HX.out⟩
  case round =>
    obtain ⟨acc, rows, us, hgf, A1, A2⟩ := hrel
    obtain ⟨q, cp, rfl⟩ := row_shape A1.out.own rfl
    cases gk with
    | zero => exact absurd (A2.out.trans (by rw [pParMore])) HNX.out
    | succ g =>
    have A3 : X = (Pa.want us [[44], [41]]).bind fun s r => if s = [44] then if acc.length < 8 then (pParam r).bind fun x r2 => pParMore g (acc ++ [x]) r2 else .bad (Pa.hd r).place 5 else .ok acc r := by rw [A2.out, pParMore]
    have ct : Calls Tryz.prog 95 #[ptr G, sl2 wr] (wr.alloc (.cells #[.string ⟨#[44]⟩, .string ⟨#[41]⟩] 9)) (RPost (StrOk N G d) G (Pa.want us [[44], [41]]) wr) := wantL [[44], [41]] 2 rfl (by decide) (by decide) A1.out.good A1.out.p
    cases hw : Pa.want us [[44], [41]] with
    | out => exact absurd hw want_no_out
    | bad p er =>
      rw [hw] at ct
      have A4 : X = .bad p er := A3.trans (by rw [hw]; rfl)
      clear hw A3 A2 HX HNX
      subst A4
      go_wp2_with ((with_reducible refine ct.mono ?_); rintro e w2 ⟨rfl, hp, hk⟩; have HW := Lib.hid hp; have HK2 := Lib.hid (A1.out.keep.trans hk); clear hp hk ct)
      exact ⟨rfl, rfl, HW.out, HK2.out⟩
    | ok s r2 =>
      rw [hw] at ct
      obtain ⟨hg2, hmem⟩ := good_want A1.out.good (by decide) hw
      have HG2 := Lib.hid hg2
      by_cases hs : s = [44]
      · subst hs
        have A4 : X = if acc.length < 8 then (pParam r2).bind fun x r2 => pParMore g (acc ++ [x]) r2 else .bad (Pa.hd r2).place 5 := A3.trans (by rw [hw]; rfl)
        have ct : Calls Tryz.prog 95 #[ptr G, sl2 wr] (wr.alloc (.cells #[.string ⟨#[44]⟩, .string ⟨#[41]⟩] 9)) (OkPost N G d (.string ⟨#[44]⟩) r2 wr) := ct
        by_cases hlm : acc.length < 8
        · have A5 : X = (pParam r2).bind fun x r2 => pParMore g (acc ++ [x]) r2 := by rw [A4, if_pos hlm]
          have cp := param_step (N := N) (G := G) (d := d) hg2
          have D1 : decide ((acc.length : Int) < 8) = true := decide_eq_true (by omega)
          have D2 : (acc.length : Int) < 8 := by omega
          have D3 : decide (acc.length < 8) = true := decide_eq_true hlm
          cases hq : pParam r2 with
          | out => exact absurd (A5.trans (by rw [hq]; rfl)) HNX.out
          | bad p er =>
            have cx := cp.at_bad hq
            have A6 : X = .bad p er := A5.trans (by rw [hq]; rfl)
            clear hw A3 A2 HX HNX A4 A5 cp hq hmem hg2
            subst A6
            go_wp2_with (first
              | ((with_reducible refine ct.mono ?_); rintro e w2 ⟨rfl, hp, hk⟩; have HI2 := Lib.hid (A1.out.next stays_pr hlt2 hp hk HG2.out); clear hp hk ct)
              | ((with_reducible refine (demand_yes G 5 _).mono ?_); rintro e w3 ⟨rfl, rfl⟩)
              | ((with_reducible refine (cx _ HI2.out.p).mono ?_); rintro e w4 ⟨rfl, hp, hk⟩; have HW := Lib.hid hp; have HK4 := Lib.hid (HI2.out.keep.trans hk); clear hp hk cx))
            exact ⟨rfl, rfl, HW.out, HK4.out⟩
          | ok y r3 =>
            obtain ⟨hg3, cx⟩ := cp.at_ok hq
            have HG3 := Lib.hid hg3
            have A6 : Aside (X = pParMore g (acc ++ [y]) r3) := A5.trans (by rw [hq]; rfl)
            have hfew := A1.out.few
            clear hw A3 A2 HX HNX A4 A5 cp hq hmem hg2 hg3
            go_wp2_with (first
              | ((with_reducible refine ct.mono ?_); rintro e w2 ⟨rfl, hp, hk⟩; have HI2 := Lib.hid (A1.out.next stays_pr hlt2 hp hk HG2.out); clear hp hk ct)
              | ((with_reducible refine (demand_yes G 5 _).mono ?_); rintro e w3 ⟨rfl, rfl⟩)
              | ((with_reducible refine (cx _ HI2.out.p).mono ?_); go_must (rintro e w4 ⟨rfl, hp, hk⟩; have HI4 := Lib.hid (HI2.out.next stays_pr hlt2 hp hk HG3.out); have HI5 := Lib.hid (HI4.out.below (w2 := w4.alloc (.cells (pc3 ⟨y.name.toArray⟩ y.type y.place) TPr)) stays_pr ((Below.refl _ _).alloc (Nat.le_refl _) _)); have HB2 := Lib.hid HI2.out.block; have HK2 := Lib.hid HI2.out.keep.size; have HNW := Lib.hid (World.news_of_block (heap_alloc_new w4 (.cells (pc3 ⟨y.name.toArray⟩ y.type y.place) TPr))); have hs5 := HI5.out.keep.size; clear hp hk cx))
              | (at_builtin; go_must (refine wpList_append_own_at _ rfl _ _ 32 rfl w.heap.size TPr i0 (.agg (pc3 ⟨#[]⟩ 0 0)) 3 32 Tryz.underlying32 hi hz0 hz1 hz2 rfl (by decide) _ _ _ rfl HI5.out.own ⟨w4.heap.size, 0, none⟩ 1 1 (pc3 ⟨y.name.toArray⟩ y.type y.place).toList rfl rfl HNW.out (pr_one _ _ _) (by unfold maxLen; omega) (by omega) hs5 ?_; intro v6 w6 hown6 hgrow6 _ hat6; obtain ⟨q6, cp6, rfl⟩ := row_shape hown6 rfl; have HOWN6 := Lib.hid hown6; have HG6 := Lib.hid hgrow6; have HAT6 := Lib.hid hat6; clear hown6 hgrow6 hat6)))
            go_roundg g
            case measure => omega
            case rel =>
              refine ⟨acc ++ [y], rows ++ [pr3 y], r3, by omega, ?_, A6.out⟩
              exact HI5.out.push stays_pr hlt HB2.out HK2.out rfl rfl HOWN6.out HG6.out HAT6.out (by omega)
        · have A5 : X = .bad (Pa.hd r2).place 5 := by rw [A4, if_neg hlm]
          have D1 : decide ((acc.length : Int) < 8) = false := decide_eq_false (by omega)
          have D2 : ¬ (acc.length : Int) < 8 := by omega
          have D3 : decide (acc.length < 8) = false := decide_eq_false hlm
          obtain ⟨t, l, rfl⟩ := hg2.ne
          have cd : ∀ W, PAt N W G (t :: l) d → Calls Tryz.prog 137 #[ptr G, .bool false, .int .i64 5] W (BadPost G (t.place : Int) 5 W) := fun W hW => demand_no hW 5
          clear hw A3 A2 HX HNX A4 hmem hg2
          subst A5
          go_wp2_with (first
            | ((with_reducible refine ct.mono ?_); rintro e w2 ⟨rfl, hp, hk⟩; have HI2 := Lib.hid (A1.out.next stays_pr hlt2 hp hk HG2.out); clear hp hk ct)
            | ((with_reducible refine (cd _ HI2.out.p).mono ?_); rintro e w4 ⟨rfl, hp, hk⟩; have HW := Lib.hid hp; have HK4 := Lib.hid (HI2.out.keep.trans hk); clear hp hk cd))
          exact ⟨rfl, rfl, HW.out, HK4.out⟩
      · have hsE : s = [41] := by
          rcases List.mem_cons.1 hmem with h1 | h1
          · exact absurd h1 hs
          · exact List.mem_singleton.1 h1
        subst hsE
        have A4 : Aside (X = .ok acc r2) := A3.trans (by rw [hw]; rfl)
        have ct : Calls Tryz.prog 95 #[ptr G, sl2 wr] (wr.alloc (.cells #[.string ⟨#[44]⟩, .string ⟨#[41]⟩] 9)) (OkPost N G d (.string ⟨#[41]⟩) r2 wr) := ct
        clear hw A3 A2 HX HNX hmem hg2 hs
        go_wp2_with ((with_reducible refine ct.mono ?_); rintro e w2 ⟨rfl, hp, hk⟩; have HI2 := Lib.hid (A1.out.next stays_pr hlt2 hp hk HG2.out); clear hp hk ct)
        go_ret
        rw [A4.out]
        exact ⟨_, rfl, HI2.out.grow.done stays_pr, HI2.out.p, HI2.out.keep⟩
theorem parMore_good {G d : Nat} : ∀ (f : Nat) (acc : List Pr) (ts : List Tok) (hg : Good Rl ts) (a : List Pr) (r : List Tok) (h : pParMore f acc ts = .ok a r), Good Rl r
  | 0, _, _, _, _, _, h => by rw [pParMore] at h; cases h
  | f + 1, acc, ts, hg, a, r, h => by
    rw [pParMore] at h
    obtain ⟨s, r1, h1, h2⟩ := bind_ok h
    have hg2 := (good_want hg (by decide) h1).1
    split at h2
    · split at h2
      · obtain ⟨y, r2, h3, h4⟩ := bind_ok h2
        exact parMore_good (G := G) (d := d) f _ _ ((param_step (N := 0) (G := G) (d := d) hg2).1 _ _ h3) _ _ h4
      · cases h2
    · cases h2; exact hg2
def pParList (f : Nat) (ts : List Tok) : R (List Pr) := (pParam ts).bind fun x r => pParMore f [x] r
theorem plist_step {G d f : Nat} {ts : List Tok} (hg : Good Rl ts) : ConW (PsOk N G d) N G Rl 144 (plistV G) d ts (pParList f ts) := by
  have ha := param_step (N := N) (G := G) (d := d) hg
  have e : pParList f ts = (pParam ts).bind fun x r => pParMore f [x] r := rfl
  cases hq : pParam ts with
  | out => rw [e, hq]; exact conS_out
  | bad p er => rw [e, hq]; exact conS_bad fun w hp => plist_bad hp (ha.at_bad hq)
  | ok x r =>
    obtain ⟨hgr, ca⟩ := ha.at_ok hq
    have e2 : pParList f ts = pParMore f [x] r := by rw [e, hq]; rfl
    rw [e2]
    exact ⟨fun a r' h => parMore_good (G := G) (d := d) f _ _ hgr _ _ h, fun hX w hp => plist_loop hp hgr ca hX rfl⟩
end PaC
end Go.Proofs.YtnlbhnmiekanfaaGreatDoor
/-
  The parser's params, behind the bracket that opens them. Condition: what the parser holds lies in memory.
-/
namespace Go.Proofs.YtnlbhnmiekanfaaGreatDoor
open Go.RowKit Go.Deep
set_option linter.unusedVariables false
set_option linter.unusedSimpArgs false
namespace PaC
open Pa Lx
attribute [local go_sem] fld0 fld1 fld2
variable {N : Nat} {Rl : Bs → Prop} {rb : Bs → Nat}
set_option maxRecDepth 100000 in
set_option maxHeartbeats 8000000 in
theorem params_nil {w : World} {G d : Nat} {ts : List Tok} (h : PAt N w G ts d) (hg : Good Rl ts) (hv : Pa.sees ts [kVoid] = false) (hb : Pa.sees ts [[41]] = true) :
    Calls Tryz.prog 99 #[ptr G] w (PsOk N G d [] ts.tail w) := by
  have hlt := h.base
  have HP0 := Lib.hid h
  have HK0 := Lib.hid (Keep.refl G w)
  have c0 : ∀ W, PAt N W G ts d → Calls Tryz.prog 134 #[ptr G, sl1 W] (one W #[118, 111, 105, 100]) (OkPost N G d (.bool false) ts W) := fun W hW => by have := seesL [kVoid] 1 rfl (by decide) hg hW; rw [hv] at this; exact this
  have c2 : ∀ W, PAt N W G ts d → Calls Tryz.prog 92 #[ptr G, sl1 W] (one W #[41]) (OkPost N G d (.bool true) ts.tail W) := fun W hW => takesL [[41]] 1 rfl (by decide) (by decide) hg hb hW
  clear h hv hb
  go_enter Tryz.func99, Tryz.ntmps99
  go_wp2_with (first
    | ((with_reducible refine (c0 _ HP0.out).mono ?_); rintro e w1 ⟨rfl, hp, hk⟩; have HP1 := Lib.hid hp; have HK1 := Lib.hid (HK0.out.trans hk); clear hp hk c0)
    | ((with_reducible refine (c2 _ HP1.out).mono ?_); rintro e w2 ⟨rfl, hp, hk⟩; have HP2 := Lib.hid hp; have HK2 := Lib.hid (HK1.out.trans hk); clear hp hk c2))
  go_ret
  exact ⟨_, rfl, .nil, HP2.out, HK2.out⟩
set_option maxRecDepth 100000 in
set_option maxHeartbeats 8000000 in
theorem params_bad {w : World} {G d : Nat} {ts : List Tok} {p er : Nat} (h : PAt N w G ts d) (hg : Good Rl ts) (hv : Pa.sees ts [kVoid] = false) (hb : Pa.sees ts [[41]] = false) (cl : ∀ W, PAt N W G ts d → Calls Tryz.prog 144 (plistV G) W (BadPost G (p : Int) (er : Int) W)) :
    Calls Tryz.prog 99 #[ptr G] w (BadPost G (p : Int) (er : Int) w) := by
  have hlt := h.base
  have HP0 := Lib.hid h
  have HK0 := Lib.hid (Keep.refl G w)
  have c0 : ∀ W, PAt N W G ts d → Calls Tryz.prog 134 #[ptr G, sl1 W] (one W #[118, 111, 105, 100]) (OkPost N G d (.bool false) ts W) := fun W hW => by have := seesL [kVoid] 1 rfl (by decide) hg hW; rw [hv] at this; exact this
  have c2 : ∀ W, PAt N W G ts d → Calls Tryz.prog 92 #[ptr G, sl1 W] (one W #[41]) (OkPost N G d (.bool false) ts W) := fun W hW => takesL [[41]] 1 rfl (by decide) (by decide) hg hb hW
  clear h hv hb
  go_enter Tryz.func99, Tryz.ntmps99
  go_wp2_with (first
    | ((with_reducible refine (c0 _ HP0.out).mono ?_); rintro e w1 ⟨rfl, hp, hk⟩; have HP1 := Lib.hid hp; have HK1 := Lib.hid (HK0.out.trans hk); clear hp hk c0)
    | ((with_reducible refine (c2 _ HP1.out).mono ?_); rintro e w2 ⟨rfl, hp, hk⟩; have HP2 := Lib.hid hp; have HK2 := Lib.hid (HK1.out.trans hk); clear hp hk c2)
    | ((with_reducible refine (cl _ HP2.out).mono ?_); rintro e w3 ⟨rfl, hp, hk⟩; have HW := Lib.hid hp; have HK3 := Lib.hid (HK2.out.trans hk); clear hp hk cl))
  exact ⟨rfl, rfl, HW.out, HK3.out⟩
set_option maxRecDepth 100000 in
set_option maxHeartbeats 8000000 in
theorem params_some {w : World} {G d : Nat} {ts r2 : List Tok} {ks : List Pr} (h : PAt N w G ts d) (hg : Good Rl ts) (hv : Pa.sees ts [kVoid] = false) (hb : Pa.sees ts [[41]] = false) (cl : ∀ W, PAt N W G ts d → Calls Tryz.prog 144 (plistV G) W (PsOk N G d ks r2 W)) :
    Calls Tryz.prog 99 #[ptr G] w (PsOk N G d ks r2 w) := by
  have hlt := h.base
  have HP0 := Lib.hid h
  have HK0 := Lib.hid (Keep.refl G w)
  have c0 : ∀ W, PAt N W G ts d → Calls Tryz.prog 134 #[ptr G, sl1 W] (one W #[118, 111, 105, 100]) (OkPost N G d (.bool false) ts W) := fun W hW => by have := seesL [kVoid] 1 rfl (by decide) hg hW; rw [hv] at this; exact this
  have c2 : ∀ W, PAt N W G ts d → Calls Tryz.prog 92 #[ptr G, sl1 W] (one W #[41]) (OkPost N G d (.bool false) ts W) := fun W hW => takesL [[41]] 1 rfl (by decide) (by decide) hg hb hW
  clear h hv hb
  go_enter Tryz.func99, Tryz.ntmps99
  go_wp2_with (first
    | ((with_reducible refine (c0 _ HP0.out).mono ?_); rintro e w1 ⟨rfl, hp, hk⟩; have HP1 := Lib.hid hp; have HK1 := Lib.hid (HK0.out.trans hk); clear hp hk c0)
    | ((with_reducible refine (c2 _ HP1.out).mono ?_); rintro e w2 ⟨rfl, hp, hk⟩; have HP2 := Lib.hid hp; have HK2 := Lib.hid (HK1.out.trans hk); clear hp hk c2)
    | ((with_reducible refine (cl _ HP2.out).mono ?_); rintro e w3 ⟨v, rfl, hks, hp, hk⟩; have HX := Lib.hid hks; have HP3 := Lib.hid hp; have HK3 := Lib.hid (HK2.out.trans hk); have HSZ := Lib.hid HK2.out.size; clear hp hk hks cl))
  go_ret
  have hs := HSZ.out
  exact ⟨_, rfl, HX.out.mono ⟨Nat.le_refl _, fun _ _ _ => rfl⟩ (fun b hb => Nat.le_trans hs hb) fun _ _ h => h, HP3.out, HK3.out⟩
set_option maxRecDepth 100000 in
set_option maxHeartbeats 8000000 in
theorem params_vbad {w : World} {G d : Nat} {t u : Tok} {l : List Tok} {S : ByteArray} {p er : Nat} (h : PAt N w G (t :: u :: l) d) (hg : Good Rl (t :: u :: l)) (hv : Pa.sees (t :: u :: l) [kVoid] = true) (hS : S = ⟨u.text.toArray⟩) (hS2 : (S.toList == [41]) = false) (hb : Pa.sees (t :: u :: l) [[41]] = false) (cl : ∀ W, PAt N W G (t :: u :: l) d → Calls Tryz.prog 144 (plistV G) W (BadPost G (p : Int) (er : Int) W)) :
    Calls Tryz.prog 99 #[ptr G] w (BadPost G (p : Int) (er : Int) w) := by
  have hlt := h.base
  have HP0 := Lib.hid h
  have HK0 := Lib.hid (Keep.refl G w)
  have c0 : ∀ W, PAt N W G (t :: u :: l) d → Calls Tryz.prog 134 #[ptr G, sl1 W] (one W #[118, 111, 105, 100]) (OkPost N G d (.bool true) (t :: u :: l) W) := fun W hW => by have := seesL [kVoid] 1 rfl (by decide) hg hW; rw [hv] at this; exact this
  have c1 : ∀ W, PAt N W G (t :: u :: l) d → Calls Tryz.prog 143 #[ptr G] W (OkPost N G d (.agg #[.int .i64 (u.kind : Int), .string S, .int .i64 (u.place : Int)]) (t :: u :: l) W) := fun W hW => by rw [hS]; exact behind2 hW
  have c2 : ∀ W, PAt N W G (t :: u :: l) d → Calls Tryz.prog 92 #[ptr G, sl1 W] (one W #[41]) (OkPost N G d (.bool false) (t :: u :: l) W) := fun W hW => takesL [[41]] 1 rfl (by decide) (by decide) hg hb hW
  clear h hv hb hS
  go_enter Tryz.func99, Tryz.ntmps99
  go_wp2_with (first
    | ((with_reducible refine (c0 _ HP0.out).mono ?_); rintro e w1 ⟨rfl, hp, hk⟩; have HP1 := Lib.hid hp; have HK1 := Lib.hid (HK0.out.trans hk); clear hp hk c0)
    | ((with_reducible refine (c1 _ HP1.out).mono ?_); rintro e w2 ⟨rfl, hp, hk⟩; have HP2 := Lib.hid hp; have HK2 := Lib.hid (HK1.out.trans hk); clear hp hk c1)
    | ((with_reducible refine (c2 _ HP2.out).mono ?_); rintro e w3 ⟨rfl, hp, hk⟩; have HP3 := Lib.hid hp; have HK3 := Lib.hid (HK2.out.trans hk); clear hp hk c2)
    | ((with_reducible refine (cl _ HP3.out).mono ?_); rintro e w4 ⟨rfl, hp, hk⟩; have HW := Lib.hid hp; have HK4 := Lib.hid (HK3.out.trans hk); clear hp hk cl))
  exact ⟨rfl, rfl, HW.out, HK4.out⟩
set_option maxRecDepth 100000 in
set_option maxHeartbeats 8000000 in
theorem params_vsome {w : World} {G d : Nat} {t u : Tok} {l : List Tok} {S : ByteArray} {r2 : List Tok} {ks : List Pr} (h : PAt N w G (t :: u :: l) d) (hg : Good Rl (t :: u :: l)) (hv : Pa.sees (t :: u :: l) [kVoid] = true) (hS : S = ⟨u.text.toArray⟩) (hS2 : (S.toList == [41]) = false) (hb : Pa.sees (t :: u :: l) [[41]] = false) (cl : ∀ W, PAt N W G (t :: u :: l) d → Calls Tryz.prog 144 (plistV G) W (PsOk N G d ks r2 W)) :
    Calls Tryz.prog 99 #[ptr G] w (PsOk N G d ks r2 w) := by
  have hlt := h.base
  have HP0 := Lib.hid h
  have HK0 := Lib.hid (Keep.refl G w)
  have c0 : ∀ W, PAt N W G (t :: u :: l) d → Calls Tryz.prog 134 #[ptr G, sl1 W] (one W #[118, 111, 105, 100]) (OkPost N G d (.bool true) (t :: u :: l) W) := fun W hW => by have := seesL [kVoid] 1 rfl (by decide) hg hW; rw [hv] at this; exact this
  have c1 : ∀ W, PAt N W G (t :: u :: l) d → Calls Tryz.prog 143 #[ptr G] W (OkPost N G d (.agg #[.int .i64 (u.kind : Int), .string S, .int .i64 (u.place : Int)]) (t :: u :: l) W) := fun W hW => by rw [hS]; exact behind2 hW
  have c2 : ∀ W, PAt N W G (t :: u :: l) d → Calls Tryz.prog 92 #[ptr G, sl1 W] (one W #[41]) (OkPost N G d (.bool false) (t :: u :: l) W) := fun W hW => takesL [[41]] 1 rfl (by decide) (by decide) hg hb hW
  clear h hv hb hS
  go_enter Tryz.func99, Tryz.ntmps99
  go_wp2_with (first
    | ((with_reducible refine (c0 _ HP0.out).mono ?_); rintro e w1 ⟨rfl, hp, hk⟩; have HP1 := Lib.hid hp; have HK1 := Lib.hid (HK0.out.trans hk); clear hp hk c0)
    | ((with_reducible refine (c1 _ HP1.out).mono ?_); rintro e w2 ⟨rfl, hp, hk⟩; have HP2 := Lib.hid hp; have HK2 := Lib.hid (HK1.out.trans hk); clear hp hk c1)
    | ((with_reducible refine (c2 _ HP2.out).mono ?_); rintro e w3 ⟨rfl, hp, hk⟩; have HP3 := Lib.hid hp; have HK3 := Lib.hid (HK2.out.trans hk); clear hp hk c2)
    | ((with_reducible refine (cl _ HP3.out).mono ?_); rintro e w4 ⟨v, rfl, hks, hp, hk⟩; have HX := Lib.hid hks; have HP4 := Lib.hid hp; have HK4 := Lib.hid (HK3.out.trans hk); have HSZ := Lib.hid HK3.out.size; clear hp hk hks cl))
  go_ret
  have hs := HSZ.out
  exact ⟨_, rfl, HX.out.mono ⟨Nat.le_refl _, fun _ _ _ => rfl⟩ (fun b hb => Nat.le_trans hs hb) fun _ _ h => h, HP4.out, HK4.out⟩
set_option maxRecDepth 100000 in
set_option maxHeartbeats 8000000 in
theorem params_void {w : World} {G d : Nat} {t u : Tok} {l : List Tok} {S : ByteArray} (h : PAt N w G (t :: u :: l) d) (hg : Good Rl (t :: u :: l)) (hv : Pa.sees (t :: u :: l) [kVoid] = true) (hS : S = ⟨u.text.toArray⟩) (hS2 : (S.toList == [41]) = true) (g2 : Good Rl (u :: l)) (hb : Pa.sees (u :: l) [[41]] = true) :
    Calls Tryz.prog 99 #[ptr G] w (PsOk N G d [] l w) := by
  have hlt := h.base
  have HP0 := Lib.hid h
  have HK0 := Lib.hid (Keep.refl G w)
  have c0 : ∀ W, PAt N W G (t :: u :: l) d → Calls Tryz.prog 134 #[ptr G, sl1 W] (one W #[118, 111, 105, 100]) (OkPost N G d (.bool true) (t :: u :: l) W) := fun W hW => by have := seesL [kVoid] 1 rfl (by decide) hg hW; rw [hv] at this; exact this
  have c1 : ∀ W, PAt N W G (t :: u :: l) d → Calls Tryz.prog 143 #[ptr G] W (OkPost N G d (.agg #[.int .i64 (u.kind : Int), .string S, .int .i64 (u.place : Int)]) (t :: u :: l) W) := fun W hW => by rw [hS]; exact behind2 hW
  have c3 : ∀ W, PAt N W G (t :: u :: l) d → Calls Tryz.prog 135 #[ptr G] W (OkPost N G d (tokV t) (u :: l) W) := fun W hW => read_ hW
  have c2 : ∀ W, PAt N W G (u :: l) d → Calls Tryz.prog 92 #[ptr G, sl1 W] (one W #[41]) (OkPost N G d (.bool true) l W) := fun W hW => takesL [[41]] 1 rfl (by decide) (by decide) g2 hb hW
  clear h hv hb hS
  go_enter Tryz.func99, Tryz.ntmps99
  go_wp2_with (first
    | ((with_reducible refine (c0 _ HP0.out).mono ?_); rintro e w1 ⟨rfl, hp, hk⟩; have HP1 := Lib.hid hp; have HK1 := Lib.hid (HK0.out.trans hk); clear hp hk c0)
    | ((with_reducible refine (c1 _ HP1.out).mono ?_); rintro e w2 ⟨rfl, hp, hk⟩; have HP2 := Lib.hid hp; have HK2 := Lib.hid (HK1.out.trans hk); clear hp hk c1)
    | ((with_reducible refine (c3 _ HP2.out).mono ?_); rintro e w3 ⟨rfl, hp, hk⟩; have HP3 := Lib.hid hp; have HK3 := Lib.hid (HK2.out.trans hk); clear hp hk c3)
    | ((with_reducible refine (c2 _ HP3.out).mono ?_); rintro e w4 ⟨rfl, hp, hk⟩; have HP4 := Lib.hid hp; have HK4 := Lib.hid (HK3.out.trans hk); clear hp hk c2))
  go_ret
  exact ⟨_, rfl, .nil, HP4.out, HK4.out⟩
theorem toL (x : Bs) : (⟨x.toArray⟩ : ByteArray).toList = x := by
  rw [ByteArray.toList_eq]
theorem params_step {G d f : Nat} {ts : List Tok} (hg : Good Rl ts) : ConW (PsOk N G d) N G Rl 99 #[ptr G] d ts (pParams f ts) := by
  have e : pParams f ts = if Pa.sees (if Pa.sees ts [kVoid] && decide ((Pa.hd ts.tail).text = [41]) then ts.tail else ts) [[41]] then .ok [] (if Pa.sees ts [kVoid] && decide ((Pa.hd ts.tail).text = [41]) then ts.tail else ts).tail else pParList f (if Pa.sees ts [kVoid] && decide ((Pa.hd ts.tail).text = [41]) then ts.tail else ts) := by rw [pParams]; rfl
  cases hv : Pa.sees ts [kVoid] with
  | false =>
    rw [hv] at e
    simp only [Bool.false_and, Bool.false_eq_true, if_false] at e
    cases hb : Pa.sees ts [[41]] with
    | true => rw [e, if_pos hb]; exact conS_ok (good_behind hg (by decide) hb) fun w hp => params_nil hp hg hv hb
    | false =>
      rw [e, if_neg (by rw [hb]; decide)]
      have cl := plist_step (N := N) (G := G) (d := d) (f := f) hg
      cases hq : pParList f ts with
      | out => exact conS_out
      | bad p er => exact conS_bad fun w hp => params_bad hp hg hv hb (cl.at_bad hq)
      | ok ks r => exact conS_ok (cl.at_ok hq).1 fun w hp => params_some hp hg hv hb (cl.at_ok hq).2
  | true =>
    obtain ⟨t, u, l, rfl, g2⟩ := good_sees hg (by decide) hv
    rw [hv] at e
    by_cases hu : u.text = [41]
    · have hd' : decide ((Pa.hd (t :: u :: l).tail).text = [41]) = true := decide_eq_true hu
      have hb : Pa.sees (u :: l) [[41]] = true := by show List.contains _ u.text = true; rw [hu]; decide
      rw [hd'] at e
      simp only [Bool.and_self, if_true, List.tail_cons] at e
      rw [if_pos hb] at e
      rw [e]
      exact conS_ok (good_behind g2 (by decide) hb) fun w hp => params_void hp hg hv rfl (by rw [toL, hu]; rfl) g2 hb
    · have hd' : decide ((Pa.hd (t :: u :: l).tail).text = [41]) = false := decide_eq_false hu
      have hb : Pa.sees (t :: u :: l) [[41]] = false := by
        have h1 : List.contains [kVoid] t.text = true := hv
        have h2 : t.text = kVoid := List.mem_singleton.1 (List.contains_iff_mem.1 h1)
        show List.contains _ t.text = false
        rw [h2]; decide
      have hS2 : ((⟨u.text.toArray⟩ : ByteArray).toList == [41]) = false := by rw [toL]; exact beq_eq_false_iff_ne.2 hu
      rw [hd'] at e
      simp only [Bool.and_false, Bool.false_eq_true, if_false] at e
      rw [if_neg (by rw [hb]; decide)] at e
      rw [e]
      have cl := plist_step (N := N) (G := G) (d := d) (f := f) hg
      cases hq : pParList f (t :: u :: l) with
      | out => exact conS_out
      | bad p er => exact conS_bad fun w hp => params_vbad hp hg hv rfl hS2 hb (cl.at_bad hq)
      | ok ks r => exact conS_ok (cl.at_ok hq).1 fun w hp => params_vsome hp hg hv rfl hS2 hb (cl.at_ok hq).2
end PaC
end Go.Proofs.YtnlbhnmiekanfaaGreatDoor
/-
  What the calls keep that fill a declaration. Condition: what the parser holds lies in memory.
-/
namespace Go.Proofs.YtnlbhnmiekanfaaGreatDoor
open Go.RowKit Go.Deep
set_option linter.unusedVariables false
set_option linter.unusedSimpArgs false
namespace PaC
open Pa Lx
variable {N : Nat} {Rl : Bs → Prop} {rb : Bs → Nat}
abbrev TDe : TypeId := 37
/-- a declaration's seventeen cells -/
abbrev de17 (fu st ex : Bool) (nm : ByteArray) (t l : Int) (iv : Value) (ha : Bool) (pv : Value) (k : Int) (ev kv : Value) (n2 : ByteArray) (t2 l2 p2 p : Int) : Array Value :=
  #[.bool fu, .bool st, .bool ex, .string nm, .int .i64 t, .int .i64 l, iv, .bool ha, pv, .int .i64 k, ev, kv, .string n2, .int .i64 t2, .int .i64 l2, .int .i64 p2, .int .i64 p]
abbrev nilV : Value := .slice none 0 0
abbrev z17 : Array Value := de17 false false false ⟨#[]⟩ 0 0 nilV false nilV 0 nilV nilV ⟨#[]⟩ 0 0 0 0
theorem size17 (fu st ex : Bool) (nm : ByteArray) (t l : Int) (iv : Value) (ha : Bool) (pv : Value) (k : Int) (ev kv : Value) (n2 : ByteArray) (t2 l2 p2 p : Int) : (Tryz.prog.info? TDe).map (·.size) = some (de17 fu st ex nm t l iv ha pv k ev kv n2 t2 l2 p2 p).size := by kernel_rfl
theorem infoD17 : (Tryz.prog.info? TDe).map (fun i => (i.zero, i.size, i.bytes)) = some (some (.agg z17), 17, 200) := by kernel_rfl
theorem one17 (fu st ex : Bool) (nm : ByteArray) (t l : Int) (a1 : Option Addr) (l1 c1 : Nat) (ha : Bool) (a2 : Option Addr) (m2 c2 : Nat) (k : Int) (a3 : Option Addr) (l3 c3 : Nat) (a4 : Option Addr) (l4 c4 : Nat) (n2 : ByteArray) (t2 l2 p2 p : Int) :
    (de17 fu st ex nm t l (.slice a1 l1 c1) ha (.slice a2 m2 c2) k (.slice a3 l3 c3) (.slice a4 l4 c4) n2 t2 l2 p2 p).all (·.oneCell') = true := by simp [de17, Value.oneCell']
section
variable {ops : Array Oper} {rest : List Oper} {o : Oper} {a : Act} {w : World} {Q : Exit → Act → World → Prop}
theorem load17 (hgd : o.guard = none) (x : Operand) (ho : o.op = .load TDe x) (g : Nat) (cs : Array Value) (hsz : (Tryz.prog.info? TDe).map (·.size) = some cs.size) (hx : a.eval x = .pointer (some ⟨g, 0, none⟩)) (hg : w.heap[g]? = some (.cells cs TDe (0, 0)))
    (h : wpList Tryz.prog ops Q rest (a.put o.dst (.agg cs)) w) : wpList Tryz.prog ops Q (o :: rest) a w :=
  wpList_load_row hgd TDe x ho g hx TDe cs (0, 0) _ hg Tryz.underlying37 rfl hsz h
theorem store17 (hgd : o.guard = none) (x y : Operand) (ho : o.op = .store TDe x y) (g : Nat) (cs : Array Value) (hsz : (Tryz.prog.info? TDe).map (·.size) = some cs.size) (h1 : cs.all (·.oneCell') = true) (h17 : cs.size = 17) (hx : a.eval x = .pointer (some ⟨g, 0, none⟩)) (hy : a.eval y = .agg cs) (old : Array Value) (h8 : old.size = 17)
    (hg : w.heap[g]? = some (.cells old TDe (0, 0))) (h : wpList Tryz.prog ops Q rest (a.put o.dst undef) (w.setRow g cs)) : wpList Tryz.prog ops Q (o :: rest) a w :=
  wpList_store_row hgd TDe x y ho g cs hx hy TDe old hg hsz (by rw [h8, h17]) h1 h
end
/-- but for blocks G and B, what was there is as it was -/
structure Keep2 (G B : Nat) (w w' : World) : Prop where
  os : w'.os = w.os
  tape : w'.tape = w.tape
  output : w'.output = w.output
  size : w.heap.size ≤ w'.heap.size
  block : ∀ k, k < w.heap.size → k ≠ G → k ≠ B → w'.heap[k]? = w.heap[k]?
theorem Keep2.refl (G B : Nat) (w : World) : Keep2 G B w w := ⟨rfl, rfl, rfl, Nat.le_refl _, fun _ _ _ _ => rfl⟩
theorem Keep2.next {G B : Nat} {w w1 w2 : World} (h : Keep2 G B w w1) (k : Keep G w1 w2) : Keep2 G B w w2 :=
  ⟨k.os.trans h.os, k.tape.trans h.tape, k.output.trans h.output, Nat.le_trans h.size k.size, fun i hi hg hb => (k.block i (Nat.lt_of_lt_of_le hi h.size) hg).trans (h.block i hi hg hb)⟩
theorem Keep2.set {G B : Nat} {w w1 : World} (h : Keep2 G B w w1) (i : Nat) (v : Value) : Keep2 G B w (w1.setCell ⟨B, i, none⟩ v) :=
  ⟨h.os, h.tape, h.output, by simpa [World.setCell] using h.size, fun k hk hg hb => (Below.heap_setCell _ _ _ _ (by show k ≠ B; exact hb)).trans (h.block k hk hg hb)⟩
/-- a call that fills a declaration of its caller's in block B -/
structure OutI (N G d : Nat) (Rl : Bs → Prop) (w wr : World) (B : Nat) (ts : List Tok) (c : Array Value) : Prop where
  p : PAt N wr G ts d
  good : Good Rl ts
  keep : Keep2 G B w wr
  left : wr.heap[B]? = some (.cells c TDe (0, 0))
section
variable {G d B : Nat} {c c2 : Array Value} {w wr w2 : World} {ts ts2 : List Tok}
theorem OutI.next (hB : B ≠ G) (h : OutI N G d Rl w wr B ts c) (hp : PAt N w2 G ts2 d) (hk : Keep G wr w2) (hg : Good Rl ts2) : OutI N G d Rl w w2 B ts2 c := ⟨hp, hg, h.keep.next hk, hk.at hB h.left⟩
theorem OutI.set (hB : N ≤ B) (h : OutI N G d Rl w wr B ts c) (i : Nat) (v : Value) (hc : c.setIfInBounds i v = c2) : OutI N G d Rl w (wr.setCell ⟨B, i, none⟩ v) B ts c2 :=
  ⟨h.p.frame (by simp [World.setCell]) fun k hk => Below.heap_setCell _ _ _ _ (by show k ≠ B; omega), h.good, h.keep.set i v, by rw [heap_setCell_same wr B i _ _ v h.left, hc]⟩
theorem OutI.cell (h : OutI N G d Rl w wr B ts c) {i : Nat} {v : Value} (hv : c[i]? = some v) : wr.cell? ⟨B, i, none⟩ = some v := (Lib.cell_of_heap h.left i).trans hv
theorem OutI.frozen (h : OutI N G d Rl w wr B ts c) (i : Nat) : wr.frozen? ⟨B, i, none⟩ = false := Lib.frozen_of_heap h.left _
/-- back in the caller -/
theorem OwnI.out {z : Array Value} (hlt : N ≤ w.heap.size ∧ G < N) (h : OwnI N G d Rl TDe z w wr B ts c) (k : OutI N G d Rl wr w2 B ts2 c2) : OwnI N G d Rl TDe z w w2 B ts2 c2 := by
  have hB := h.lt
  refine ⟨k.p, k.good, ⟨k.keep.os.trans h.keep.os, k.keep.tape.trans h.keep.tape, k.keep.output.trans h.keep.output, Nat.le_trans h.keep.size k.keep.size, fun i hi hne => (k.keep.block i (Nat.lt_of_lt_of_le hi h.keep.size) hne (by omega)).trans (h.keep.block i hi hne)⟩, ?_, k.left, hB⟩
  rw [k.keep.block _ (Array.getElem?_eq_some_iff.1 h.res).1 (by omega) (by omega)]
  exact h.res
end
def Bad2 (G B : Nat) (p er : Int) (w : World) (e : Ending) (w' : World) : Prop := e = thrown p er ∧ PWk w' G ∧ Keep2 G B w w'
/-- the body, seven cells in the middle -/
theorem OutI.body {G d B : Nat} {w wr : World} {ts : List Tok} {fu st ex ha : Bool} {nm n2 n3 : ByteArray} {t l k t2 l2 p2 p k3 t3 l3 p3 : Int} {iv pv ev kv ev3 kv3 : Value} (hB : N ≤ B) (h : OutI N G d Rl w wr B ts (de17 fu st ex nm t l iv ha pv k ev kv n2 t2 l2 p2 p)) :
    wr.there B 9 7 ∧ OutI N G d Rl w (wr.setCells B 9 [.int .i64 k3, ev3, kv3, .string n3, .int .i64 t3, .int .i64 l3, .int .i64 p3]) B ts (de17 fu st ex nm t l iv ha pv k3 ev3 kv3 n3 t3 l3 p3 p) := by
  constructor
  · intro j hj
    have hc := Lib.cell_of_heap h.left (9 + j)
    refine ⟨?_, Lib.frozen_of_heap h.left _⟩
    rw [hc]
    match j, hj with
    | 0, _ => rfl
    | 1, _ => rfl
    | 2, _ => rfl
    | 3, _ => rfl
    | 4, _ => rfl
    | 5, _ => rfl
    | 6, _ => rfl
    | j + 7, hj => omega
  · have h1 := h.set hB 9 (.int .i64 k3) (c2 := de17 fu st ex nm t l iv ha pv k3 ev kv n2 t2 l2 p2 p) rfl
    have h2 := h1.set hB 10 (ev3) (c2 := de17 fu st ex nm t l iv ha pv k3 ev3 kv n2 t2 l2 p2 p) rfl
    have h3 := h2.set hB 11 (kv3) (c2 := de17 fu st ex nm t l iv ha pv k3 ev3 kv3 n2 t2 l2 p2 p) rfl
    have h4 := h3.set hB 12 (.string n3) (c2 := de17 fu st ex nm t l iv ha pv k3 ev3 kv3 n3 t2 l2 p2 p) rfl
    have h5 := h4.set hB 13 (.int .i64 t3) (c2 := de17 fu st ex nm t l iv ha pv k3 ev3 kv3 n3 t3 l2 p2 p) rfl
    have h6 := h5.set hB 14 (.int .i64 l3) (c2 := de17 fu st ex nm t l iv ha pv k3 ev3 kv3 n3 t3 l3 p2 p) rfl
    have h7 := h6.set hB 15 (.int .i64 p3) (c2 := de17 fu st ex nm t l iv ha pv k3 ev3 kv3 n3 t3 l3 p3 p) rfl
    exact h7
end PaC
end Go.Proofs.YtnlbhnmiekanfaaGreatDoor
/-
  What stands behind an array's length, and behind a function's params. Condition: what the parser and its caller hold lies in memory.
-/
namespace Go.Proofs.YtnlbhnmiekanfaaGreatDoor
open Go.RowKit Go.Deep
set_option linter.unusedVariables false
set_option linter.unusedSimpArgs false
namespace PaC
open Pa Lx
attribute [local go_sem] fld0 fld1 fld2
variable {N : Nat} {Rl : Bs → Prop} {rb : Bs → Nat}
/-- a declaration but for its initialisers and its body -/
abbrev dI (fu st ex : Bool) (nm : ByteArray) (t l p : Int) (pv : Value) (iv : Value) (ha : Bool) : Array Value := de17 fu st ex nm t l iv ha pv 0 nilV nilV ⟨#[]⟩ 0 0 0 p
set_option maxRecDepth 100000 in
set_option maxHeartbeats 8000000 in
theorem arr_no_bad {w : World} {G d B : Nat} {ts : List Tok} {fu st ex : Bool} {nm : ByteArray} {t l p : Int} {pv : Value} {p0 er : Nat} (h : PAt N w G ts d) (hg : Good Rl ts) (hB : N ≤ B) (hd : w.heap[B]? = some (.cells (dI fu st ex nm t l p pv nilV false) TDe (0, 0))) (hb : Pa.sees ts [[61]] = false) (hw : Pa.want ts [[59]] = .bad p0 er) :
    Calls Tryz.prog 98 #[ptr G, ptr B] w (Bad2 G B (p0 : Int) (er : Int) w) := by
  have hlt := h.base
  have hBG : B ≠ G := by omega
  have hI0 : OutI N G d Rl w w B ts (dI fu st ex nm t l p pv nilV false) := ⟨h, hg, Keep2.refl _ _ _, hd⟩
  have HI0 := Lib.hid hI0
  have c0 : ∀ W, PAt N W G ts d → Calls Tryz.prog 92 #[ptr G, sl1 W] (one W #[61]) (OkPost N G d (.bool false) ts W) := fun W hW => takesL [[61]] 1 rfl (by decide) (by decide) hg hb hW
  have c1 : ∀ W, PAt N W G ts d → Calls Tryz.prog 95 #[ptr G, sl1 W] (one W #[59]) (BadPost G (p0 : Int) (er : Int) W) := fun W hW => by have := wantL [[59]] 1 rfl (by decide) (by decide) hg hW; rw [hw] at this; exact this
  clear h hI0 hd hb hw
  go_enter Tryz.func98, Tryz.ntmps98
  go_wp2_with (first
    | (have c0' := c0 _ HI0.out.p; (try simp only [sl1, one, World.size_alloc, World.size_setCell] at c0'); (with_reducible refine c0'.mono ?_); rintro e w1 ⟨rfl, hp, hk⟩; have HI1 := Lib.hid (HI0.out.next hBG hp hk hg); clear hp hk c0 c0')
    | (have c1' := c1 _ HI1.out.p; (try simp only [sl1, one, World.size_alloc, World.size_setCell] at c1'); (with_reducible refine c1'.mono ?_); rintro e w2 ⟨rfl, hp, hk⟩; have HW := Lib.hid hp; have HK := Lib.hid (HI1.out.keep.next hk); clear hp hk c1 c1'))
  exact ⟨rfl, rfl, HW.out, HK.out⟩
set_option maxRecDepth 100000 in
set_option maxHeartbeats 8000000 in
theorem arr_no {w : World} {G d B : Nat} {ts : List Tok} {fu st ex : Bool} {nm : ByteArray} {t l p : Int} {pv : Value} {s : Bs} {r : List Tok} (h : PAt N w G ts d) (hg : Good Rl ts) (hB : N ≤ B) (hd : w.heap[B]? = some (.cells (dI fu st ex nm t l p pv nilV false) TDe (0, 0))) (hb : Pa.sees ts [[61]] = false) (hw : Pa.want ts [[59]] = .ok s r) (gr : Good Rl r) :
    Calls Tryz.prog 98 #[ptr G, ptr B] w (fun e w' => e = .returned (.tuple #[]) ∧ OutI N G d Rl w w' B r (dI fu st ex nm t l p pv nilV false)) := by
  have hlt := h.base
  have hBG : B ≠ G := by omega
  have hI0 : OutI N G d Rl w w B ts (dI fu st ex nm t l p pv nilV false) := ⟨h, hg, Keep2.refl _ _ _, hd⟩
  have HI0 := Lib.hid hI0
  have c0 : ∀ W, PAt N W G ts d → Calls Tryz.prog 92 #[ptr G, sl1 W] (one W #[61]) (OkPost N G d (.bool false) ts W) := fun W hW => takesL [[61]] 1 rfl (by decide) (by decide) hg hb hW
  have c1 : ∀ W, PAt N W G ts d → Calls Tryz.prog 95 #[ptr G, sl1 W] (one W #[59]) (OkPost N G d (.string ⟨s.toArray⟩) r W) := fun W hW => by have := wantL [[59]] 1 rfl (by decide) (by decide) hg hW; rw [hw] at this; exact this
  clear h hI0 hd hb hw
  go_enter Tryz.func98, Tryz.ntmps98
  go_wp2_with (first
    | (have c0' := c0 _ HI0.out.p; (try simp only [sl1, one, World.size_alloc, World.size_setCell] at c0'); (with_reducible refine c0'.mono ?_); rintro e w1 ⟨rfl, hp, hk⟩; have HI1 := Lib.hid (HI0.out.next hBG hp hk hg); clear hp hk c0 c0')
    | (have c1' := c1 _ HI1.out.p; (try simp only [sl1, one, World.size_alloc, World.size_setCell] at c1'); (with_reducible refine c1'.mono ?_); rintro e w2 ⟨rfl, hp, hk⟩; have HI2 := Lib.hid (HI1.out.next hBG hp hk gr); clear hp hk c1 c1'))
  go_end0
  exact ⟨rfl, HI2.out⟩
set_option maxRecDepth 100000 in
set_option maxHeartbeats 8000000 in
theorem arr_open {w : World} {G d B : Nat} {ts : List Tok} {fu st ex : Bool} {nm : ByteArray} {t l p : Int} {pv : Value} {p0 er : Nat} (h : PAt N w G ts d) (hg : Good Rl ts) (hB : N ≤ B) (hd : w.heap[B]? = some (.cells (dI fu st ex nm t l p pv nilV false) TDe (0, 0))) (hb : Pa.sees ts [[61]] = true) (hw : Pa.want ts.tail [[123]] = .bad p0 er) :
    Calls Tryz.prog 98 #[ptr G, ptr B] w (Bad2 G B (p0 : Int) (er : Int) w) := by
  have hlt := h.base
  have hBG : B ≠ G := by omega
  have hI0 : OutI N G d Rl w w B ts (dI fu st ex nm t l p pv nilV false) := ⟨h, hg, Keep2.refl _ _ _, hd⟩
  have HI0 := Lib.hid hI0
  have c0 : ∀ W, PAt N W G ts d → Calls Tryz.prog 92 #[ptr G, sl1 W] (one W #[61]) (OkPost N G d (.bool true) ts.tail W) := fun W hW => takesL [[61]] 1 rfl (by decide) (by decide) hg hb hW
  have HG1 := Lib.hid (show Good Rl ts.tail from good_behind hg (by decide) hb)
  have c1 : ∀ W, PAt N W G ts.tail d → Calls Tryz.prog 95 #[ptr G, sl1 W] (one W #[123]) (BadPost G (p0 : Int) (er : Int) W) := fun W hW => by have := wantL [[123]] 1 rfl (by decide) (by decide) (show Good Rl ts.tail from good_behind hg (by decide) hb) hW; rw [hw] at this; exact this
  clear h hI0 hd hb hw
  go_enter Tryz.func98, Tryz.ntmps98
  go_wp2_with (first
    | (have c0' := c0 _ HI0.out.p; (try simp only [sl1, one, World.size_alloc, World.size_setCell] at c0'); (with_reducible refine c0'.mono ?_); rintro e w1 ⟨rfl, hp, hk⟩; have HI1 := Lib.hid (HI0.out.next hBG hp hk HG1.out); have hf1 := HI1.out.frozen 7; have hc1 := HI1.out.cell (i := 7) rfl; have HJ1 := Lib.hid (HI1.out.set hB 7 (.bool true) (c2 := dI fu st ex nm t l p pv nilV true) rfl); clear hp hk c0 c0')
    | (have c1' := c1 _ HJ1.out.p; (try simp only [sl1, one, World.size_alloc, World.size_setCell] at c1'); (with_reducible refine c1'.mono ?_); rintro e w2 ⟨rfl, hp, hk⟩; have HW := Lib.hid hp; have HK := Lib.hid (HJ1.out.keep.next hk); clear hp hk c1 c1'))
  exact ⟨rfl, rfl, HW.out, HK.out⟩
set_option maxRecDepth 100000 in
set_option maxHeartbeats 8000000 in
theorem arr_bad {w : World} {G d B : Nat} {ts : List Tok} {fu st ex : Bool} {nm : ByteArray} {t l p : Int} {pv : Value} {s1 : Bs} {r1 : List Tok} {p0 er : Nat} (h : PAt N w G ts d) (hg : Good Rl ts) (hB : N ≤ B) (hd : w.heap[B]? = some (.cells (dI fu st ex nm t l p pv nilV false) TDe (0, 0))) (hb : Pa.sees ts [[61]] = true) (h1 : Pa.want ts.tail [[123]] = .ok s1 r1) (g1 : Good Rl r1) (cl : ∀ W, PAt N W G r1 d → Calls Tryz.prog 142 #[ptr G, .func (.func 96) #[ptr G] #[], .int .i64 2500, .string ⟨#[125]⟩] W (BadPost G (p0 : Int) (er : Int) W)) :
    Calls Tryz.prog 98 #[ptr G, ptr B] w (Bad2 G B (p0 : Int) (er : Int) w) := by
  have hlt := h.base
  have hBG : B ≠ G := by omega
  have hI0 : OutI N G d Rl w w B ts (dI fu st ex nm t l p pv nilV false) := ⟨h, hg, Keep2.refl _ _ _, hd⟩
  have HI0 := Lib.hid hI0
  have c0 : ∀ W, PAt N W G ts d → Calls Tryz.prog 92 #[ptr G, sl1 W] (one W #[61]) (OkPost N G d (.bool true) ts.tail W) := fun W hW => takesL [[61]] 1 rfl (by decide) (by decide) hg hb hW
  have HG1 := Lib.hid (show Good Rl ts.tail from good_behind hg (by decide) hb)
  have c1 : ∀ W, PAt N W G ts.tail d → Calls Tryz.prog 95 #[ptr G, sl1 W] (one W #[123]) (OkPost N G d (.string ⟨s1.toArray⟩) r1 W) := fun W hW => by have := wantL [[123]] 1 rfl (by decide) (by decide) (show Good Rl ts.tail from good_behind hg (by decide) hb) hW; rw [h1] at this; exact this
  clear h hI0 hd hb h1
  go_enter Tryz.func98, Tryz.ntmps98
  go_wp2_with (first
    | (have c0' := c0 _ HI0.out.p; (try simp only [sl1, one, World.size_alloc, World.size_setCell] at c0'); (with_reducible refine c0'.mono ?_); rintro e w1 ⟨rfl, hp, hk⟩; have HI1 := Lib.hid (HI0.out.next hBG hp hk HG1.out); have hf1 := HI1.out.frozen 7; have hc1 := HI1.out.cell (i := 7) rfl; have HJ1 := Lib.hid (HI1.out.set hB 7 (.bool true) (c2 := dI fu st ex nm t l p pv nilV true) rfl); clear hp hk c0 c0')
    | (have c1' := c1 _ HJ1.out.p; (try simp only [sl1, one, World.size_alloc, World.size_setCell] at c1'); (with_reducible refine c1'.mono ?_); rintro e w2 ⟨rfl, hp, hk⟩; have HI2 := Lib.hid (HJ1.out.next hBG hp hk g1); clear hp hk c1 c1')
    | (have cl' := cl _ HI2.out.p; (try simp only [sl1, one, World.size_alloc, World.size_setCell] at cl'); (with_reducible refine cl'.mono ?_); rintro e w3 ⟨rfl, hp, hk⟩; have HW := Lib.hid hp; have HK := Lib.hid (HI2.out.keep.next hk); clear hp hk cl cl'))
  exact ⟨rfl, rfl, HW.out, HK.out⟩
set_option maxRecDepth 100000 in
set_option maxHeartbeats 8000000 in
theorem arr_end {w : World} {G d B : Nat} {ts : List Tok} {fu st ex : Bool} {nm : ByteArray} {t l p : Int} {pv : Value} {s1 : Bs} {r1 r2 : List Tok} {ks : List Ex} {p0 er : Nat} (h : PAt N w G ts d) (hg : Good Rl ts) (hB : N ≤ B) (hd : w.heap[B]? = some (.cells (dI fu st ex nm t l p pv nilV false) TDe (0, 0))) (hb : Pa.sees ts [[61]] = true) (h1 : Pa.want ts.tail [[123]] = .ok s1 r1) (g1 : Good Rl r1) (cl : ∀ W, PAt N W G r1 d → Calls Tryz.prog 142 #[ptr G, .func (.func 96) #[ptr G] #[], .int .i64 2500, .string ⟨#[125]⟩] W (KsOk N G d ks r2 W)) (g2 : Good Rl r2) (hw : Pa.want r2 [[59]] = .bad p0 er) :
    Calls Tryz.prog 98 #[ptr G, ptr B] w (Bad2 G B (p0 : Int) (er : Int) w) := by
  have hlt := h.base
  have hBG : B ≠ G := by omega
  have hI0 : OutI N G d Rl w w B ts (dI fu st ex nm t l p pv nilV false) := ⟨h, hg, Keep2.refl _ _ _, hd⟩
  have HI0 := Lib.hid hI0
  have c0 : ∀ W, PAt N W G ts d → Calls Tryz.prog 92 #[ptr G, sl1 W] (one W #[61]) (OkPost N G d (.bool true) ts.tail W) := fun W hW => takesL [[61]] 1 rfl (by decide) (by decide) hg hb hW
  have HG1 := Lib.hid (show Good Rl ts.tail from good_behind hg (by decide) hb)
  have c1 : ∀ W, PAt N W G ts.tail d → Calls Tryz.prog 95 #[ptr G, sl1 W] (one W #[123]) (OkPost N G d (.string ⟨s1.toArray⟩) r1 W) := fun W hW => by have := wantL [[123]] 1 rfl (by decide) (by decide) (show Good Rl ts.tail from good_behind hg (by decide) hb) hW; rw [h1] at this; exact this
  have c3 : ∀ W, PAt N W G r2 d → Calls Tryz.prog 95 #[ptr G, sl1 W] (one W #[59]) (BadPost G (p0 : Int) (er : Int) W) := fun W hW => by have := wantL [[59]] 1 rfl (by decide) (by decide) g2 hW; rw [hw] at this; exact this
  clear h hI0 hd hb h1 hw
  go_enter Tryz.func98, Tryz.ntmps98
  go_wp2_with (first
    | (have c0' := c0 _ HI0.out.p; (try simp only [sl1, one, World.size_alloc, World.size_setCell] at c0'); (with_reducible refine c0'.mono ?_); rintro e w1 ⟨rfl, hp, hk⟩; have HI1 := Lib.hid (HI0.out.next hBG hp hk HG1.out); have hf1 := HI1.out.frozen 7; have hc1 := HI1.out.cell (i := 7) rfl; have HJ1 := Lib.hid (HI1.out.set hB 7 (.bool true) (c2 := dI fu st ex nm t l p pv nilV true) rfl); clear hp hk c0 c0')
    | (have c1' := c1 _ HJ1.out.p; (try simp only [sl1, one, World.size_alloc, World.size_setCell] at c1'); (with_reducible refine c1'.mono ?_); rintro e w2 ⟨rfl, hp, hk⟩; have HI2 := Lib.hid (HJ1.out.next hBG hp hk g1); clear hp hk c1 c1')
    | (have cl' := cl _ HI2.out.p; (with_reducible refine cl'.mono ?_); rintro e w3 ⟨v, rfl, hks, hp, hk⟩; obtain ⟨a1, l1, q1, rfl⟩ := hks.slice; have HI3 := Lib.hid (HI2.out.next hBG hp hk g2); have HX := Lib.hid hks; have hf3 := HI3.out.frozen 6; have hc3 := HI3.out.cell (i := 6) rfl; have HJ3 := Lib.hid (HI3.out.set hB 6 (.slice a1 l1 q1) (c2 := dI fu st ex nm t l p pv (.slice a1 l1 q1) true) rfl); have HS := Lib.hid HI2.out.keep.size; have HBL := Lib.hid (Array.getElem?_eq_some_iff.1 HI2.out.left).1; clear hp hk hks cl cl')
    | (have c3' := c3 _ HJ3.out.p; (try simp only [sl1, one, World.size_alloc, World.size_setCell] at c3'); (with_reducible refine c3'.mono ?_); rintro e w4 ⟨rfl, hp, hk⟩; have HW := Lib.hid hp; have HK := Lib.hid (HJ3.out.keep.next hk); clear hp hk c3 c3'))
  exact ⟨rfl, rfl, HW.out, HK.out⟩
set_option maxRecDepth 100000 in
set_option maxHeartbeats 8000000 in
theorem arr_ok {w : World} {G d B : Nat} {ts : List Tok} {fu st ex : Bool} {nm : ByteArray} {t l p : Int} {pv : Value} {s1 : Bs} {r1 r2 : List Tok} {ks : List Ex} {s3 : Bs} {r3 : List Tok} (h : PAt N w G ts d) (hg : Good Rl ts) (hB : N ≤ B) (hd : w.heap[B]? = some (.cells (dI fu st ex nm t l p pv nilV false) TDe (0, 0))) (hb : Pa.sees ts [[61]] = true) (h1 : Pa.want ts.tail [[123]] = .ok s1 r1) (g1 : Good Rl r1) (cl : ∀ W, PAt N W G r1 d → Calls Tryz.prog 142 #[ptr G, .func (.func 96) #[ptr G] #[], .int .i64 2500, .string ⟨#[125]⟩] W (KsOk N G d ks r2 W)) (g2 : Good Rl r2) (hw : Pa.want r2 [[59]] = .ok s3 r3) (g3 : Good Rl r3) :
    Calls Tryz.prog 98 #[ptr G, ptr B] w (fun e w' => ∃ a1 l1 q1, e = .returned (.tuple #[]) ∧ KsAt (fun b => w.heap.size ≤ b) w' ks (.slice a1 l1 q1) ∧ OutI N G d Rl w w' B r3 (dI fu st ex nm t l p pv (.slice a1 l1 q1) true)) := by
  have hlt := h.base
  have hBG : B ≠ G := by omega
  have hI0 : OutI N G d Rl w w B ts (dI fu st ex nm t l p pv nilV false) := ⟨h, hg, Keep2.refl _ _ _, hd⟩
  have HI0 := Lib.hid hI0
  have c0 : ∀ W, PAt N W G ts d → Calls Tryz.prog 92 #[ptr G, sl1 W] (one W #[61]) (OkPost N G d (.bool true) ts.tail W) := fun W hW => takesL [[61]] 1 rfl (by decide) (by decide) hg hb hW
  have HG1 := Lib.hid (show Good Rl ts.tail from good_behind hg (by decide) hb)
  have c1 : ∀ W, PAt N W G ts.tail d → Calls Tryz.prog 95 #[ptr G, sl1 W] (one W #[123]) (OkPost N G d (.string ⟨s1.toArray⟩) r1 W) := fun W hW => by have := wantL [[123]] 1 rfl (by decide) (by decide) (show Good Rl ts.tail from good_behind hg (by decide) hb) hW; rw [h1] at this; exact this
  have c3 : ∀ W, PAt N W G r2 d → Calls Tryz.prog 95 #[ptr G, sl1 W] (one W #[59]) (OkPost N G d (.string ⟨s3.toArray⟩) r3 W) := fun W hW => by have := wantL [[59]] 1 rfl (by decide) (by decide) g2 hW; rw [hw] at this; exact this
  clear h hI0 hd hb h1 hw
  go_enter Tryz.func98, Tryz.ntmps98
  go_wp2_with (first
    | (have c0' := c0 _ HI0.out.p; (try simp only [sl1, one, World.size_alloc, World.size_setCell] at c0'); (with_reducible refine c0'.mono ?_); rintro e w1 ⟨rfl, hp, hk⟩; have HI1 := Lib.hid (HI0.out.next hBG hp hk HG1.out); have hf1 := HI1.out.frozen 7; have hc1 := HI1.out.cell (i := 7) rfl; have HJ1 := Lib.hid (HI1.out.set hB 7 (.bool true) (c2 := dI fu st ex nm t l p pv nilV true) rfl); clear hp hk c0 c0')
    | (have c1' := c1 _ HJ1.out.p; (try simp only [sl1, one, World.size_alloc, World.size_setCell] at c1'); (with_reducible refine c1'.mono ?_); rintro e w2 ⟨rfl, hp, hk⟩; have HI2 := Lib.hid (HJ1.out.next hBG hp hk g1); clear hp hk c1 c1')
    | (have cl' := cl _ HI2.out.p; (with_reducible refine cl'.mono ?_); rintro e w3 ⟨v, rfl, hks, hp, hk⟩; obtain ⟨a1, l1, q1, rfl⟩ := hks.slice; have HI3 := Lib.hid (HI2.out.next hBG hp hk g2); have HX := Lib.hid hks; have hf3 := HI3.out.frozen 6; have hc3 := HI3.out.cell (i := 6) rfl; have HJ3 := Lib.hid (HI3.out.set hB 6 (.slice a1 l1 q1) (c2 := dI fu st ex nm t l p pv (.slice a1 l1 q1) true) rfl); have HS := Lib.hid HI2.out.keep.size; have HBL := Lib.hid (Array.getElem?_eq_some_iff.1 HI2.out.left).1; clear hp hk hks cl cl')
    | (have c3' := c3 _ HJ3.out.p; (try simp only [sl1, one, World.size_alloc, World.size_setCell] at c3'); (with_reducible refine c3'.mono ?_); rintro e w4 ⟨rfl, hp, hk⟩; have HI4 := Lib.hid (HJ3.out.next hBG hp hk g3); have HK4 := Lib.hid hk; clear hp hk c3 c3'))
  go_end0
  have hs := HS.out
  have hbl := HBL.out
  refine ⟨a1, l1, q1, rfl, ?_, HI4.out⟩
  have h1 := HX.out.mono (w' := w3.setCell ⟨B, 6, none⟩ (.slice a1 l1 q1)) ⟨by simp [World.setCell], fun b hb hl => Below.heap_setCell _ _ _ _ (by show b ≠ B; have : w2.heap.size ≤ b := hb; omega)⟩ fun b hb => hb
  exact h1.mono (Same.of HK4.out (by omega)) fun b hb => Nat.le_trans hs hb
set_option maxRecDepth 100000 in
set_option maxHeartbeats 8000000 in
theorem body_none {w : World} {G d B : Nat} {ts : List Tok} {fu st ex : Bool} {nm : ByteArray} {t l p : Int} {pv : Value}  (h : PAt N w G ts d) (hg : Good Rl ts) (hB : N ≤ B) (hd : w.heap[B]? = some (.cells (dI fu st ex nm t l p pv nilV false) TDe (0, 0))) (hb : Pa.sees ts [[59]] = true) :
    Calls Tryz.prog 100 #[ptr G, ptr B] w (fun e w' => e = .returned (.tuple #[]) ∧ OutI N G d Rl w w' B ts.tail (dI fu st ex nm t l p pv nilV false)) := by
  have hlt := h.base
  have hBG : B ≠ G := by omega
  have hI0 : OutI N G d Rl w w B ts (dI fu st ex nm t l p pv nilV false) := ⟨h, hg, Keep2.refl _ _ _, hd⟩
  have HI0 := Lib.hid hI0
  have c0 : ∀ W, PAt N W G ts d → Calls Tryz.prog 92 #[ptr G, sl1 W] (one W #[59]) (OkPost N G d (.bool true) ts.tail W) := fun W hW => takesL [[59]] 1 rfl (by decide) (by decide) hg hb hW
  have HG1 := Lib.hid (show Good Rl ts.tail from good_behind hg (by decide) hb)
  clear h hI0 hd hb
  go_enter Tryz.func100, Tryz.ntmps100
  go_wp2_with (first
    | (have c0' := c0 _ HI0.out.p; (try simp only [sl1, one, World.size_alloc, World.size_setCell] at c0'); (with_reducible refine c0'.mono ?_); rintro e w1 ⟨rfl, hp, hk⟩; have HI1 := Lib.hid (HI0.out.next hBG hp hk HG1.out); clear hp hk c0 c0'))
  refine bodyPost_ret (results_none rfl _ _ _) rfl ?_
  exact ⟨rfl, HI1.out⟩
set_option maxRecDepth 100000 in
set_option maxHeartbeats 8000000 in
theorem body_bad {w : World} {G d B : Nat} {ts : List Tok} {fu st ex : Bool} {nm : ByteArray} {t l p : Int} {pv : Value} {p0 er : Nat} (h : PAt N w G ts d) (hg : Good Rl ts) (hB : N ≤ B) (hd : w.heap[B]? = some (.cells (dI fu st ex nm t l p pv nilV false) TDe (0, 0))) (hb : Pa.sees ts [[59]] = false) (cb : ∀ W, PAt N W G ts d → Calls Tryz.prog 146 #[ptr G] W (BadPost G (p0 : Int) (er : Int) W)) :
    Calls Tryz.prog 100 #[ptr G, ptr B] w (Bad2 G B (p0 : Int) (er : Int) w) := by
  have hlt := h.base
  have hBG : B ≠ G := by omega
  have hI0 : OutI N G d Rl w w B ts (dI fu st ex nm t l p pv nilV false) := ⟨h, hg, Keep2.refl _ _ _, hd⟩
  have HI0 := Lib.hid hI0
  have c0 : ∀ W, PAt N W G ts d → Calls Tryz.prog 92 #[ptr G, sl1 W] (one W #[59]) (OkPost N G d (.bool false) ts W) := fun W hW => takesL [[59]] 1 rfl (by decide) (by decide) hg hb hW
  clear h hI0 hd hb
  go_enter Tryz.func100, Tryz.ntmps100
  go_wp2_with (first
    | (have c0' := c0 _ HI0.out.p; (try simp only [sl1, one, World.size_alloc, World.size_setCell] at c0'); (with_reducible refine c0'.mono ?_); rintro e w1 ⟨rfl, hp, hk⟩; have HI1 := Lib.hid (HI0.out.next hBG hp hk hg); have hf1 := HI1.out.frozen 7; have hc1 := HI1.out.cell (i := 7) rfl; have HJ1 := Lib.hid (HI1.out.set hB 7 (.bool true) (c2 := dI fu st ex nm t l p pv nilV true) rfl); clear hp hk c0 c0')
    | (have cb' := cb _ HJ1.out.p; (try simp only [sl1, one, World.size_alloc, World.size_setCell] at cb'); (with_reducible refine cb'.mono ?_); rintro e w2 ⟨rfl, hp, hk⟩; have HW := Lib.hid hp; have HK := Lib.hid (HJ1.out.keep.next hk); clear hp hk cb cb'))
  exact ⟨rfl, rfl, HW.out, HK.out⟩
/-- a body, laid into its declaration -/
def BoOk (N G d : Nat) (Rl : Bs → Prop) (B : Nat) (fu st ex : Bool) (nm : ByteArray) (t l p : Int) (pv : Value) (x : St) (r2 : List Tok) (w : World) (e : Ending) (w' : World) : Prop := ∃ (k : Nat) (nm2 : Bs) (t2 l2 p2 : Nat) (a1 : Option Addr) (l1 c1 : Nat) (a2 : Option Addr) (m2 c2 : Nat) (c : List Value), e = .returned (.tuple #[]) ∧ c.toArray = st7 k (.slice a1 l1 c1) (.slice a2 m2 c2) ⟨nm2.toArray⟩ t2 l2 p2 ∧ StAt (fun b => w.heap.size ≤ b) w' x c ∧
      OutI N G d Rl w w' B r2 (de17 fu st ex nm t l nilV true pv k (.slice a1 l1 c1) (.slice a2 m2 c2) ⟨nm2.toArray⟩ t2 l2 p2 p)
set_option maxRecDepth 100000 in
set_option maxHeartbeats 8000000 in
theorem body_ok {w : World} {G d B : Nat} {ts : List Tok} {fu st ex : Bool} {nm : ByteArray} {t l p : Int} {pv : Value} {x : St} {r2 : List Tok} (h : PAt N w G ts d) (hg : Good Rl ts) (hB : N ≤ B) (hd : w.heap[B]? = some (.cells (dI fu st ex nm t l p pv nilV false) TDe (0, 0))) (hb : Pa.sees ts [[59]] = false) (cb : ∀ W, PAt N W G ts d → Calls Tryz.prog 146 #[ptr G] W (StOk N G d x r2 W)) (g2 : Good Rl r2) :
    Calls Tryz.prog 100 #[ptr G, ptr B] w (BoOk N G d Rl B fu st ex nm t l p pv x r2 w) := by
  have hlt := h.base
  have hBG : B ≠ G := by omega
  have hI0 : OutI N G d Rl w w B ts (dI fu st ex nm t l p pv nilV false) := ⟨h, hg, Keep2.refl _ _ _, hd⟩
  have HI0 := Lib.hid hI0
  have c0 : ∀ W, PAt N W G ts d → Calls Tryz.prog 92 #[ptr G, sl1 W] (one W #[59]) (OkPost N G d (.bool false) ts W) := fun W hW => takesL [[59]] 1 rfl (by decide) (by decide) hg hb hW
  clear h hI0 hd hb
  go_enter Tryz.func100, Tryz.ntmps100
  go_wp2_with (first
    | (have c0' := c0 _ HI0.out.p; (try simp only [sl1, one, World.size_alloc, World.size_setCell] at c0'); (with_reducible refine c0'.mono ?_); rintro e w1 ⟨rfl, hp, hk⟩; have HI1 := Lib.hid (HI0.out.next hBG hp hk hg); have hf1 := HI1.out.frozen 7; have hc1 := HI1.out.cell (i := 7) rfl; have HJ1 := Lib.hid (HI1.out.set hB 7 (.bool true) (c2 := dI fu st ex nm t l p pv nilV true) rfl); clear hp hk c0 c0')
    | (have cb' := cb _ HJ1.out.p; (with_reducible refine cb'.mono ?_); rintro e w2 ⟨c, rfl, hst, hp, hk⟩; obtain ⟨k3, nm3, t3, l3, p3, a1, l1, c1, a2, m2, c2, e3, z3⟩ := hst.seven; rw [e3]; have HI2 := Lib.hid (HJ1.out.next hBG hp hk g2); have hth := HI2.out.body (k3 := k3) (ev3 := .slice a1 l1 c1) (kv3 := .slice a2 m2 c2) (n3 := ⟨nm3.toArray⟩) (t3 := t3) (l3 := l3) (p3 := p3) hB; have HT := Lib.hid hth; have hth1 : w2.there B 9 (st7 k3 (.slice a1 l1 c1) (.slice a2 m2 c2) ⟨nm3.toArray⟩ t3 l3 p3).size := hth.1; have HTH := Lib.hid hth1; clear hth1; have HX := Lib.hid hst; have HE := Lib.hid e3; have HS := Lib.hid (And.intro HJ1.out.keep.size (Array.getElem?_eq_some_iff.1 HJ1.out.left).1); clear hp hk hst cb cb' hth e3 z3)
    | ((with_reducible refine wpList_store_mid rfl TSt (.tmp 14) (.tmp 12) rfl B 9 (st7 k3 (.slice a1 l1 c1) (.slice a2 m2 c2) ⟨nm3.toArray⟩ t3 l3 p3) ?xa ?xb HTH.out (size7 _ _ _ _ _ _ _) (one7 _ _ _ _ _ _ _ _ _ _ _) ?_); (case xa => simp [go_sem]); (case xb => simp [go_sem])))
  go_end0
  obtain ⟨s1, s2⟩ := HS.out
  refine ⟨k3, nm3, t3, l3, p3, a1, l1, c1, a2, m2, c2, c, rfl, HE.out, ?_, HT.out.2⟩
  refine HX.out.mono ⟨Nat.le_of_eq (by show _ = (((((((w2.setCell ⟨B, 9, none⟩ (.int .i64 (k3 : Int))).setCell ⟨B, 10, none⟩ (.slice a1 l1 c1)).setCell ⟨B, 11, none⟩ (.slice a2 m2 c2)).setCell ⟨B, 12, none⟩ (.string ⟨nm3.toArray⟩)).setCell ⟨B, 13, none⟩ (.int .i64 (t3 : Int))).setCell ⟨B, 14, none⟩ (.int .i64 (l3 : Int))).setCell ⟨B, 15, none⟩ (.int .i64 (p3 : Int))).heap.size; simp only [World.size_setCell]), fun b hb hl => ?_⟩ fun b hb => Nat.le_trans s1 hb
  have hb' : (w1.setCell ⟨B, 7, none⟩ (.bool true)).heap.size ≤ b := hb
  simp only [World.size_setCell] at hb' s2
  have hne : b ≠ B := by omega
  exact (((((((Below.heap_setCell _ ⟨B, 15, none⟩ _ b hne).trans (Below.heap_setCell _ ⟨B, 14, none⟩ _ b hne)).trans (Below.heap_setCell _ ⟨B, 13, none⟩ _ b hne)).trans (Below.heap_setCell _ ⟨B, 12, none⟩ _ b hne)).trans (Below.heap_setCell _ ⟨B, 11, none⟩ _ b hne)).trans (Below.heap_setCell _ ⟨B, 10, none⟩ _ b hne)).trans (Below.heap_setCell _ ⟨B, 9, none⟩ _ b hne))
end PaC
end Go.Proofs.YtnlbhnmiekanfaaGreatDoor
