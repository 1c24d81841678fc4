/-
  A decimal's bits: some bits come. Conditions: Go's own tables lie.
-/
import Derived.Test.YtldglmehchkbeaaGreatDoorLexBm
import Derived.ScopeJumps
import Derived.WalkMore
namespace Go.Proofs.YtldglmehchkbeaaGreatDoor
open Go.RowKit
set_option linter.unusedVariables false
set_option linter.unusedSimpArgs false
namespace LxC
open Lx
def fwd (P : Program) (c : Code) (Q : Exit → Act → World → Prop) : Exit → Act → World → Prop
  | .goto l, a, w => ∃ rest, findLabel c l = some rest ∧ rest.wp P (Exit.noGoto Q) a w
  | e, a, w => Q e a w
/-- a scope in which the run jumps on to a label, once at most -/
theorem wp_scope_fwd {P : Program} {a : Act} {w : World} {Q : Exit → Act → World → Prop} {c : Code}
    (first : ∀ F : Exit → Act → World → Prop, (∀ l a w rest, findLabel c l = some rest → rest.wp P (Exit.noGoto Q) a w → F (.goto l) a w) → (∀ a w, Q .ret a w → F .ret a w) → (∀ a w, Q .normal a w → F .normal a w) → c.wp P F a w) : (Code.scope c).wp P Q a w := by
  intro b k cs
  obtain ⟨e, a₁, w₁, hq, harr⟩ := first (fwd P c Q) (fun l a w rest h1 h2 => ⟨rest, h1, h2⟩) (fun _ _ h => h) (fun _ _ h => h) b (.inScope c :: k) cs
  cases e with
  | normal => exact ⟨.normal, a₁, w₁, hq, .head step_scope (Steps.trans harr (.one step_inScope))⟩
  | exit id => exact ⟨.exit id, a₁, w₁, hq, fun k' hk => .head step_scope (harr k' (by simp [exitTo, hk]))⟩
  | goto l =>
    obtain ⟨rest, hf, hw⟩ := hq
    have hg : gotoIn l (.inScope c :: k) = some (.code rest :: .inScope c :: k) := by simp [gotoIn, hf]
    obtain ⟨e, a₂, w₂, hq, harr₂⟩ := hw b (.inScope c :: k) cs
    have h0 := Steps.head step_scope (harr _ hg)
    cases e with
    | normal => exact ⟨.normal, a₂, w₂, hq, Steps.trans h0 (Steps.trans harr₂ (.one step_inScope))⟩
    | exit id => exact ⟨.exit id, a₂, w₂, hq, fun k' hk => Steps.trans h0 (harr₂ k' (by simp [exitTo, hk]))⟩
    | goto l' => exact absurd hq (by simp [Exit.noGoto])
    | ret => exact ⟨_, a₂, w₂, hq, .of_steps h0 harr₂⟩
    | panic ch => exact ⟨_, a₂, w₂, hq, .of_steps h0 harr₂⟩
    | outgrown => exact ⟨_, a₂, w₂, hq, .of_steps h0 harr₂⟩
  | ret => exact ⟨_, a₁, w₁, hq, .of_steps (.one step_scope) harr⟩
  | panic ch => exact ⟨_, a₁, w₁, hq, .of_steps (.one step_scope) harr⟩
  | outgrown => exact ⟨_, a₁, w₁, hq, .of_steps (.one step_scope) harr⟩
/-- Go's own tables lie, below G -/
def TblAt (G : Nat) (w : World) : Prop := ∃ w0, w0.heap.size ≤ G ∧ Info w0 ∧ Pows w0 ∧ Cheats w0 ∧ Below w0.heap.size w0 w
theorem TblAt.later {G : Nat} {w w' : World} (h : TblAt G w) (hb : Below G w w') : TblAt G w' := by
  obtain ⟨w0, h1, h2, h3, h4, h5⟩ := h
  exact ⟨w0, h1, h2, h3, h4, h5.trans (hb.mono h1)⟩
theorem TblAt.info {G : Nat} {w : World} (h : TblAt G w) : Info w := by
  obtain ⟨w0, h1, ⟨a, b, c⟩, h3, h4, h5⟩ := h
  exact ⟨(h5.cell (cell_in a)).trans a, (h5.cell (cell_in b)).trans b, (h5.cell (cell_in c)).trans c⟩
theorem TblAt.pows {G : Nat} {w : World} (h : TblAt G w) : Pows w := by
  obtain ⟨w0, h1, h2, ⟨p, o, c, a, b⟩, h4, h5⟩ := h
  refine ⟨p, o, c, (h5.cell (cell_in a)).trans a, fun i hi => ?_⟩
  obtain ⟨x, x1, x2, x3⟩ := b i hi
  exact ⟨x, x1, x2, (h5.cell (cell_in x3)).trans x3⟩
theorem TblAt.cheats {G : Nat} {w : World} (h : TblAt G w) : Cheats w := by
  obtain ⟨w0, h1, h2, h3, ⟨p, o, c, a, b⟩, h5⟩ := h
  refine ⟨p, o, c, (h5.cell (cell_in a)).trans a, fun i hi => ?_⟩
  obtain ⟨x, S, x1, x2, x3⟩ := b i hi
  exact ⟨x, S, (h5.cell (cell_in x1)).trans x1, (h5.cell (cell_in x2)).trans x2, x3⟩
theorem far_i (w : World) (G nd : Nat) (z : Int) (c : Nat → Nat) (dp : Int) (ng tr : Bool) (h : DcAt w G c nd dp ng tr) (hv : Vd c nd) (hz1 : -1000000 ≤ z) (hz2 : z ≤ -1) (hdp1 : -50000000 ≤ dp) (hdp2 : dp ≤ 50000000) :
    Calls Tryz.prog 170 #[.pointer (some ⟨G, 0, none⟩), .int .i64 z] w (FarPost G dp ng w) := by
  obtain ⟨k, rfl⟩ : ∃ k : Nat, z = -(k : Int) := ⟨(-z).toNat, by omega⟩
  exact far_ w G nd k c dp ng tr h hv (by omega) (by omega) hdp1 hdp2
def BitsPost (G : Nat) (w : World) (e : Ending) (w' : World) : Prop := (∃ (x : Int) (o : Bool), e = .returned (.tuple #[.int .u64 x, .bool o])) ∧ Below G w w'
set_option maxRecDepth 100000 in
set_option maxHeartbeats 16000000 in
theorem floatBits_ (w : World) (G nd : Nat) (c : Nat → Nat) (dp : Int) (ng tr : Bool) (h : DcAt w G c nd dp ng tr) (hv : Vd c nd) (hT : TblAt G w) (hdp1 : -1000000 ≤ dp) (hdp2 : dp ≤ 1000000) :
    Calls Tryz.prog 150 #[.pointer (some ⟨G, 0, none⟩), .pointer (some ⟨6, 0, none⟩)] w (BitsPost G w) := by
  have k0 := h.nd_
  have k1 := h.dp_
  have k2 := h.ng_
  have hi := hT.info
  have i0 := hi.mant
  have i1 := hi.exp
  have i2 := hi.bias
  have N0 : ((nd : Int) == 0) = false := by rw [beq_eq_false_iff_ne]; have := hv.one; omega
  have H0 := Lib.hid h
  have HV := Lib.hid hv
  have HT := Lib.hid hT
  clear h hv hT hi
  rcases (show 310 < dp ∨ dp < -330 ∨ -330 ≤ dp ∧ dp ≤ 310 by omega) with hd | hd | ⟨hd1, hd2⟩
  · have h1 : dp > 310 := hd
    have i0' : ∀ n, (w.drewN n).cell? ⟨6, 0, none⟩ = some (.int .u64 52) := fun _ => i0
    have i1' : ∀ n, (w.drewN n).cell? ⟨6, 1, none⟩ = some (.int .u64 11) := fun _ => i1
    have i2' : ∀ n, (w.drewN n).cell? ⟨6, 2, none⟩ = some (.int .i64 (-1023)) := fun _ => i2
    have k2' : ∀ n, (w.drewN n).cell? ⟨G, 802, none⟩ = some (.bool ng) := fun _ => k2
    clear i0 i1 i2
    cases ng
    all_goals
      go_enter Tryz.func150, Tryz.ntmps150
      go_wp2
      refine wp_scope_fwd fun F hgo hret hnorm => ?_
      go_wp2
      go_step3
      refine hgo _ _ _ _ rfl ?_
      go_wp2
      go_quiet (fail)
      go_wp2
      go_step3
      go_wp2
      go_quiet (fail)
      go_wp2
      try (go_quiet (fail); go_wp2)
      rw [Exit.noGoto_ret]
      go_ret2
      exact ⟨⟨_, _, rfl⟩, by repeat (first | exact Below.refl _ _ | refine below_draws ?_ _)⟩
  · have h1 : ¬ dp > 310 := by omega
    have i0' : ∀ n, (w.drewN n).cell? ⟨6, 0, none⟩ = some (.int .u64 52) := fun _ => i0
    have i1' : ∀ n, (w.drewN n).cell? ⟨6, 1, none⟩ = some (.int .u64 11) := fun _ => i1
    have k2' : ∀ n, (w.drewN n).cell? ⟨G, 802, none⟩ = some (.bool ng) := fun _ => k2
    cases ng
    all_goals
      go_enter Tryz.func150, Tryz.ntmps150
      go_wp2
      refine wp_scope_fwd fun F hgo hret hnorm => ?_
      go_wp2
      go_step3
      refine hgo _ _ _ _ rfl ?_
      go_wp2
      go_quiet (fail)
      go_wp2
      try (go_quiet (fail); go_wp2)
      rw [Exit.noGoto_ret]
      go_ret2
      exact ⟨⟨_, _, rfl⟩, by repeat (first | exact Below.refl _ _ | refine below_draws ?_ _)⟩
  · have h1 : ¬ dp > 310 := by omega
    have h2 : ¬ dp < -330 := by omega
    clear i0 i1 i2 k2
    go_enter Tryz.func150, Tryz.ntmps150
    go_wp2
    refine wp_scope_fwd fun F hgo hret hnorm => ?_
    go_wp2
    go_loopg [6] 3109 (fun gg v6 wr => ∃ (c1 : Nat → Nat) (nd1 : Nat) (dp1 x : Int) (t1 : Bool), 10 * dp1 + ((c1 0 : Nat) : Int) - 48 ≤ gg ∧ v6 = .int .i64 x ∧ 0 ≤ x ∧ x + 27 * (gg : Int) ≤ 100000 ∧ -1000 ≤ dp1 ∧ dp1 ≤ 310 ∧ Aside (DcAt wr G c1 nd1 dp1 ng t1) ∧ Aside (Vd c1 nd1) ∧ Aside (TblAt G wr) ∧ Aside (Below G w wr))
    case atStart => exact ⟨c, nd, dp, 0, tr, by have := HV.out.hi 0 HV.out.one; omega, rfl, by omega, by omega, by omega, by omega, H0.out, HV.out, HT.out, Below.refl _ _⟩
    case round =>
      clear k0 k1 N0 hd1 hd2 h1 h2 hdp1 hdp2
      obtain ⟨c1, nd1, dp1, x, t1, hgg, rfl, hx0, hx1, hd1, hd2, A1, A2, A3, A4⟩ := hrel
      have k1 := A1.out.dp_
      obtain ⟨pp, o, cc, p0, pall⟩ := A3.out.pows
      have htop := A2.out.top
      have hhi := A2.out.hi 0 A2.out.one
      have k1' : ∀ n, (wr.drewN n).cell? ⟨G, 801, none⟩ = some (.int .i64 dp1) := fun _ => k1
      have p0' : ∀ n, (wr.drewN n).cell? ⟨8, 0, none⟩ = some (.slice (some ⟨pp, o, none⟩) 9 cc) := fun _ => p0
      by_cases hpos : dp1 > 0
      · by_cases h9 : 9 ≤ dp1
        · have h9' : dp1 ≥ 9 := h9
          have cs : ∀ n, Calls Tryz.prog 170 #[.pointer (some ⟨G, 0, none⟩), .int .i64 (-27)] (wr.drewN n) (RightPost G nd1 c1 dp1 ng (wr.drewN n)) := fun n => shr_ (wr.drewN n) G nd1 27 c1 dp1 ng t1 (A1.out.draws n) A2.out (by omega) (by omega) (by omega) (by omega)
          clear pall
          go_wp2
          go_quiet (fail)
          go_wp2_with ((with_reducible refine (cs _).mono ?_); rintro e' w' ⟨rfl, ⟨c2, nd2, ρ, t2, hD, hV, hρ, hρ0⟩, hB⟩; have HD := Lib.hid hD; have HV2 := Lib.hid hV; have HB := Lib.hid hB; have HR := Lib.hid hρ0; clear hD hB hV hρ0)
          go_roundg (gk - 1)
          case measure => omega
          case rel =>
            have h5 := HV2.out.hi 0 HV2.out.one
            have h7 := HV2.out.top
            have h6 := HR.out
            exact ⟨c2, nd2, dp1 - (ρ : Int), x + 27, t2, by omega, by go_num, by omega, by omega, by omega, by omega, HD.out, HV2.out, (A3.out.later (below_draws (Below.refl _ _) nq)).later HB.out, (below_draws A4.out nq).trans HB.out⟩
        · obtain ⟨q, rfl⟩ : ∃ q : Nat, dp1 = q := ⟨dp1.toNat, by omega⟩
          have h9' : ¬ ((q : Int) ≥ 9) := by omega
          have hq9 : q < 9 := by omega
          obtain ⟨y, y1, y26, hy⟩ := pall q hq9
          have hy' : ∀ n, (wr.drewN n).cell? ⟨pp, o + q, none⟩ = some (.int .i64 (y : Int)) := fun _ => hy
          have cs : ∀ n, Calls Tryz.prog 170 #[.pointer (some ⟨G, 0, none⟩), .int .i64 (-(y : Int))] (wr.drewN n) (RightPost G nd1 c1 (q : Int) ng (wr.drewN n)) := fun n => shr_ (wr.drewN n) G nd1 y c1 q ng t1 (A1.out.draws n) A2.out (by omega) (by omega) (by omega) (by omega)
          clear pall
          go_wp2
          go_quiet (fail)
          obtain ⟨n1, hn1⟩ : ∃ n1, n1 = nq := ⟨_, rfl⟩
          rw [← hn1]
          clear hn1
          go_wp2
          go_quiet (fail)
          go_wp2_with ((with_reducible refine (cs _).mono ?_); rintro e' w' ⟨rfl, ⟨c2, nd2, ρ, t2, hD, hV, hρ, hρ0⟩, hB⟩; have HD := Lib.hid hD; have HV2 := Lib.hid hV; have HB := Lib.hid hB; have HR := Lib.hid hρ0; clear hD hB hV hρ0)
          go_roundg (gk - 1)
          case measure => omega
          case rel =>
            have h5 := HV2.out.hi 0 HV2.out.one
            have h7 := HV2.out.top
            have h6 := HR.out
            exact ⟨c2, nd2, (q : Int) - (ρ : Int), x + y, t2, by omega, by go_num, by omega, by omega, by omega, by omega, HD.out, HV2.out, (A3.out.later (below_draws (Below.refl _ _) _)).later HB.out, (below_draws A4.out _).trans HB.out⟩
      · clear p0 p0' pall k1'
        go_wp2
        go_loopg [6] 30000 (fun gg v6 wr => ∃ (c1 : Nat → Nat) (nd1 : Nat) (dp1 x : Int) (t1 : Bool), 10 * (20 - dp1) + 57 - ((c1 0 : Nat) : Int) ≤ gg ∧ v6 = .int .i64 x ∧ -1000000 ≤ x - 27 * (gg : Int) ∧ x ≤ 100000 ∧ -1000 ≤ dp1 ∧ dp1 ≤ 20 ∧ Aside (DcAt wr G c1 nd1 dp1 ng t1) ∧ Aside (Vd c1 nd1) ∧ Aside (TblAt G wr) ∧ Aside (Below G w wr))
        case atStart => exact ⟨c1, nd1, dp1, x, t1, by omega, rfl, by omega, by omega, by omega, by omega, A1.out, A2.out, A3.out, A4.out⟩
        case round =>
          clear k1 htop hhi hpos hx0 hx1 hd1 hd2 hgg A1 A2 A3 A4
          obtain ⟨c1, nd1, dp1, x, t1, hgg, rfl, hx0, hx1, hd1, hd2, A1, A2, A3, A4⟩ := hrel
          have k1 := A1.out.dp_
          obtain ⟨pp, o, cc, p0, pall⟩ := A3.out.pows
          have htop := A2.out.top
          have hhi := A2.out.hi 0 A2.out.one
          have k1' : ∀ n, (wr.drewN n).cell? ⟨G, 801, none⟩ = some (.int .i64 dp1) := fun _ => k1
          have p0' : ∀ n, (wr.drewN n).cell? ⟨8, 0, none⟩ = some (.slice (some ⟨pp, o, none⟩) 9 cc) := fun _ => p0
          rcases (show dp1 ≤ -9 ∨ (∃ q : Nat, dp1 = -(q : Int) ∧ 1 ≤ q ∧ q < 9) ∨ (dp1 = 0 ∧ c1 0 < 53) ∨ (dp1 = 0 ∧ 53 ≤ c1 0) ∨ 0 < dp1 by
            rcases (show dp1 ≤ -9 ∨ (-9 < dp1 ∧ dp1 < 0) ∨ dp1 = 0 ∨ 0 < dp1 by omega) with h | h | h | h
            · exact .inl h
            · exact .inr (.inl ⟨(-dp1).toNat, by omega, by omega, by omega⟩)
            · rcases Nat.lt_or_ge (c1 0) 53 with h' | h'
              · exact .inr (.inr (.inl ⟨h, h'⟩))
              · exact .inr (.inr (.inr (.inl ⟨h, h'⟩)))
            · exact .inr (.inr (.inr (.inr h)))) with hc | ⟨q, rfl, hq1, hq9⟩ | ⟨rfl, hc⟩ | ⟨rfl, hc⟩ | hc
          · have hneg : dp1 < 0 := by omega
            have h9 : -dp1 ≥ 9 := by omega
            clear pall
            have cs : ∀ n, Calls Tryz.prog 170 #[.pointer (some ⟨G, 0, none⟩), .int .i64 27] (wr.drewN n) (LeftPost G nd1 c1 dp1 ng (wr.drewN n)) := fun n => shl_ (wr.drewN n) G nd1 27 c1 dp1 ng t1 (A1.out.draws n) A2.out (by omega) (by omega) (A3.out.later (below_draws (Below.refl _ _) n)).cheats (by omega) (by omega)
            go_wp2
            go_quiet (fail)
            go_wp2_with ((with_reducible refine (cs _).mono ?_); rintro e' w' ⟨rfl, ⟨c2, nd2, δ, t2, hD, hV, hδ, hδ0⟩, hB⟩; have HD := Lib.hid hD; have HV2 := Lib.hid hV; have HB := Lib.hid hB; have HR := Lib.hid hδ0; clear hD hB hV hδ0)
            go_roundg (gk - 1)
            case measure => omega
            case rel =>
              have h5 := HV2.out.hi 0 HV2.out.one
              have h7 := HV2.out.top
              have h6 := HR.out
              exact ⟨c2, nd2, dp1 + (δ : Int), x - 27, t2, by omega, by go_num, by omega, by omega, by omega, by omega, HD.out, HV2.out, (A3.out.later (below_draws (Below.refl _ _) nq)).later HB.out, (below_draws A4.out nq).trans HB.out⟩
          · have hneg : -(q : Int) < 0 := by omega
            have hq0 : 0 < q := hq1
            have h9 : ¬ ((q : Int) ≥ 9) := by omega
            obtain ⟨y, y1, y26, hy⟩ := pall q hq9
            have hy' : ∀ n, (wr.drewN n).cell? ⟨pp, o + q, none⟩ = some (.int .i64 (y : Int)) := fun _ => hy
            clear pall
            have cs : ∀ n, Calls Tryz.prog 170 #[.pointer (some ⟨G, 0, none⟩), .int .i64 (y : Int)] (wr.drewN n) (LeftPost G nd1 c1 (-(q : Int)) ng (wr.drewN n)) := fun n => shl_ (wr.drewN n) G nd1 y c1 (-(q : Int)) ng t1 (A1.out.draws n) A2.out (by omega) (by omega) (A3.out.later (below_draws (Below.refl _ _) n)).cheats (by omega) (by omega)
            go_wp2
            go_quiet (fail)
            obtain ⟨n1, hn1⟩ : ∃ n1, n1 = nq := ⟨_, rfl⟩
            rw [← hn1]
            clear hn1
            go_wp2
            go_quiet (fail)
            go_wp2_with ((with_reducible refine (cs _).mono ?_); rintro e' w' ⟨rfl, ⟨c2, nd2, δ, t2, hD, hV, hδ, hδ0⟩, hB⟩; have HD := Lib.hid hD; have HV2 := Lib.hid hV; have HB := Lib.hid hB; have HR := Lib.hid hδ0; clear hD hB hV hδ0)
            go_roundg (gk - 1)
            case measure => omega
            case rel =>
              have h5 := HV2.out.hi 0 HV2.out.one
              have h7 := HV2.out.top
              have h6 := HR.out
              exact ⟨c2, nd2, -(q : Int) + (δ : Int), x - (y : Int), t2, by omega, by go_num, by omega, by omega, by omega, by omega, HD.out, HV2.out, (A3.out.later (below_draws (Below.refl _ _) _)).later HB.out, (below_draws A4.out _).trans HB.out⟩
          · obtain ⟨y, y1, y26, hy⟩ := pall 0 (by omega)
            have hy0 : wr.cell? ⟨pp, o, none⟩ = some (.int .i64 (y : Int)) := hy
            have hy' : ∀ n, (wr.drewN n).cell? ⟨pp, o, none⟩ = some (.int .i64 (y : Int)) := fun _ => hy
            have kb : wr.cell? ⟨G, 0, none⟩ = some (.int .u8 ((c1 0 : Nat) : Int)) := A1.out.byte (by omega)
            have hc' : ((c1 0 : Nat) : Int) < 53 := by omega
            clear pall
            have cs : ∀ n, Calls Tryz.prog 170 #[.pointer (some ⟨G, 0, none⟩), .int .i64 (y : Int)] (wr.drewN n) (LeftPost G nd1 c1 0 ng (wr.drewN n)) := fun n => shl_ (wr.drewN n) G nd1 y c1 0 ng t1 (A1.out.draws n) A2.out (by omega) (by omega) (A3.out.later (below_draws (Below.refl _ _) n)).cheats (by omega) (by omega)
            go_wp2
            go_quiet (fail)
            obtain ⟨n1, hn1⟩ : ∃ n1, n1 = nq := ⟨_, rfl⟩
            rw [← hn1]
            clear hn1
            go_wp2
            go_quiet (fail)
            go_wp2_with ((with_reducible refine (cs _).mono ?_); rintro e' w' ⟨rfl, ⟨c2, nd2, δ, t2, hD, hV, hδ, hδ0⟩, hB⟩; have HD := Lib.hid hD; have HV2 := Lib.hid hV; have HB := Lib.hid hB; have HR := Lib.hid hδ0; clear hD hB hV hδ0)
            go_roundg (gk - 1)
            case measure => omega
            case rel =>
              have h5 := HV2.out.hi 0 HV2.out.one
              have h7 := HV2.out.top
              have h6 := HR.out
              exact ⟨c2, nd2, (0 : Int) + (δ : Int), x - (y : Int), t2, by omega, by go_num, by omega, by omega, by omega, by omega, HD.out, HV2.out, (A3.out.later (below_draws (Below.refl _ _) _)).later HB.out, (below_draws A4.out _).trans HB.out⟩
          · have kb : wr.cell? ⟨G, 0, none⟩ = some (.int .u8 ((c1 0 : Nat) : Int)) := A1.out.byte (by omega)
            have hc' : ¬ ((c1 0 : Nat) : Int) < 53 := by omega
            clear pall p0 p0' k1'
            have hi := A3.out.info
            have i0 := hi.mant
            have i1 := hi.exp
            have i2 := hi.bias
            have cf := fun (z : Int) (h1 : -1000000 ≤ z) (h2 : z ≤ -1) => far_i wr G nd1 z c1 0 ng t1 A1.out A2.out h1 h2 (by omega) (by omega)
            have hxl : -1000000 ≤ x := by omega
            clear hi hx0 hgg
            by_cases hx : x - 1 < -1022
            · go_wp2_with ((with_reducible refine (cf _ (by omega) (by omega)).mono ?_); rintro e' w' ⟨rfl, ⟨c2, nd2, dp2, t2, hD, hV, hp1, hp2⟩, hB⟩; have HD := Lib.hid hD; have HV2 := Lib.hid hV; have HB := Lib.hid hB; clear hD hB hV)
              have BT := Lib.hid (A3.out.later HB.out)
              have BB := Lib.hid (A4.out.trans HB.out)
              have hi2 := BT.out.info
              have j0 := hi2.mant
              have j1 := hi2.exp
              have j2 := hi2.bias
              have j3 := HD.out.ng_
              have cs := fun n => shl_ _ G _ 53 _ _ ng _ (HD.out.draws n) HV2.out (by omega) (by omega) (BT.out.later (below_draws (Below.refl _ _) n)).cheats (by omega) (by omega)
              have cs' : ∀ n, Calls Tryz.prog 170 #[.pointer (some ⟨G, 0, none⟩), .int .i64 53] (w'.drewN n) _ := cs
              have j0' : ∀ n, (w'.drewN n).cell? ⟨6, 0, none⟩ = some (.int .u64 52) := fun _ => j0
              have j1' : ∀ n, (w'.drewN n).cell? ⟨6, 1, none⟩ = some (.int .u64 11) := fun _ => j1
              have j2' : ∀ n, (w'.drewN n).cell? ⟨6, 2, none⟩ = some (.int .i64 (-1023)) := fun _ => j2
              have j3' : ∀ n, (w'.drewN n).cell? ⟨G, 802, none⟩ = some (.bool ng) := fun _ => j3
              clear cs
              go_quiet (fail)
              go_wp2_with ((with_reducible refine (cs' _).mono ?_); rintro e' w3 ⟨rfl, ⟨c3, nd3, δ, t3, hD, hV, hδ, -⟩, hB⟩; have HD3 := Lib.hid hD; have HV3 := Lib.hid hV; have HB3 := Lib.hid hB; clear hD hB hV)
              all_goals first
                | (go_step3
                   refine hgo _ _ _ _ rfl ?_
                   go_wp2
                   go_quiet (fail)
                   go_wp2
                   go_step3
                   go_wp2
                   go_quiet (fail)
                   go_wp2
                   all_goals (try (go_quiet (fail); go_wp2))
                   all_goals
                     rw [Exit.noGoto_ret]
                     go_ret2
                     exact ⟨⟨_, _, rfl⟩, by repeat (first | exact BB.out | refine below_draws ?_ _)⟩)
                | (have BT3 := Lib.hid ((BT.out.later (below_draws (Below.refl _ _) nq)).later HB3.out)
                   have BB3 := Lib.hid ((below_draws BB.out nq).trans HB3.out)
                   clear j0 j1 j2 j3 j0' j1' j2' j3' cs'
                   have hi3 := BT3.out.info
                   have j0 := hi3.mant
                   have j1 := hi3.exp
                   have j2 := hi3.bias
                   have j3 := HD3.out.ng_
                   have j0' : ∀ n, (w3.drewN n).cell? ⟨6, 0, none⟩ = some (.int .u64 52) := fun _ => j0
                   have j1' : ∀ n, (w3.drewN n).cell? ⟨6, 1, none⟩ = some (.int .u64 11) := fun _ => j1
                   have j2' : ∀ n, (w3.drewN n).cell? ⟨6, 2, none⟩ = some (.int .i64 (-1023)) := fun _ => j2
                   have j3' : ∀ n, (w3.drewN n).cell? ⟨G, 802, none⟩ = some (.bool ng) := fun _ => j3
                   have cw := whole_ w3 G nd3 c3 _ ng t3 HD3.out HV3.out (by omega) (by omega)
                   refine cw.mono ?_
                   rintro e' w4 ⟨⟨mant, rfl⟩, rfl⟩
                   clear cw hi3
                   go_wp2
                   all_goals first
                     | (go_step3
                        refine hgo _ _ _ _ rfl ?_
                        go_wp2
                        go_quiet (fail)
                        go_wp2
                        go_step3
                        go_wp2
                        go_quiet (fail)
                        go_wp2
                        all_goals (try (go_quiet (fail); go_wp2))
                        all_goals
                          rw [Exit.noGoto_ret]
                          go_ret2
                          exact ⟨⟨_, _, rfl⟩, by repeat (first | exact BB3.out | refine below_draws ?_ _)⟩)
                     | (go_step3
                        refine hgo _ _ _ _ rfl ?_
                        go_wp2
                        go_quiet (fail)
                        go_wp2
                        all_goals (try (go_quiet (fail); go_wp2))
                        all_goals
                          rw [Exit.noGoto_ret]
                          go_ret2
                          exact ⟨⟨_, _, rfl⟩, by repeat (first | exact BB3.out | refine below_draws ?_ _)⟩)
                     | (go_quiet (fail)
                        go_wp2
                        all_goals first
                          | (go_step3
                             refine hgo _ _ _ _ rfl ?_
                             go_wp2
                             go_quiet (fail)
                             go_wp2
                             go_step3
                             go_wp2
                             go_quiet (fail)
                             go_wp2
                             all_goals (try (go_quiet (fail); go_wp2))
                             all_goals
                               rw [Exit.noGoto_ret]
                               go_ret2
                               exact ⟨⟨_, _, rfl⟩, by repeat (first | exact BB3.out | refine below_draws ?_ _)⟩)
                          | (go_step3
                             refine hgo _ _ _ _ rfl ?_
                             go_wp2
                             go_quiet (fail)
                             go_wp2
                             all_goals (try (go_quiet (fail); go_wp2))
                             all_goals
                               rw [Exit.noGoto_ret]
                               go_ret2
                               exact ⟨⟨_, _, rfl⟩, by repeat (first | exact BB3.out | refine below_draws ?_ _)⟩)))
            · go_wp2
              have HD := Lib.hid A1.out
              have HV2 := Lib.hid A2.out
              have HB := Lib.hid (Below.refl G wr)
              have BT := Lib.hid (A3.out.later HB.out)
              have BB := Lib.hid (A4.out.trans HB.out)
              have hi2 := BT.out.info
              have j0 := hi2.mant
              have j1 := hi2.exp
              have j2 := hi2.bias
              have j3 := HD.out.ng_
              have cs := fun n => shl_ _ G _ 53 _ _ ng _ (HD.out.draws n) HV2.out (by omega) (by omega) (BT.out.later (below_draws (Below.refl _ _) n)).cheats (by omega) (by omega)
              have cs' : ∀ n, Calls Tryz.prog 170 #[.pointer (some ⟨G, 0, none⟩), .int .i64 53] (wr.drewN n) _ := cs
              have j0' : ∀ n, (wr.drewN n).cell? ⟨6, 0, none⟩ = some (.int .u64 52) := fun _ => j0
              have j1' : ∀ n, (wr.drewN n).cell? ⟨6, 1, none⟩ = some (.int .u64 11) := fun _ => j1
              have j2' : ∀ n, (wr.drewN n).cell? ⟨6, 2, none⟩ = some (.int .i64 (-1023)) := fun _ => j2
              have j3' : ∀ n, (wr.drewN n).cell? ⟨G, 802, none⟩ = some (.bool ng) := fun _ => j3
              clear cs
              go_quiet (fail)
              go_wp2_with ((with_reducible refine (cs' _).mono ?_); rintro e' w3 ⟨rfl, ⟨c3, nd3, δ, t3, hD, hV, hδ, -⟩, hB⟩; have HD3 := Lib.hid hD; have HV3 := Lib.hid hV; have HB3 := Lib.hid hB; clear hD hB hV)
              all_goals first
                | (go_step3
                   refine hgo _ _ _ _ rfl ?_
                   go_wp2
                   go_quiet (fail)
                   go_wp2
                   go_step3
                   go_wp2
                   go_quiet (fail)
                   go_wp2
                   all_goals (try (go_quiet (fail); go_wp2))
                   all_goals
                     rw [Exit.noGoto_ret]
                     go_ret2
                     exact ⟨⟨_, _, rfl⟩, by repeat (first | exact BB.out | refine below_draws ?_ _)⟩)
                | (have BT3 := Lib.hid ((BT.out.later (below_draws (Below.refl _ _) nq)).later HB3.out)
                   have BB3 := Lib.hid ((below_draws BB.out nq).trans HB3.out)
                   clear j0 j1 j2 j3 j0' j1' j2' j3' cs'
                   have hi3 := BT3.out.info
                   have j0 := hi3.mant
                   have j1 := hi3.exp
                   have j2 := hi3.bias
                   have j3 := HD3.out.ng_
                   have j0' : ∀ n, (w3.drewN n).cell? ⟨6, 0, none⟩ = some (.int .u64 52) := fun _ => j0
                   have j1' : ∀ n, (w3.drewN n).cell? ⟨6, 1, none⟩ = some (.int .u64 11) := fun _ => j1
                   have j2' : ∀ n, (w3.drewN n).cell? ⟨6, 2, none⟩ = some (.int .i64 (-1023)) := fun _ => j2
                   have j3' : ∀ n, (w3.drewN n).cell? ⟨G, 802, none⟩ = some (.bool ng) := fun _ => j3
                   have cw := whole_ w3 G nd3 c3 _ ng t3 HD3.out HV3.out (by omega) (by omega)
                   refine cw.mono ?_
                   rintro e' w4 ⟨⟨mant, rfl⟩, rfl⟩
                   clear cw hi3
                   go_wp2
                   all_goals first
                     | (go_step3
                        refine hgo _ _ _ _ rfl ?_
                        go_wp2
                        go_quiet (fail)
                        go_wp2
                        go_step3
                        go_wp2
                        go_quiet (fail)
                        go_wp2
                        all_goals (try (go_quiet (fail); go_wp2))
                        all_goals
                          rw [Exit.noGoto_ret]
                          go_ret2
                          exact ⟨⟨_, _, rfl⟩, by repeat (first | exact BB3.out | refine below_draws ?_ _)⟩)
                     | (go_step3
                        refine hgo _ _ _ _ rfl ?_
                        go_wp2
                        go_quiet (fail)
                        go_wp2
                        all_goals (try (go_quiet (fail); go_wp2))
                        all_goals
                          rw [Exit.noGoto_ret]
                          go_ret2
                          exact ⟨⟨_, _, rfl⟩, by repeat (first | exact BB3.out | refine below_draws ?_ _)⟩)
                     | (go_quiet (fail)
                        go_wp2
                        all_goals first
                          | (go_step3
                             refine hgo _ _ _ _ rfl ?_
                             go_wp2
                             go_quiet (fail)
                             go_wp2
                             go_step3
                             go_wp2
                             go_quiet (fail)
                             go_wp2
                             all_goals (try (go_quiet (fail); go_wp2))
                             all_goals
                               rw [Exit.noGoto_ret]
                               go_ret2
                               exact ⟨⟨_, _, rfl⟩, by repeat (first | exact BB3.out | refine below_draws ?_ _)⟩)
                          | (go_step3
                             refine hgo _ _ _ _ rfl ?_
                             go_wp2
                             go_quiet (fail)
                             go_wp2
                             all_goals (try (go_quiet (fail); go_wp2))
                             all_goals
                               rw [Exit.noGoto_ret]
                               go_ret2
                               exact ⟨⟨_, _, rfl⟩, by repeat (first | exact BB3.out | refine below_draws ?_ _)⟩)))
          · have hc' : ¬ dp1 < 0 := by omega
            have hc2 : (dp1 == 0) = false := by rw [beq_eq_false_iff_ne]; omega
            clear pall p0 p0' k1'
            have hi := A3.out.info
            have i0 := hi.mant
            have i1 := hi.exp
            have i2 := hi.bias
            have cf := fun (z : Int) (h1 : -1000000 ≤ z) (h2 : z ≤ -1) => far_i wr G nd1 z c1 dp1 ng t1 A1.out A2.out h1 h2 (by omega) (by omega)
            have hxl : -1000000 ≤ x := by omega
            clear hi hx0 hgg
            by_cases hx : x - 1 < -1022
            · go_wp2_with ((with_reducible refine (cf _ (by omega) (by omega)).mono ?_); rintro e' w' ⟨rfl, ⟨c2, nd2, dp2, t2, hD, hV, hp1, hp2⟩, hB⟩; have HD := Lib.hid hD; have HV2 := Lib.hid hV; have HB := Lib.hid hB; clear hD hB hV)
              have BT := Lib.hid (A3.out.later HB.out)
              have BB := Lib.hid (A4.out.trans HB.out)
              have hi2 := BT.out.info
              have j0 := hi2.mant
              have j1 := hi2.exp
              have j2 := hi2.bias
              have j3 := HD.out.ng_
              have cs := fun n => shl_ _ G _ 53 _ _ ng _ (HD.out.draws n) HV2.out (by omega) (by omega) (BT.out.later (below_draws (Below.refl _ _) n)).cheats (by omega) (by omega)
              have cs' : ∀ n, Calls Tryz.prog 170 #[.pointer (some ⟨G, 0, none⟩), .int .i64 53] (w'.drewN n) _ := cs
              have j0' : ∀ n, (w'.drewN n).cell? ⟨6, 0, none⟩ = some (.int .u64 52) := fun _ => j0
              have j1' : ∀ n, (w'.drewN n).cell? ⟨6, 1, none⟩ = some (.int .u64 11) := fun _ => j1
              have j2' : ∀ n, (w'.drewN n).cell? ⟨6, 2, none⟩ = some (.int .i64 (-1023)) := fun _ => j2
              have j3' : ∀ n, (w'.drewN n).cell? ⟨G, 802, none⟩ = some (.bool ng) := fun _ => j3
              clear cs
              go_quiet (fail)
              go_wp2_with ((with_reducible refine (cs' _).mono ?_); rintro e' w3 ⟨rfl, ⟨c3, nd3, δ, t3, hD, hV, hδ, -⟩, hB⟩; have HD3 := Lib.hid hD; have HV3 := Lib.hid hV; have HB3 := Lib.hid hB; clear hD hB hV)
              all_goals first
                | (go_step3
                   refine hgo _ _ _ _ rfl ?_
                   go_wp2
                   go_quiet (fail)
                   go_wp2
                   go_step3
                   go_wp2
                   go_quiet (fail)
                   go_wp2
                   all_goals (try (go_quiet (fail); go_wp2))
                   all_goals
                     rw [Exit.noGoto_ret]
                     go_ret2
                     exact ⟨⟨_, _, rfl⟩, by repeat (first | exact BB.out | refine below_draws ?_ _)⟩)
                | (have BT3 := Lib.hid ((BT.out.later (below_draws (Below.refl _ _) nq)).later HB3.out)
                   have BB3 := Lib.hid ((below_draws BB.out nq).trans HB3.out)
                   clear j0 j1 j2 j3 j0' j1' j2' j3' cs'
                   have hi3 := BT3.out.info
                   have j0 := hi3.mant
                   have j1 := hi3.exp
                   have j2 := hi3.bias
                   have j3 := HD3.out.ng_
                   have j0' : ∀ n, (w3.drewN n).cell? ⟨6, 0, none⟩ = some (.int .u64 52) := fun _ => j0
                   have j1' : ∀ n, (w3.drewN n).cell? ⟨6, 1, none⟩ = some (.int .u64 11) := fun _ => j1
                   have j2' : ∀ n, (w3.drewN n).cell? ⟨6, 2, none⟩ = some (.int .i64 (-1023)) := fun _ => j2
                   have j3' : ∀ n, (w3.drewN n).cell? ⟨G, 802, none⟩ = some (.bool ng) := fun _ => j3
                   have cw := whole_ w3 G nd3 c3 _ ng t3 HD3.out HV3.out (by omega) (by omega)
                   refine cw.mono ?_
                   rintro e' w4 ⟨⟨mant, rfl⟩, rfl⟩
                   clear cw hi3
                   go_wp2
                   all_goals first
                     | (go_step3
                        refine hgo _ _ _ _ rfl ?_
                        go_wp2
                        go_quiet (fail)
                        go_wp2
                        go_step3
                        go_wp2
                        go_quiet (fail)
                        go_wp2
                        all_goals (try (go_quiet (fail); go_wp2))
                        all_goals
                          rw [Exit.noGoto_ret]
                          go_ret2
                          exact ⟨⟨_, _, rfl⟩, by repeat (first | exact BB3.out | refine below_draws ?_ _)⟩)
                     | (go_step3
                        refine hgo _ _ _ _ rfl ?_
                        go_wp2
                        go_quiet (fail)
                        go_wp2
                        all_goals (try (go_quiet (fail); go_wp2))
                        all_goals
                          rw [Exit.noGoto_ret]
                          go_ret2
                          exact ⟨⟨_, _, rfl⟩, by repeat (first | exact BB3.out | refine below_draws ?_ _)⟩)
                     | (go_quiet (fail)
                        go_wp2
                        all_goals first
                          | (go_step3
                             refine hgo _ _ _ _ rfl ?_
                             go_wp2
                             go_quiet (fail)
                             go_wp2
                             go_step3
                             go_wp2
                             go_quiet (fail)
                             go_wp2
                             all_goals (try (go_quiet (fail); go_wp2))
                             all_goals
                               rw [Exit.noGoto_ret]
                               go_ret2
                               exact ⟨⟨_, _, rfl⟩, by repeat (first | exact BB3.out | refine below_draws ?_ _)⟩)
                          | (go_step3
                             refine hgo _ _ _ _ rfl ?_
                             go_wp2
                             go_quiet (fail)
                             go_wp2
                             all_goals (try (go_quiet (fail); go_wp2))
                             all_goals
                               rw [Exit.noGoto_ret]
                               go_ret2
                               exact ⟨⟨_, _, rfl⟩, by repeat (first | exact BB3.out | refine below_draws ?_ _)⟩)))
            · go_wp2
              have HD := Lib.hid A1.out
              have HV2 := Lib.hid A2.out
              have HB := Lib.hid (Below.refl G wr)
              have BT := Lib.hid (A3.out.later HB.out)
              have BB := Lib.hid (A4.out.trans HB.out)
              have hi2 := BT.out.info
              have j0 := hi2.mant
              have j1 := hi2.exp
              have j2 := hi2.bias
              have j3 := HD.out.ng_
              have cs := fun n => shl_ _ G _ 53 _ _ ng _ (HD.out.draws n) HV2.out (by omega) (by omega) (BT.out.later (below_draws (Below.refl _ _) n)).cheats (by omega) (by omega)
              have cs' : ∀ n, Calls Tryz.prog 170 #[.pointer (some ⟨G, 0, none⟩), .int .i64 53] (wr.drewN n) _ := cs
              have j0' : ∀ n, (wr.drewN n).cell? ⟨6, 0, none⟩ = some (.int .u64 52) := fun _ => j0
              have j1' : ∀ n, (wr.drewN n).cell? ⟨6, 1, none⟩ = some (.int .u64 11) := fun _ => j1
              have j2' : ∀ n, (wr.drewN n).cell? ⟨6, 2, none⟩ = some (.int .i64 (-1023)) := fun _ => j2
              have j3' : ∀ n, (wr.drewN n).cell? ⟨G, 802, none⟩ = some (.bool ng) := fun _ => j3
              clear cs
              go_quiet (fail)
              go_wp2_with ((with_reducible refine (cs' _).mono ?_); rintro e' w3 ⟨rfl, ⟨c3, nd3, δ, t3, hD, hV, hδ, -⟩, hB⟩; have HD3 := Lib.hid hD; have HV3 := Lib.hid hV; have HB3 := Lib.hid hB; clear hD hB hV)
              all_goals first
                | (go_step3
                   refine hgo _ _ _ _ rfl ?_
                   go_wp2
                   go_quiet (fail)
                   go_wp2
                   go_step3
                   go_wp2
                   go_quiet (fail)
                   go_wp2
                   all_goals (try (go_quiet (fail); go_wp2))
                   all_goals
                     rw [Exit.noGoto_ret]
                     go_ret2
                     exact ⟨⟨_, _, rfl⟩, by repeat (first | exact BB.out | refine below_draws ?_ _)⟩)
                | (have BT3 := Lib.hid ((BT.out.later (below_draws (Below.refl _ _) nq)).later HB3.out)
                   have BB3 := Lib.hid ((below_draws BB.out nq).trans HB3.out)
                   clear j0 j1 j2 j3 j0' j1' j2' j3' cs'
                   have hi3 := BT3.out.info
                   have j0 := hi3.mant
                   have j1 := hi3.exp
                   have j2 := hi3.bias
                   have j3 := HD3.out.ng_
                   have j0' : ∀ n, (w3.drewN n).cell? ⟨6, 0, none⟩ = some (.int .u64 52) := fun _ => j0
                   have j1' : ∀ n, (w3.drewN n).cell? ⟨6, 1, none⟩ = some (.int .u64 11) := fun _ => j1
                   have j2' : ∀ n, (w3.drewN n).cell? ⟨6, 2, none⟩ = some (.int .i64 (-1023)) := fun _ => j2
                   have j3' : ∀ n, (w3.drewN n).cell? ⟨G, 802, none⟩ = some (.bool ng) := fun _ => j3
                   have cw := whole_ w3 G nd3 c3 _ ng t3 HD3.out HV3.out (by omega) (by omega)
                   refine cw.mono ?_
                   rintro e' w4 ⟨⟨mant, rfl⟩, rfl⟩
                   clear cw hi3
                   go_wp2
                   all_goals first
                     | (go_step3
                        refine hgo _ _ _ _ rfl ?_
                        go_wp2
                        go_quiet (fail)
                        go_wp2
                        go_step3
                        go_wp2
                        go_quiet (fail)
                        go_wp2
                        all_goals (try (go_quiet (fail); go_wp2))
                        all_goals
                          rw [Exit.noGoto_ret]
                          go_ret2
                          exact ⟨⟨_, _, rfl⟩, by repeat (first | exact BB3.out | refine below_draws ?_ _)⟩)
                     | (go_step3
                        refine hgo _ _ _ _ rfl ?_
                        go_wp2
                        go_quiet (fail)
                        go_wp2
                        all_goals (try (go_quiet (fail); go_wp2))
                        all_goals
                          rw [Exit.noGoto_ret]
                          go_ret2
                          exact ⟨⟨_, _, rfl⟩, by repeat (first | exact BB3.out | refine below_draws ?_ _)⟩)
                     | (go_quiet (fail)
                        go_wp2
                        all_goals first
                          | (go_step3
                             refine hgo _ _ _ _ rfl ?_
                             go_wp2
                             go_quiet (fail)
                             go_wp2
                             go_step3
                             go_wp2
                             go_quiet (fail)
                             go_wp2
                             all_goals (try (go_quiet (fail); go_wp2))
                             all_goals
                               rw [Exit.noGoto_ret]
                               go_ret2
                               exact ⟨⟨_, _, rfl⟩, by repeat (first | exact BB3.out | refine below_draws ?_ _)⟩)
                          | (go_step3
                             refine hgo _ _ _ _ rfl ?_
                             go_wp2
                             go_quiet (fail)
                             go_wp2
                             all_goals (try (go_quiet (fail); go_wp2))
                             all_goals
                               rw [Exit.noGoto_ret]
                               go_ret2
                               exact ⟨⟨_, _, rfl⟩, by repeat (first | exact BB3.out | refine below_draws ?_ _)⟩)))
end LxC
end Go.Proofs.YtldglmehchkbeaaGreatDoor
