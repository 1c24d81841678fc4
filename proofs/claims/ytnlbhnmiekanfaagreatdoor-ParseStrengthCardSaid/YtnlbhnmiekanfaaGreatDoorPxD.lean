/-
  ParO ParP ParQ ParR ParS, joined.
  Conditions: those that are written at each.
-/
import Derived.Test.YtnlbhnmiekanfaaGreatDoorPxC
import Derived.Test.YtnlbhnmiekanfaaGreatDoorPxA
import Derived.Deep.LoopGhost
/-
  The parser's calls as the model says: one step of the fuel. Condition: what the parser holds lies in memory.
-/
namespace Go.Proofs.YtnlbhnmiekanfaaGreatDoor
open Go.RowKit
set_option linter.unusedVariables false
set_option linter.unusedSimpArgs false
namespace PaC
open Pa Lx
variable {N : Nat} {Rl : Bs → Prop} {rb : Bs → Nat}
/-- a call answers as the model says, be it well or ill; where the model had no time, nothing is said -/
def Con (N G : Nat) (Rl : Bs → Prop) (f : FuncId) (args : Array Value) (d : Nat) (ts : List Tok) (x : R Ex) : Prop :=
  (∀ a r, x = .ok a r → Good Rl r ∧ ∀ w, PAt N w G ts d → Calls Tryz.prog f args w (ExOk N G d a r w)) ∧ ∀ p er, x = .bad p er → ∀ w, PAt N w G ts d → Calls Tryz.prog f args w (BadPost G (p : Int) (er : Int) w)
theorem bind_ok {α β : Type} {x : R α} {g : α → List Tok → R β} {b : β} {r : List Tok} (h : x.bind g = .ok b r) : ∃ a r1, x = .ok a r1 ∧ g a r1 = .ok b r := by
  cases x with
  | ok a r1 => exact ⟨a, r1, rfl, h⟩
  | bad p e => cases h
  | out => cases h
theorem bind_bad {α β : Type} {x : R α} {g : α → List Tok → R β} {p e : Nat} (h : x.bind g = .bad p e) : x = .bad p e ∨ ∃ a r1, x = .ok a r1 ∧ g a r1 = .bad p e := by
  cases x with
  | ok a r1 => exact .inr ⟨a, r1, rfl, h⟩
  | bad p' e' => cases h; exact .inl rfl
  | out => cases h
theorem expr_step {G d f : Nat} {ts : List Tok} (hg : Good Rl ts)
    (hb : ∀ ts, Good Rl ts → Con N G Rl 139 #[ptr G, .int .i64 0] (d + 1) ts (pBin rb f 0 (d + 1) ts))
    (hx : ∀ ts, Good Rl ts → Con N G Rl 96 #[ptr G] (d + 1) ts (pExpr rb f (d + 1) ts)) :
    Con N G Rl 96 #[ptr G] d ts (pExpr rb (f + 1) d ts) := by
  obtain ⟨t, l, rfl⟩ := hg.ne
  by_cases hd : 40 ≤ d
  · have e : pExpr rb (f + 1) d (t :: l) = .bad t.place 12 := by rw [pExpr, if_pos hd]; rfl
    refine ⟨fun a r h => (by rw [e] at h; cases h), fun p er h w hp => ?_⟩
    rw [e] at h
    cases h
    exact expr_deep hp hd
  · have hd' : d < 40 := by omega
    have e : pExpr rb (f + 1) d (t :: l) = (pBin rb f 0 (d + 1) (t :: l)).bind fun left r => if Pa.sees r [[61]] then (pExpr rb f (d + 1) r.tail).bind fun x r2 => .ok (Pa.pair 6 [] left x) r2 else .ok left r := by rw [pExpr, if_neg hd]
    obtain ⟨b1, b2⟩ := hb _ hg
    constructor
    · intro a r h
      rw [e] at h
      obtain ⟨x, r1, h1, h2⟩ := bind_ok h
      obtain ⟨g1, c1⟩ := b1 _ _ h1
      obtain ⟨u, r2, rfl⟩ := g1.ne
      cases hs : Pa.sees (u :: r2) [[61]] with
      | false =>
        rw [if_neg (by rw [hs]; decide)] at h2
        cases h2
        exact ⟨g1, fun w hp => expr_plain hp hd' c1 hs⟩
      | true =>
        rw [if_pos hs] at h2
        obtain ⟨v, r3, rfl, g2⟩ := g1.sees (by decide) hs
        obtain ⟨y, r4, h3, h4⟩ := bind_ok h2
        obtain ⟨g3, c3⟩ := (hx _ g2).1 _ _ h3
        cases h4
        exact ⟨g3, fun w hp => expr_set hp hd' c1 hs c3⟩
    · intro p er h w hp
      rw [e] at h
      rcases bind_bad h with h1 | ⟨x, r1, h1, h2⟩
      · exact expr_bin_bad hp hd' (b2 _ _ h1)
      · obtain ⟨g1, c1⟩ := b1 _ _ h1
        obtain ⟨u, r2, rfl⟩ := g1.ne
        cases hs : Pa.sees (u :: r2) [[61]] with
        | false =>
          rw [if_neg (by rw [hs]; decide)] at h2
          cases h2
        | true =>
          rw [if_pos hs] at h2
          obtain ⟨v, r3, rfl, g2⟩ := g1.sees (by decide) hs
          rcases bind_bad h2 with h3 | ⟨y, r4, h3, h4⟩
          · exact expr_set_bad hp hd' c1 hs ((hx _ g2).2 _ _ h3)
          · cases h4
theorem pType_le {ts r : List Tok} {a : Nat} (h : pType ts = .ok a r) : a ≤ 4 := by
  rw [pType] at h
  obtain ⟨t, r1, h1, h2⟩ := bind_ok h
  split at h2
  · rw [Pa.pointer] at h2
    split at h2 <;> cases h2 <;> omega
  · split at h2
    · rw [Pa.pointer] at h2
      split at h2 <;> cases h2 <;> omega
    · cases h2; omega
theorem typed_con {G d : Nat} {ts : List Tok} (hg : Good Rl ts) : (∀ a r, pType ts = .ok a r → Good Rl r ∧ a ≤ 4 ∧ ∀ w, PAt N w G ts d → Calls Tryz.prog 93 #[ptr G] w (OkPost N G d (.int .i64 (a : Int)) r w)) ∧
    ∀ p er, pType ts = .bad p er → ∀ w, PAt N w G ts d → Calls Tryz.prog 93 #[ptr G] w (BadPost G (p : Int) (er : Int) w) := by
  constructor
  · intro a r h
    refine ⟨?_, pType_le h, fun w hp => ?_⟩
    · obtain ⟨t, l, rfl⟩ := hg.ne
      rw [pType] at h
      obtain ⟨s, r1, h1, h2⟩ := bind_ok h
      cases hx : Pa.sees (t :: l) types with
      | false => rw [want_bad hx] at h1; cases h1
      | true =>
        obtain ⟨u, r3, rfl, hg2⟩ := hg.sees (by decide) hx
        rw [want_ok hx] at h1
        cases h1
        have key : ∀ a' b', Pa.pointer a' b' (u :: r3) = .ok a r → Good Rl r := by
          intro a' b' hq
          obtain ⟨x, r5, e5, g5, -⟩ := pointer_all (N := N) (G := G) (d := d) a' b' hg2
          rw [e5] at hq
          cases hq
          exact g5
        split at h2
        · exact key _ _ h2
        · split at h2
          · exact key _ _ h2
          · cases h2; exact hg2
    · have c := (typed_ hp hg).1
      rw [h] at c
      exact c
  · intro p er h w hp
    have c := (typed_ hp hg).1
    rw [h] at c
    exact c
theorem unary_step {G d f : Nat} {ts : List Tok} (hg : Good Rl ts)
    (hu : ∀ ts, Good Rl ts → Con N G Rl 171 #[ptr G] (d + 1) ts (pUn rb f (d + 1) ts))
    (hp' : ∀ ts, Good Rl ts → Con N G Rl 192 #[ptr G] (d + 1) ts (pPost rb f (d + 1) ts)) :
    Con N G Rl 171 #[ptr G] d ts (pUn rb (f + 1) d ts) := by
  obtain ⟨t, l, rfl⟩ := hg.ne
  by_cases hd : 40 ≤ d
  · have e : pUn rb (f + 1) d (t :: l) = .bad t.place 12 := by rw [pUn, if_pos hd]; rfl
    refine ⟨fun a r h => (by rw [e] at h; cases h), fun p er h w hp => ?_⟩
    rw [e] at h
    cases h
    exact unary_deep hp hd
  · have hd' : d < 40 := by omega
    cases h5 : Pa.sees (t :: l) unaries with
    | true =>
      obtain ⟨v, r, rfl, g1⟩ := hg.sees (by decide) h5
      have e : pUn rb (f + 1) d (t :: v :: r) = (pUn rb f (d + 1) (v :: r)).bind fun x r => .ok (.mk 4 t.text [] 0 0 [x] 0 t.place) r := by rw [pUn, if_neg hd, if_pos h5]; rfl
      obtain ⟨b1, b2⟩ := hu _ g1
      constructor
      · intro a r2 h
        rw [e] at h
        obtain ⟨x, r1, h1, h2⟩ := bind_ok h
        cases h2
        exact ⟨(b1 _ _ h1).1, fun w hp => unary_sign hp hd' h5 (b1 _ _ h1).2⟩
      · intro p er h w hp
        rw [e] at h
        rcases bind_bad h with h1 | ⟨x, r1, h1, h2⟩
        · exact unary_sign_bad hp hd' h5 (b2 _ _ h1)
        · cases h2
    | false =>
      by_cases hc : (Pa.sees (t :: l) [[40]] && decide ((Pa.hd (t :: l).tail).kind = 5)) = true
      · rw [Bool.and_eq_true] at hc
        obtain ⟨v, r, rfl, g1⟩ := hg.sees (by decide) hc.1
        have hk : v.kind = 5 := of_decide_eq_true hc.2
        have e : pUn rb (f + 1) d (t :: v :: r) = (pType (v :: r)).bind fun y r => (Pa.want r [[41]]).bind fun _ r2 => (pUn rb f (d + 1) r2).bind fun x r3 => .ok (.mk 9 [] [] y 0 [x] 0 t.place) r3 := by
          rw [pUn, if_neg hd, if_neg (by rw [h5]; decide), if_pos (by rw [Bool.and_eq_true]; exact hc)]; rfl
        obtain ⟨t1, t2⟩ := typed_con (N := N) (G := G) (d := d + 1) g1
        constructor
        · intro a r2 h
          rw [e] at h
          obtain ⟨y, r1, h1, h2⟩ := bind_ok h
          obtain ⟨g2, hy4, ct⟩ := t1 _ _ h1
          obtain ⟨u, r6, rfl⟩ := g2.ne
          cases hy : Pa.sees (u :: r6) [[41]] with
          | false => rw [want_bad hy] at h2; cases h2
          | true =>
            obtain ⟨z, r7, rfl, g3⟩ := g2.sees (by decide) hy
            rw [want_ok hy] at h2
            obtain ⟨x, r8, h3, h4⟩ := bind_ok (show (pUn rb f (d + 1) (z :: r7)).bind _ = _ from h2)
            cases h4
            obtain ⟨g4, c4⟩ := (hu _ g3).1 _ _ h3
            exact ⟨g4, fun w hp => unary_cast hp hd' h5 hc.1 hk ct hy hy4 c4⟩
        · intro p er h w hp
          rw [e] at h
          rcases bind_bad h with h1 | ⟨y, r1, h1, h2⟩
          · exact unary_cast_typed hp hd' h5 hc.1 hk (t2 _ _ h1)
          · obtain ⟨g2, hy4, ct⟩ := t1 _ _ h1
            obtain ⟨u, r6, rfl⟩ := g2.ne
            cases hy : Pa.sees (u :: r6) [[41]] with
            | false =>
              rw [want_bad hy] at h2
              cases h2
              exact unary_cast_open hp hd' h5 hc.1 hk ct hy
            | true =>
              obtain ⟨z, r7, rfl, g3⟩ := g2.sees (by decide) hy
              rw [want_ok hy] at h2
              rcases bind_bad (show (pUn rb f (d + 1) (z :: r7)).bind _ = _ from h2) with h3 | ⟨x, r8, h3, h4⟩
              · exact unary_cast_bad hp hd' h5 hc.1 hk ct hy hy4 ((hu _ g3).2 _ _ h3)
              · cases h4
      · have e : pUn rb (f + 1) d (t :: l) = pPost rb f (d + 1) (t :: l) := by
          rw [pUn, if_neg hd, if_neg (by rw [h5]; decide), if_neg hc]
        obtain ⟨b1, b2⟩ := hp' _ hg
        rw [e]
        cases hx : Pa.sees (t :: l) [[40]] with
        | false => exact ⟨fun a r h => ⟨(b1 _ _ h).1, fun w hp => unary_post hp hd' h5 hx (b1 _ _ h).2⟩, fun p er h w hp => unary_post_bad hp hd' h5 hx (b2 _ _ h)⟩
        | true =>
          obtain ⟨v, r, rfl, g1⟩ := hg.sees (by decide) hx
          have hk : v.kind ≠ 5 := fun hk => hc (by rw [hx]; exact decide_eq_true hk)
          exact ⟨fun a r h => ⟨(b1 _ _ h).1, fun w hp => unary_open hp hd' h5 hx hk (b1 _ _ h).2⟩, fun p er h w hp => unary_open_bad hp hd' h5 hx hk (b2 _ _ h)⟩
/-- the same for lists -/
def ConK (N G : Nat) (Rl : Bs → Prop) (f : FuncId) (args : Array Value) (d : Nat) (ts : List Tok) (x : R (List Ex)) : Prop :=
  (∀ a r, x = .ok a r → Good Rl r ∧ ∀ w, PAt N w G ts d → Calls Tryz.prog f args w (KsOk N G d a r w)) ∧ ∀ p er, x = .bad p er → ∀ w, PAt N w G ts d → Calls Tryz.prog f args w (BadPost G (p : Int) (er : Int) w)
/-- what real.Parse answers of a real's text -/
def Reals (N G : Nat) (Rl : Bs → Prop) (rb : Bs → Nat) : Prop := ∀ (s : Bs), Rl s → ∀ w ts d, PAt N w G ts d → Calls Tryz.prog 190 #[.string ⟨s.toArray⟩] w (OkPost N G d (.tuple #[.int .u64 (rb s : Int), .int .i64 0]) ts w)
theorem atom_step {G d f : Nat} {ts : List Tok} (hg : Good Rl ts) (hr : Reals N G Rl rb)
    (ha : ∀ ts, Good Rl ts → ConK N G Rl 247 #[ptr G] d ts (pArgs rb f d ts))
    (hx : ∀ ts, Good Rl ts → Con N G Rl 96 #[ptr G] d ts (pExpr rb f d ts)) :
    Con N G Rl 218 #[ptr G] d ts (pAtom rb (f + 1) d ts) := by
  obtain ⟨t, l, rfl⟩ := hg.ne
  by_cases h2 : t.kind = 2
  · obtain ⟨u, r, rfl, g1⟩ := hg.tail (.inl (by omega))
    have e : pAtom rb (f + 1) d (t :: u :: r) = .ok (.mk 1 [] [] (val t.text) 0 [] 0 t.place) (u :: r) := by rw [pAtom, if_pos (show (Pa.hd (t :: u :: r)).kind = 2 from h2)]; rfl
    rw [e]
    refine ⟨fun a r' h => ?_, fun p er h => (by cases h)⟩
    cases h
    exact ⟨g1, fun w hp => (atom_int hp h2 (hg.2.2.1 h2).1 (hg.2.2.1 h2).2 hg.2.1).mono fun e w' hq => ⟨_, hq.1, .mk 1 [] [] (val t.text) 0 [] 0 t.place _ .nil, hq.2⟩⟩
  by_cases h3 : t.kind = 3
  · obtain ⟨u, r, rfl, g1⟩ := hg.tail (.inl (by omega))
    have e : pAtom rb (f + 1) d (t :: u :: r) = .ok (.mk 2 [] [] 0 (rb t.text) [] 0 t.place) (u :: r) := by rw [pAtom, if_neg (show ¬ (Pa.hd (t :: u :: r)).kind = 2 from h2), if_pos (show (Pa.hd (t :: u :: r)).kind = 3 from h3)]; rfl
    rw [e]
    refine ⟨fun a r' h => ?_, fun p er h => (by cases h)⟩
    cases h
    exact ⟨g1, fun w hp => (atom_real hp h3 (fun W hW => hr _ (hg.2.2.2.1 h3) _ _ _ hW)).mono fun e w' hq => ⟨_, hq.1, .mk 2 [] [] 0 (rb t.text) [] 0 t.place _ .nil, hq.2⟩⟩
  by_cases h1 : t.kind = 1
  · obtain ⟨u, r, rfl, g1⟩ := hg.tail (.inl (by omega))
    have e : pAtom rb (f + 1) d (t :: u :: r) = if Pa.sees (u :: r) [[40]] then (pArgs rb f d r).bind fun ks r => .ok (.mk 7 [] t.text 0 0 ks 0 t.place) r else .ok (.mk 3 [] t.text 0 0 [] 0 t.place) (u :: r) := by
      rw [pAtom, if_neg (show ¬ (Pa.hd (t :: u :: r)).kind = 2 from h2), if_neg (show ¬ (Pa.hd (t :: u :: r)).kind = 3 from h3), if_pos (show (Pa.hd (t :: u :: r)).kind = 1 from h1)]; rfl
    cases hs : Pa.sees (u :: r) [[40]] with
    | false =>
      rw [e, if_neg (by rw [hs]; decide)]
      refine ⟨fun a r' h => ?_, fun p er h => (by cases h)⟩
      cases h
      exact ⟨g1, fun w hp => (atom_name hp h1 hs).mono fun e w' hq => ⟨_, hq.1, .mk 3 [] t.text 0 0 [] 0 t.place _ .nil, hq.2⟩⟩
    | true =>
      rw [e, if_pos hs]
      obtain ⟨v, r1, rfl, g2⟩ := g1.sees (by decide) hs
      obtain ⟨a1, a2⟩ := ha _ g2
      constructor
      · intro a r' h
        obtain ⟨ks, r2, h3', h4⟩ := bind_ok h
        cases h4
        exact ⟨(a1 _ _ h3').1, fun w hp => atom_call hp h1 hs (a1 _ _ h3').2⟩
      · intro p er h w hp
        rcases bind_bad h with h3' | ⟨ks, r2, h3', h4⟩
        · exact atom_call_bad hp h1 hs (a2 _ _ h3')
        · cases h4
  · have e : pAtom rb (f + 1) d (t :: l) = (Pa.want (t :: l) [[40]]).bind fun _ r => (pExpr rb f d r).bind fun x r2 => (Pa.want r2 [[41]]).bind fun _ r3 => .ok x r3 := by
      rw [pAtom, if_neg (show ¬ (Pa.hd (t :: l)).kind = 2 from h2), if_neg (show ¬ (Pa.hd (t :: l)).kind = 3 from h3), if_neg (show ¬ (Pa.hd (t :: l)).kind = 1 from h1)]
    cases hs : Pa.sees (t :: l) [[40]] with
    | false =>
      rw [e, want_bad hs]
      refine ⟨fun a r' h => (by cases h), fun p er h w hp => ?_⟩
      cases h
      exact atom_no hp h2 h3 h1 hs
    | true =>
      rw [e, want_ok hs]
      obtain ⟨u, r, rfl, g1⟩ := hg.sees (by decide) hs
      obtain ⟨x1, x2⟩ := hx _ g1
      constructor
      · intro a r' h
        obtain ⟨x, r1, h3', h4⟩ := bind_ok (show (pExpr rb f d (u :: r)).bind _ = _ from h)
        obtain ⟨g2, c2⟩ := x1 _ _ h3'
        obtain ⟨v, r2, rfl⟩ := g2.ne
        cases hy : Pa.sees (v :: r2) [[41]] with
        | false => rw [want_bad hy] at h4; cases h4
        | true =>
          obtain ⟨y, r3, rfl, g3⟩ := g2.sees (by decide) hy
          rw [want_ok hy] at h4
          cases h4
          exact ⟨g3, fun w hp => atom_paren hp h2 h3 h1 hs c2 hy⟩
      · intro p er h w hp
        rcases bind_bad (show (pExpr rb f d (u :: r)).bind _ = _ from h) with h3' | ⟨x, r1, h3', h4⟩
        · exact atom_paren_bad hp h2 h3 h1 hs (x2 _ _ h3')
        · obtain ⟨g2, c2⟩ := x1 _ _ h3'
          obtain ⟨v, r2, rfl⟩ := g2.ne
          cases hy : Pa.sees (v :: r2) [[41]] with
          | false =>
            rw [want_bad hy] at h4
            cases h4
            exact atom_open hp h2 h3 h1 hs c2 hy
          | true => rw [want_ok hy] at h4; cases h4
end PaC
end Go.Proofs.YtnlbhnmiekanfaaGreatDoor
/-
  The parser's arguments. Condition: what the parser holds lies in memory.
-/
namespace Go.Proofs.YtnlbhnmiekanfaaGreatDoor
open Go.RowKit
set_option linter.unusedVariables false
set_option linter.unusedSimpArgs false
namespace PaC
open Pa Lx
attribute [local go_sem] fld0 fld1 fld2
variable {N : Nat} {Rl : Bs → Prop} {rb : Bs → Nat}
/-- what list is given for a call's arguments -/
abbrev argsV (G : Nat) : Array Value := #[ptr G, .func (.func 96) #[ptr G] #[], .int .i64 8, .string ⟨#[41]⟩]
set_option maxRecDepth 100000 in
set_option maxHeartbeats 4000000 in
theorem args_nil {w : World} {G d : Nat} {t u : Tok} {r : List Tok} (h : PAt N w G (t :: u :: r) d) (hx : Pa.sees (t :: u :: r) [[41]] = true) :
    Calls Tryz.prog 247 #[ptr G] w (KsOk N G d [] (u :: r) w) := by
  have ct : Calls Tryz.prog 92 #[ptr G, sl1 w] (one w #[41]) (OkPost N G d (.bool true) (u :: r) w) := takes1_yes [41] h hx
  clear h hx
  go_enter Tryz.func247, Tryz.ntmps247
  go_wp2_with ((with_reducible refine ct.mono ?_); rintro e w1 ⟨rfl, hp1, hk1⟩; have HP1 := Lib.hid hp1; have HK1 := Lib.hid hk1; clear hp1 hk1 ct)
  go_ret
  exact ⟨_, rfl, .nil, HP1.out, HK1.out⟩
set_option maxRecDepth 100000 in
set_option maxHeartbeats 4000000 in
theorem args_bad {w : World} {G d p er : Nat} {t : Tok} {r : List Tok} (h : PAt N w G (t :: r) d) (hx : Pa.sees (t :: r) [[41]] = false)
    (cl : ∀ W, PAt N W G (t :: r) d → Calls Tryz.prog 142 (argsV G) W (BadPost G (p : Int) (er : Int) W)) :
    Calls Tryz.prog 247 #[ptr G] w (BadPost G (p : Int) (er : Int) w) := by
  have ct : Calls Tryz.prog 92 #[ptr G, sl1 w] (one w #[41]) (OkPost N G d (.bool false) (t :: r) w) := takes1_no [41] h hx
  clear h hx
  go_enter Tryz.func247, Tryz.ntmps247
  go_wp2_with (first
    | ((with_reducible refine ct.mono ?_); rintro e w1 ⟨rfl, hp1, hk1⟩; have HP1 := Lib.hid hp1; have HK1 := Lib.hid hk1; clear hp1 hk1 ct)
    | ((with_reducible refine (cl _ HP1.out).mono ?_); rintro e w2 ⟨rfl, hp2, hk2⟩; have HP2 := Lib.hid hp2; have HK2 := Lib.hid hk2; clear hp2 hk2 cl))
  exact ⟨rfl, rfl, HP2.out, HK1.out.trans HK2.out⟩
set_option maxRecDepth 100000 in
set_option maxHeartbeats 4000000 in
theorem args_some {w : World} {G d : Nat} {t : Tok} {r r2 : List Tok} {ks : List Ex} (h : PAt N w G (t :: r) d) (hx : Pa.sees (t :: r) [[41]] = false)
    (cl : ∀ W, PAt N W G (t :: r) d → Calls Tryz.prog 142 (argsV G) W (KsOk N G d ks r2 W)) :
    Calls Tryz.prog 247 #[ptr G] w (KsOk N G d ks r2 w) := by
  have ct : Calls Tryz.prog 92 #[ptr G, sl1 w] (one w #[41]) (OkPost N G d (.bool false) (t :: r) w) := takes1_no [41] h hx
  have hG := h.base
  clear h hx
  go_enter Tryz.func247, Tryz.ntmps247
  go_wp2_with (first
    | ((with_reducible refine ct.mono ?_); rintro e w1 ⟨rfl, hp1, hk1⟩; have HP1 := Lib.hid hp1; have HK1 := Lib.hid hk1; clear hp1 hk1 ct)
    | ((with_reducible refine (cl _ HP1.out).mono ?_); rintro e w2 ⟨v, rfl, hks, hp2, hk2⟩; have HX := Lib.hid hks; have HP2 := Lib.hid hp2; have HK2 := Lib.hid hk2; clear hp2 hk2 cl hks))
  go_ret
  have hs := HK1.out.size
  exact ⟨v, rfl, HX.out.mono (Same.of (Keep.refl G w2) (by omega)) (New.le hs), HP2.out, HK1.out.trans HK2.out⟩
theorem args_step {G d f : Nat} {ts : List Tok} (hg : Good Rl ts)
    (hl : ∀ ts, Good Rl ts → ConK N G Rl 142 (argsV G) d ts (pList rb f 8 [41] d ts)) :
    ConK N G Rl 247 #[ptr G] d ts (pArgs rb (f + 1) d ts) := by
  obtain ⟨t, l, rfl⟩ := hg.ne
  cases hx : Pa.sees (t :: l) [[41]] with
  | true =>
    obtain ⟨u, r, rfl, g1⟩ := hg.sees (by decide) hx
    have e : pArgs rb (f + 1) d (t :: u :: r) = .ok [] (u :: r) := by rw [pArgs, if_pos hx]; rfl
    rw [e]
    refine ⟨fun a r' h => ?_, fun p er h => (by cases h)⟩
    cases h
    exact ⟨g1, fun w hp => args_nil hp hx⟩
  | false =>
    have e : pArgs rb (f + 1) d (t :: l) = pList rb f 8 [41] d (t :: l) := by rw [pArgs, if_neg (by rw [hx]; decide)]
    obtain ⟨l1, l2⟩ := hl _ hg
    rw [e]
    exact ⟨fun a r h => ⟨(l1 _ _ h).1, fun w hp => args_some hp hx (l1 _ _ h).2⟩, fun p er h w hp => args_bad hp hx (l2 _ _ h)⟩
end PaC
end Go.Proofs.YtnlbhnmiekanfaaGreatDoor
/-
  The parser's strongest operands: what binary answers behind the last level. Condition: what the parser holds lies in memory.
-/
namespace Go.Proofs.YtnlbhnmiekanfaaGreatDoor
open Go.RowKit
set_option linter.unusedVariables false
set_option linter.unusedSimpArgs false
namespace PaC
open Pa Lx
attribute [local go_sem] fld0 fld1 fld2
variable {N : Nat} {Rl : Bs → Prop} {rb : Bs → Nat}
/-- the cell of the levels -/
theorem PAt.lev {w : World} {G d : Nat} {ts : List Tok} (h : PAt N w G ts d) : ∃ L, w.cell? ⟨G, 1, none⟩ = some (.slice (some ⟨L, 0, none⟩) 10 10) := by
  obtain ⟨g, o, c, L, h1, -⟩ := h
  exact ⟨L, Lib.cell_of_heap h1 1⟩
set_option maxRecDepth 100000 in
set_option maxHeartbeats 4000000 in
theorem binary_ten_bad {w : World} {G d p er : Nat} {ts : List Tok} (h : PAt N w G ts d)
    (cu : ∀ W, PAt N W G ts d → Calls Tryz.prog 171 #[ptr G] W (BadPost G (p : Int) (er : Int) W)) :
    Calls Tryz.prog 139 #[ptr G, .int .i64 10] w (BadPost G (p : Int) (er : Int) w) := by
  have HP0 := Lib.hid (h.below ((Below.refl _ _).alloc (Nat.le_refl _) (.cells z8 TE)))
  obtain ⟨L, hL⟩ := HP0.out.lev
  clear h
  go_enter Tryz.func139, Tryz.ntmps139
  go_wp2_with ((with_reducible refine (cu _ HP0.out).mono ?_); rintro e w1 ⟨rfl, hp, hk⟩; have HW := Lib.hid hp; have HK1 := Lib.hid hk; clear hp hk)
  exact ⟨rfl, rfl, HW.out, HK1.out.first⟩
theorem fin_bin {Q : Ending → World → Prop} (k n b t p : Int) (op nm : ByteArray) (kv : Value) {tmps : Array Value} {B : Nat} {w : World} (old : Array Value)
    (hp : tmps.getD 4 undef = .pointer (some ⟨B, 0, none⟩)) (hg : w.heap[B]? = some (.cells old TE (0, 0))) (hQ : Q (.returned (.agg (ex8 k op nm n b kv t p))) (w.setRow B (ex8 k op nm n b kv t p))) :
    bodyPost Tryz.prog Tryz.f139 Q .ret { tmps := tmps, defers := [] } (w.setRow B (ex8 k op nm n b kv t p)) :=
  bodyPost_ret (v := .agg (ex8 k op nm n b kv t p)) (results_cell_row Tryz.results139 tmps _ B TE (ex8 k op nm n b kv t p) (0, 0) _ hp (setRow_heap _ _ _ _ _ _ hg) Tryz.underlying41 rfl (size8 k n b t p op nm kv)) rfl hQ
set_option maxRecDepth 100000 in
set_option maxHeartbeats 4000000 in
theorem binary_ten {w : World} {G d : Nat} {ts r2 : List Tok} {x : Ex} (h : PAt N w G ts d)
    (cu : ∀ W, PAt N W G ts d → Calls Tryz.prog 171 #[ptr G] W (ExOk N G d x r2 W)) :
    Calls Tryz.prog 139 #[ptr G, .int .i64 10] w (ExOk N G d x r2 w) := by
  have hlt := h.base
  have HP0 := Lib.hid (h.below ((Below.refl _ _).alloc (Nat.le_refl _) (.cells z8 TE)))
  have HZ := Lib.hid (heap_alloc_new w (.cells z8 TE))
  obtain ⟨L, hL⟩ := HP0.out.lev
  clear h
  go_enter Tryz.func139, Tryz.ntmps139
  go_wp2_with (first
    | ((with_reducible refine (cu _ HP0.out).mono ?_); rintro e w1 ⟨c, rfl, hex, hp, hk⟩; obtain ⟨k1, op1, nm1, n1, b1, t1, p1, a1, l1, q1, e1, z1, -⟩ := hex.eight; rw [e1]; have HP1 := Lib.hid hp; have HK1 := Lib.hid hk; have hz1 := rowK HZ.out hlt hk; have HX := Lib.hid hex; have HE := Lib.hid e1; clear hp hk hex e1)
    | ((with_reducible refine store8 rfl (.tmp 4) (.tmp 15) rfl w.heap.size k1 n1 b1 t1 p1 ⟨op1.toArray⟩ ⟨nm1.toArray⟩ a1 l1 q1 ?xa ?xb z8 rfl hz1 ?_); (case xa => simp [go_sem]); (case xb => simp [go_sem])))
  refine fin_bin _ _ _ _ _ _ _ _ _ (by simp) hz1 ⟨c, by rw [HE.out], ?_, HP1.out.row (by omega) _, HK1.out.first.row (Nat.le_refl _) _⟩
  exact HX.out.mono (Same.row (G := G) (Keep.refl G w1) (by simp; omega) (by simp) _) (New.le (by simp))
theorem ten_step {G d f : Nat} {ts : List Tok} (hu : Con N G Rl 171 #[ptr G] d ts (pUn rb f d ts)) : Con N G Rl 139 #[ptr G, .int .i64 10] d ts (pBin rb (f + 1) 10 d ts) := by
  have e : pBin rb (f + 1) 10 d ts = pUn rb f d ts := by rw [pBin, if_pos rfl]
  rw [e]
  exact ⟨fun a r h => ⟨(hu.1 _ _ h).1, fun w hp => binary_ten hp (hu.1 _ _ h).2⟩, fun p er h w hp => binary_ten_bad hp (hu.2 _ _ h)⟩
end PaC
end Go.Proofs.YtnlbhnmiekanfaaGreatDoor
/-
  The parser's small calls for any tokens, as the model says; two signs, three, four. Condition: what the parser holds lies in memory.
-/
namespace Go.Proofs.YtnlbhnmiekanfaaGreatDoor
open Go.RowKit
set_option linter.unusedVariables false
set_option linter.unusedSimpArgs false
namespace PaC
open Pa Lx
attribute [local go_sem] fld0 fld1 fld2
variable {N : Nat} {Rl : Bs → Prop} {rb : Bs → Nat}
/-- what is answered, or what is thrown, as the model says -/
def RPost {α : Type} (Ok : α → List Tok → World → Ending → World → Prop) (G : Nat) (X : R α) (w : World) (e : Ending) (w' : World) : Prop :=
  match X with
  | .ok a r => Ok a r w e w'
  | .bad p er => BadPost G (p : Int) (er : Int) w e w'
  | .out => False
/-- a call answers as the model says -/
def ConW {α : Type} (Ok : α → List Tok → World → Ending → World → Prop) (N G : Nat) (Rl : Bs → Prop) (f : FuncId) (args : Array Value) (d : Nat) (ts : List Tok) (x : R α) : Prop :=
  (∀ a r, x = .ok a r → Good Rl r) ∧ (x ≠ .out → ∀ w, PAt N w G ts d → Calls Tryz.prog f args w (RPost Ok G x w))
theorem Con.w {G d : Nat} {f : FuncId} {args : Array Value} {ts : List Tok} {x : R Ex} (h : Con N G Rl f args d ts x) : ConW (ExOk N G d) N G Rl f args d ts x := by
  refine ⟨fun a r e => (h.1 a r e).1, fun hx w hp => ?_⟩
  cases x with
  | ok a r => exact (h.1 a r rfl).2 w hp
  | bad p er => exact h.2 p er rfl w hp
  | out => exact absurd rfl hx
theorem ConW.c {G d : Nat} {f : FuncId} {args : Array Value} {ts : List Tok} {x : R Ex} (h : ConW (ExOk N G d) N G Rl f args d ts x) : Con N G Rl f args d ts x :=
  ⟨fun a r e => ⟨h.1 a r e, fun w hp => by have := h.2 (by rw [e]; exact fun h => by cases h) w hp; rw [e] at this; exact this⟩, fun p er e w hp => by have := h.2 (by rw [e]; exact fun h => by cases h) w hp; rw [e] at this; exact this⟩
theorem ConK.w {G d : Nat} {f : FuncId} {args : Array Value} {ts : List Tok} {x : R (List Ex)} (h : ConK N G Rl f args d ts x) : ConW (KsOk N G d) N G Rl f args d ts x := by
  refine ⟨fun a r e => (h.1 a r e).1, fun hx w hp => ?_⟩
  cases x with
  | ok a r => exact (h.1 a r rfl).2 w hp
  | bad p er => exact h.2 p er rfl w hp
  | out => exact absurd rfl hx
theorem ConW.k {G d : Nat} {f : FuncId} {args : Array Value} {ts : List Tok} {x : R (List Ex)} (h : ConW (KsOk N G d) N G Rl f args d ts x) : ConK N G Rl f args d ts x :=
  ⟨fun a r e => ⟨h.1 a r e, fun w hp => by have := h.2 (by rw [e]; exact fun h => by cases h) w hp; rw [e] at this; exact this⟩, fun p er e w hp => by have := h.2 (by rw [e]; exact fun h => by cases h) w hp; rw [e] at this; exact this⟩
/-- what is left behind one of the signs, if it is there -/
def behindIf (ts : List Tok) (b : Bool) : List Tok := if b then ts.tail else ts
theorem good_sees {ts : List Tok} (hg : Good Rl ts) {signs : List Bs} (hs : [] ∉ signs) (hx : Pa.sees ts signs = true) : ∃ t u r, ts = t :: u :: r ∧ Good Rl (u :: r) := by
  obtain ⟨t, l, rfl⟩ := hg.ne
  obtain ⟨u, r, rfl, h⟩ := hg.sees hs hx
  exact ⟨t, u, r, rfl, h⟩
theorem good_behind {ts : List Tok} (hg : Good Rl ts) {signs : List Bs} (hs : [] ∉ signs) {b : Bool} (hb : Pa.sees ts signs = b) : Good Rl (behindIf ts b) := by
  cases b with
  | false => exact hg
  | true => obtain ⟨t, u, r, rfl, h⟩ := good_sees hg hs hb; exact h
/-- strings of a literal in memory -/
abbrev strs (l : List Bs) : Array Value := (l.map fun x => Value.string ⟨x.toArray⟩).toArray
theorem signs_of {w : World} {B : Nat} {l : List Bs} (h : w.heap[B]? = some (.cells (strs l) 9 (0, 0))) : SignsAt w B l := fun j x hj => by
  refine (Lib.cell_of_heap h j).trans ?_
  rw [List.getElem?_toArray, List.getElem?_map, hj]
  rfl
abbrev lit (w : World) (l : List Bs) : World := w.alloc (.cells (strs l) 9)
abbrev slN (w : World) (n : Nat) : Value := .slice (some ⟨w.heap.size, 0, none⟩) n n
theorem Keep.lit {w w' : World} {G : Nat} {l : List Bs} (h : Keep G (lit w l) w') : Keep G w w' := (Keep.of ((Below.refl _ _).alloc (Nat.le_refl _) _)).trans h
theorem seesL {w : World} {G d : Nat} {ts : List Tok} (l : List Bs) (n : Nat) (hn : l.length = n) (h8 : n ≤ 8) (hg : Good Rl ts) (h : PAt N w G ts d) :
    Calls Tryz.prog 134 #[ptr G, slN w n] (lit w l) (OkPost N G d (.bool (Pa.sees ts l)) ts w) := by
  obtain ⟨t, r, rfl⟩ := hg.ne
  have hb := (Below.refl w.heap.size w).alloc (Nat.le_refl _) (.cells (strs l) 9)
  exact (sees_ (c := n) (n := n) (h.below hb) (signs_of (heap_alloc_new w _)) hn (by omega) (by simp)).mono fun e w' hq => ⟨hq.1, (h.below hb).below hq.2, (Keep.of hb).trans (Keep.of hq.2)⟩
theorem takesL {w : World} {G d : Nat} {ts : List Tok} {b : Bool} (l : List Bs) (n : Nat) (hn : l.length = n) (h8 : n ≤ 8) (hs : [] ∉ l) (hg : Good Rl ts) (hb : Pa.sees ts l = b) (h : PAt N w G ts d) :
    Calls Tryz.prog 92 #[ptr G, slN w n] (lit w l) (OkPost N G d (.bool b) (behindIf ts b) w) := by
  have hbl := (Below.refl w.heap.size w).alloc (Nat.le_refl _) (.cells (strs l) 9)
  cases b with
  | true =>
    obtain ⟨t, u, r, rfl, h2⟩ := good_sees hg hs hb
    exact (takes_yes (c := n) (n := n) (h.below hbl) (signs_of (heap_alloc_new w _)) hn (by omega) (by simp) hb).mono fun e w' hq => ⟨hq.1, hq.2.1, hq.2.2.lit⟩
  | false =>
    obtain ⟨t, r, rfl⟩ := hg.ne
    exact (takes_no (c := n) (n := n) (h.below hbl) (signs_of (heap_alloc_new w _)) hn (by omega) (by simp) hb).mono fun e w' hq => ⟨hq.1, hq.2.1, hq.2.2.lit⟩
/-- a text, and the tokens behind it -/
abbrev StrOk (N G d : Nat) (s : Bs) (r : List Tok) : World → Ending → World → Prop := OkPost N G d (.string ⟨s.toArray⟩) r
abbrev IntOk (N G d : Nat) (n : Nat) (r : List Tok) : World → Ending → World → Prop := OkPost N G d (.int .i64 (n : Int)) r
theorem wantL {w : World} {G d : Nat} {ts : List Tok} (l : List Bs) (n : Nat) (hn : l.length = n) (h8 : n ≤ 8) (hs : [] ∉ l) (hg : Good Rl ts) (h : PAt N w G ts d) :
    Calls Tryz.prog 95 #[ptr G, slN w n] (lit w l) (RPost (StrOk N G d) G (Pa.want ts l) w) := by
  have hbl := (Below.refl w.heap.size w).alloc (Nat.le_refl _) (.cells (strs l) 9)
  cases hx : Pa.sees ts l with
  | true =>
    rw [want_ok hx]
    obtain ⟨t, u, r, rfl, h2⟩ := good_sees hg hs hx
    exact (want_yes (c := n) (n := n) (h.below hbl) (signs_of (heap_alloc_new w _)) hn (by omega) (by simp) hx).mono fun e w' hq => ⟨hq.1, hq.2.1, hq.2.2.lit⟩
  | false =>
    rw [want_bad hx]
    obtain ⟨t, r, rfl⟩ := hg.ne
    exact (want_no (c := n) (n := n) (h.below hbl) (signs_of (heap_alloc_new w _)) hn (by omega) (by simp) hx).mono fun e w' hq => ⟨hq.1, hq.2.1, hq.2.2.lit⟩
theorem good_want {ts r : List Tok} {s : Bs} {l : List Bs} (hg : Good Rl ts) (hs : [] ∉ l) (h : Pa.want ts l = .ok s r) : Good Rl r ∧ s ∈ l := by
  cases hx : Pa.sees ts l with
  | false => rw [want_bad hx] at h; cases h
  | true =>
    rw [want_ok hx] at h
    obtain ⟨t, u, r, rfl, h2⟩ := good_sees hg hs hx
    cases h
    exact ⟨h2, List.contains_iff_mem.1 hx⟩
theorem nameL {w : World} {G d : Nat} {ts : List Tok} (hg : Good Rl ts) (h : PAt N w G ts d) :
    Calls Tryz.prog 94 #[ptr G] w (RPost (StrOk N G d) G (pName ts) w) := by
  obtain ⟨t, l, rfl⟩ := hg.ne
  by_cases hk : t.kind = 1
  · obtain ⟨u, r, rfl, h2⟩ := hg.tail (.inl (by omega))
    have e : pName (t :: u :: r) = .ok t.text (u :: r) := by rw [pName, if_pos (show (Pa.hd (t :: u :: r)).kind = 1 from hk)]; rfl
    rw [e]
    exact name_yes h hk
  · have e : pName (t :: l) = .bad t.place 11 := by rw [pName, if_neg (show ¬ (Pa.hd (t :: l)).kind = 1 from hk)]; rfl
    rw [e]
    exact name_no h hk
theorem good_name {ts r : List Tok} {s : Bs} (hg : Good Rl ts) (h : pName ts = .ok s r) : Good Rl r := by
  obtain ⟨t, l, rfl⟩ := hg.ne
  by_cases hk : t.kind = 1
  · obtain ⟨u, r, rfl, h2⟩ := hg.tail (.inl (by omega))
    rw [pName, if_pos (show (Pa.hd (t :: u :: r)).kind = 1 from hk)] at h
    cases h; exact h2
  · rw [pName, if_neg (show ¬ (Pa.hd (t :: l)).kind = 1 from hk)] at h; cases h
theorem typedL {w : World} {G d : Nat} {ts : List Tok} (hg : Good Rl ts) (h : PAt N w G ts d) :
    Calls Tryz.prog 93 #[ptr G] w (RPost (IntOk N G d) G (pType ts) w) := by
  have c := (typed_ h hg).1
  cases hx : pType ts with
  | ok a r => rw [hx] at c; exact c
  | bad p er => rw [hx] at c; exact c
  | out =>
    exfalso
    rw [pType] at hx
    cases h1 : Pa.sees ts types with
    | false => rw [want_bad h1] at hx; cases hx
    | true =>
      rw [want_ok h1] at hx
      simp only [R.bind] at hx
      unfold Pa.pointer at hx
      repeat' split at hx
      all_goals cases hx
theorem lengthL {w : World} {G d : Nat} {ts : List Tok} (hg : Good Rl ts) (h : PAt N w G ts d) :
    Calls Tryz.prog 97 #[ptr G] w (RPost (IntOk N G d) G (pLength ts) w) := by
  have c := (length_ h hg).1
  cases hx : pLength ts with
  | ok a r => rw [hx] at c; exact c
  | bad p er => rw [hx] at c; exact c
  | out =>
    exfalso
    unfold pLength Pa.want at hx
    repeat' split at hx
    all_goals cases hx
theorem nextL {w : World} {G d : Nat} {ts : List Tok} (hg : Good Rl ts) (h : PAt N w G ts d) :
    Calls Tryz.prog 64 #[ptr G] w (OkPost N G d (tokV (Pa.hd ts)) ts w) := by
  obtain ⟨t, l, rfl⟩ := hg.ne
  exact next2 h
theorem readL {w : World} {G d : Nat} {ts : List Tok} (hg : Good Rl ts) (hk : (Pa.hd ts).kind ≠ 0 ∨ (Pa.hd ts).text ≠ []) (h : PAt N w G ts d) :
    Calls Tryz.prog 135 #[ptr G] w (OkPost N G d (tokV (Pa.hd ts)) ts.tail w) := by
  obtain ⟨t, l, rfl⟩ := hg.ne
  obtain ⟨u, r, rfl, h2⟩ := hg.tail hk
  exact read_ h
end PaC
end Go.Proofs.YtnlbhnmiekanfaaGreatDoor
/-
  The parser's indices: post. Condition: what the parser holds lies in memory.
-/
namespace Go.Proofs.YtnlbhnmiekanfaaGreatDoor
open Go.RowKit Go.Deep
set_option linter.unusedVariables false
set_option linter.unusedSimpArgs false
namespace PaC
open Pa Lx
attribute [local go_sem] fld0 fld1 fld2
variable {N : Nat} {Rl : Bs → Prop} {rb : Bs → Nat}
/-- what a loop over an expression keeps: it lies in block B, the result's own cells are empty -/
structure LeftI (N G d : Nat) (Rl : Bs → Prop) (w wr : World) (B : Nat) (x : Ex) (ts : List Tok) (c : List Value) : Prop where
  p : PAt N wr G ts d
  good : Good Rl ts
  keep : Keep G w wr
  res : wr.heap[w.heap.size]? = some (.cells z8 TE (0, 0))
  left : wr.heap[B]? = some (.cells c.toArray TE (0, 0))
  ex : ExAt (fun b => w.heap.size + 1 ≤ b ∧ b ≠ B) wr x c
  lt : w.heap.size < B
theorem LeftI.first {G d : Nat} {w w1 : World} {x : Ex} {ts : List Tok} {c : List Value} (hlt : N ≤ w.heap.size ∧ G < N) (hg : Good Rl ts) (hp : PAt N w1 G ts d) (hk : Keep G (w.alloc (.cells z8 TE)) w1) (hx : ExAt (New (w.heap.size + 1)) w1 x c) :
    LeftI N G d Rl w (w1.alloc (.cells c.toArray TE)) w1.heap.size x ts c := by
  have hs := hk.size
  rw [World.size_alloc] at hs
  have hb : Below w1.heap.size w1 (w1.alloc (.cells c.toArray TE)) := (Below.refl _ _).alloc (Nat.le_refl _) _
  refine ⟨hp.below hb, hg, (hk.first).trans (Keep.of hb), ?_, heap_alloc_new _ _, ?_, by omega⟩
  · rw [Lib.alloc_old _ _ _ (by omega)]
    exact rowK (heap_alloc_new w _) hlt hk
  · exact hx.lt.mono ⟨hb.size, fun b _ hlt => hb.block b hlt⟩ fun b hb => ⟨hb.1, by have := hb.2; omega⟩
theorem LeftI.next {G d B : Nat} {w wr w2 : World} {x : Ex} {ts ts2 : List Tok} {c : List Value} (hlt : N ≤ w.heap.size ∧ G < N) (h : LeftI N G d Rl w wr B x ts c) (hp : PAt N w2 G ts2 d) (hk : Keep G wr w2) (hg : Good Rl ts2) : LeftI N G d Rl w w2 B x ts2 c := by
  have hB := h.lt
  exact ⟨hp, hg, h.keep.trans hk, hk.at (by omega) h.res, hk.at (by omega) h.left, h.ex.mono ⟨hk.size, fun b hb hl => hk.block b hl (by have := hb.1; omega)⟩ fun b hb => hb, hB⟩


theorem LeftI.set {G d B : Nat} {w wr w2 : World} {x x2 : Ex} {ts : List Tok} {c c2 : List Value} (hlt : N ≤ w.heap.size ∧ G < N) (h : LeftI N G d Rl w wr B x ts c) (hb : Below wr.heap.size wr w2) (hx : ExAt (fun b => w.heap.size + 1 ≤ b ∧ b ≠ B) w2 x2 c2) : LeftI N G d Rl w (w2.setRow B c2.toArray) B x2 ts c2 := by
  have hB := h.lt
  have hl := (Array.getElem?_eq_some_iff.1 h.left).1
  refine ⟨(h.p.below hb).row (by omega) _, h.good, (h.keep.trans (Keep.of hb)).row (by omega) _, ?_, ?_, ?_, hB⟩
  · rw [setRow_other _ _ _ _ (by omega), hb.block _ (by omega)]; exact h.res
  · exact setRow_heap _ _ _ _ _ _ ((hb.block _ hl).trans h.left)
  · exact hx.mono ⟨by simp, fun b hb hl => setRow_other _ _ _ _ (fun e => hb.2 e)⟩ fun b hb => hb
/-- what is answered behind the loop -/
theorem LeftI.done {G d B : Nat} {w wr : World} {x : Ex} {ts : List Tok} {c : List Value} (hlt : N ≤ w.heap.size ∧ G < N) (h : LeftI N G d Rl w wr B x ts c) : ExOk N G d x ts w (.returned (.agg c.toArray)) (wr.setRow w.heap.size c.toArray) := by
  refine ⟨c, rfl, ?_, h.p.row (by omega) _, h.keep.row (Nat.le_refl _) _⟩
  exact h.ex.mono ⟨by simp, fun b hb hl => setRow_other _ _ _ _ (by have := hb.1; omega)⟩ fun b hb => by have := hb.1; show w.heap.size ≤ b; omega
theorem fin_post {Q : Ending → World → Prop} (k n b t p : Int) (op nm : ByteArray) (kv : Value) {tmps : Array Value} {B : Nat} {w : World} (old : Array Value)
    (hp : tmps.getD 2 undef = .pointer (some ⟨B, 0, none⟩)) (hg : w.heap[B]? = some (.cells old TE (0, 0))) (hQ : Q (.returned (.agg (ex8 k op nm n b kv t p))) (w.setRow B (ex8 k op nm n b kv t p))) :
    bodyPost Tryz.prog Tryz.f192 Q .ret { tmps := tmps, defers := [] } (w.setRow B (ex8 k op nm n b kv t p)) :=
  bodyPost_ret (v := .agg (ex8 k op nm n b kv t p)) (results_cell_row Tryz.results192 tmps _ B TE (ex8 k op nm n b kv t p) (0, 0) _ hp (setRow_heap _ _ _ _ _ _ hg) Tryz.underlying41 rfl (size8 k n b t p op nm kv)) rfl hQ
set_option maxRecDepth 100000 in
set_option maxHeartbeats 4000000 in
theorem post_bad {w : World} {G d p er : Nat} {ts : List Tok} (h : PAt N w G ts d) (ca : ∀ W, PAt N W G ts d → Calls Tryz.prog 218 #[ptr G] W (BadPost G (p : Int) (er : Int) W)) :
    Calls Tryz.prog 192 #[ptr G] w (BadPost G (p : Int) (er : Int) w) := by
  have HP0 := Lib.hid (h.below ((Below.refl _ _).alloc (Nat.le_refl _) (.cells z8 TE)))
  clear h
  go_enter Tryz.func192, Tryz.ntmps192
  go_wp2_with ((with_reducible refine (ca _ HP0.out).mono ?_); rintro e w1 ⟨rfl, hp, hk⟩; have HW := Lib.hid hp; have HK1 := Lib.hid hk; clear hp hk)
  exact ⟨rfl, rfl, HW.out, HK1.out.first⟩
set_option maxRecDepth 100000 in
set_option maxHeartbeats 16000000 in
theorem post_loop {w : World} {G d f : Nat} {ts r : List Tok} {x : Ex} {X : R Ex} (h : PAt N w G ts d) (hgr : Good Rl r)
    (ca : ∀ W, PAt N W G ts d → Calls Tryz.prog 218 #[ptr G] W (ExOk N G d x r W))
    (he : ∀ f', f' ≤ f → ∀ ts, Good Rl ts → Con N G Rl 96 #[ptr G] d ts (pExpr rb f' d ts))
    (hX : X ≠ .out) (hx : X = pIdx rb f d x r) : Calls Tryz.prog 192 #[ptr G] w (RPost (ExOk N G d) G X w) := by
  have hlt := h.base
  have HP0 := Lib.hid (h.below ((Below.refl _ _).alloc (Nat.le_refl _) (.cells z8 TE)))
  have HX := Lib.hid hx
  have HNX := Lib.hid hX
  have HG := Lib.hid hgr
  have HE := Lib.hid he
  clear h hx hX hgr he
  go_enter Tryz.func192, Tryz.ntmps192
  go_wp2_with (first
    | ((with_reducible refine (ca _ HP0.out).mono ?_); rintro e w1 ⟨c, rfl, hex, hp, hk⟩; obtain ⟨k1, op1, nm1, n1, b1, t1, p1, a1, l1, q1, e1, z1, -⟩ := hex.eight; rw [e1]; have HI := Lib.hid (LeftI.first hlt HG.out hp hk (by rw [World.size_alloc] at hex; exact hex)); rw [e1] at HI; clear hp hk hex ca))
  obtain ⟨B, hB⟩ : ∃ B, B = w1.heap.size := ⟨_, rfl⟩
  rw [← hB] at HI ⊢
  have HC := Lib.hid e1
  clear hB z1 e1 HP0 HG
  go_loopg [8] f (fun gg u8 wr => ∃ (x : Ex) (ts : List Tok) (c : List Value), gg ≤ f ∧ Aside (LeftI N G d Rl w wr B x ts c) ∧ Aside (X = pIdx rb gg d x ts))
  case atStart => exact ⟨x, r, c, Nat.le_refl _, HI.out, HX.out⟩
  case round =>
    obtain ⟨y, us, c, hgf, A1, A2⟩ := hrel
    obtain ⟨k2, op2, nm2, n2, b2, t2, p2, a2, l2, q2, e2, z2, -⟩ := A1.out.ex.eight
    have hres := A1.out.res
    have hBG : B ≠ G := by have := A1.out.lt; omega
    cases gk with
    | zero => exact absurd (A2.out.trans (by rw [pIdx])) HNX.out
    | succ g =>
    cases hs : Pa.sees us [[91]] with
    | false =>
      have A3 : Aside (X = .ok y us) := by show _ = _; rw [A2.out, pIdx, if_neg (by rw [hs]; decide)]
      have ct : Calls Tryz.prog 92 #[ptr G, sl1 wr] (one wr #[91]) (OkPost N G d (.bool false) us wr) := takesL [[91]] 1 rfl (by decide) (by decide) A1.out.good hs A1.out.p
      have HE2 := Lib.hid e2
      clear hs hres e2 z2
      go_wp2_with (first
        | ((with_reducible refine ct.mono ?_); rintro e w2 ⟨rfl, hp, hk⟩; have HI2 := Lib.hid (A1.out.next hlt hp hk A1.out.good); have hl2 := HI2.out.left; have hz2 := HI2.out.res; rw [HE2.out] at hl2; clear hp hk ct)
        | ((with_reducible refine load8 rfl (.tmp 3) rfl B k2 n2 b2 t2 p2 ⟨op2.toArray⟩ ⟨nm2.toArray⟩ (.slice a2 l2 q2) ?xc hl2 ?_); (case xc => simp [go_sem]))
        | ((with_reducible refine store8 rfl (.tmp 2) (.tmp 16) rfl w.heap.size k2 n2 b2 t2 p2 ⟨op2.toArray⟩ ⟨nm2.toArray⟩ a2 l2 q2 ?xa ?xb z8 rfl hz2 ?_); (case xa => simp [go_sem]); (case xb => simp [go_sem])))
      refine fin_post _ _ _ _ _ _ _ _ _ (by simp) hz2 ?_
      have hd := HI2.out.done hlt
      rw [HE2.out] at hd
      rw [A3.out]
      exact hd
    | true =>
      obtain ⟨t, u, v, rfl, hg2⟩ := good_sees A1.out.good (by decide) hs
      have ct : Calls Tryz.prog 92 #[ptr G, sl1 wr] (one wr #[91]) (OkPost N G d (.bool true) (u :: v) wr) := takesL [[91]] 1 rfl (by decide) (by decide) A1.out.good hs A1.out.p
      have A3 : X = (pExpr rb g d (u :: v)).bind fun y2 r => (Pa.want r [[93]]).bind fun _ r2 => pIdx rb g d (Pa.pair 8 [] y y2) r2 := by rw [A2.out, pIdx, if_pos hs]; rfl
      have HG2 := Lib.hid hg2
      obtain ⟨c1, c2⟩ := HE.out g (by omega) _ hg2
      cases hq : pExpr rb g d (u :: v) with
      | out => exact absurd (A3.trans (by rw [hq]; rfl)) HNX.out
      | bad p er =>
        have cx := c2 p er hq
        have A4 : X = .bad p er := A3.trans (by rw [hq]; rfl)
        clear c1 c2 hq A3 A2 HX HNX HE hg2
        subst A4
        have HE2 := Lib.hid e2
        clear hs hres e2 z2
        go_upto_region 3 with ((with_reducible refine ct.mono ?_); rintro e w6 ⟨rfl, hp, hk⟩; have HI6 := Lib.hid (A1.out.next hlt hp hk HG2.out); have hl6 := HI6.out.left; rw [HE2.out] at hl6; clear hp hk ct)
        obtain ⟨y0, y1, y2, y3, y4, y5, y6, y7⟩ := cells8 (show w6.drew.heap[B]? = some (.cells (ex8 k2 ⟨op2.toArray⟩ ⟨nm2.toArray⟩ n2 b2 (.slice a2 l2 q2) t2 p2) TE (0, 0)) from hl6)
        have hB6 : B < w6.heap.size := (Array.getElem?_eq_some_iff.1 hl6).1
        have hwB : w.heap.size < B := HI6.out.lt
        clear hl6
        have HP6 := Lib.hid (show PAt N w6.drew G (u :: v) d from HI6.out.p)
        refine wp_region_any (by kernel_rfl) ?_
        change wpAny _ _ _ _ _ _ _ (World.drew _)
        refine wpAny_take (i := 1) (v := ptr G) rfl (by kernel_rfl) (by kernel_rfl) (by kernel_rfl) (fun _ _ _ h => h) (Or.inl ⟨by rfl, by intro w; go_simp⟩) ?_
        refine wpAny_ready (rs := [0, 2]) (by kernel_rfl) (by simp) ?_
        refine AllReady.cons rfl (fun K hK => ?_) (AllReady.cons rfl (fun K hK => ?_) AllReady.nil)
        · go_simp
          refine hK _ _ ?_
          clear hK K
          refine wpAny_ready (rs := [2]) (by kernel_rfl) (by simp) ?_
          refine AllReady.cons rfl (fun K hK => ?_) AllReady.nil
          go_simp
          clear hK
          refine (cx _ HP6.out).mono ?_
          rintro e w7 ⟨rfl, hp, hk⟩
          exact ⟨rfl, rfl, hp, HI6.out.keep.trans ⟨hk.os, hk.tape, hk.output, hk.size, hk.block⟩⟩
        · go_simp
          clear hK
          refine (cx _ HP6.out).mono ?_
          rintro e w7 ⟨rfl, hp, hk⟩
          exact ⟨rfl, rfl, hp, HI6.out.keep.trans ⟨hk.os, hk.tape, hk.output, hk.size, hk.block⟩⟩
      | ok y2 r3 =>
        obtain ⟨hgr, cx⟩ := c1 y2 r3 hq
        have HGR := Lib.hid hgr
        have A5 : X = (Pa.want r3 [[93]]).bind fun _ r2 => pIdx rb g d (Pa.pair 8 [] y y2) r2 := A3.trans (by rw [hq]; rfl)
        cases hw : Pa.want r3 [[93]] with
        | out => exact absurd (A5.trans (by rw [hw]; rfl)) HNX.out
        | bad p er =>
          have cw : ∀ W, PAt N W G r3 d → Calls Tryz.prog 95 #[ptr G, sl1 W] (one W #[93]) (BadPost G (p : Int) (er : Int) W) := fun W hW => by have := wantL [[93]] 1 rfl (by decide) (by decide) hgr hW; rw [hw] at this; exact this
          have A4 : X = .bad p er := A5.trans (by rw [hw]; rfl)
          clear c1 c2 hq hw A5 A3 A2 HX HNX HE hg2 hgr
          subst A4
          have HE2 := Lib.hid e2
          clear hs hres e2 z2
          go_upto_region 3 with ((with_reducible refine ct.mono ?_); rintro e w6 ⟨rfl, hp, hk⟩; have HI6 := Lib.hid (A1.out.next hlt hp hk HG2.out); have hl6 := HI6.out.left; rw [HE2.out] at hl6; clear hp hk ct)
          obtain ⟨y0, y1, y2, y3, y4, y5, y6, y7⟩ := cells8 (show w6.drew.heap[B]? = some (.cells (ex8 k2 ⟨op2.toArray⟩ ⟨nm2.toArray⟩ n2 b2 (.slice a2 l2 q2) t2 p2) TE (0, 0)) from hl6)
          have hB6 : B < w6.heap.size := (Array.getElem?_eq_some_iff.1 hl6).1
          have hwB : w.heap.size < B := HI6.out.lt
          clear hl6
          have HP6 := Lib.hid (show PAt N w6.drew G (u :: v) d from HI6.out.p)
          refine wp_region_noPanic ?_
          refine wp_region_any (by kernel_rfl) ?_
          change wpAny _ _ _ _ _ _ _ (World.drew _)
          refine wpAny_take (i := 1) (v := ptr G) rfl (by kernel_rfl) (by kernel_rfl) (by kernel_rfl) (fun _ _ _ h => h) (Or.inl ⟨by rfl, by intro w; go_simp⟩) ?_
          refine wpAny_ready (rs := [0, 2]) (by kernel_rfl) (by simp) ?_
          refine AllReady.cons rfl (fun K hK => ?_) (AllReady.cons rfl (fun K hK => ?_) AllReady.nil)
          · go_simp
            refine hK _ _ ?_
            clear hK K y0 y1 y2 y3 y4 y5 y6 y7
            refine wpAny_ready (rs := [2]) (by kernel_rfl) (by simp) ?_
            refine AllReady.cons rfl (fun K hK => ?_) AllReady.nil
            go_simp
            refine (cx _ HP6.out).mono ?_
            rintro e w7 ⟨c2, rfl, hex2, hp, hk⟩
            have hs7 : w6.heap.size ≤ w7.heap.size := hk.size
            have HI7 := Lib.hid (HI6.out.next hlt hp (by exact ⟨hk.os, hk.tape, hk.output, hk.size, hk.block⟩) HGR.out)
            have HY := Lib.hid hex2
            clear hp hk hex2
            refine hK _ _ ?_
            clear hK K
            refine wpAny_ready (rs := [3]) (by kernel_rfl) (by simp) ?_
            refine AllReady.cons rfl (fun K hK => ?_) AllReady.nil
            go_simp
            have cp := pair_ 8 [] HI7.out.ex (HY.out.mono ⟨Nat.le_refl _, fun _ _ _ => rfl⟩ fun b hb => ⟨by have : w6.heap.size ≤ b := hb; omega, by have : w6.heap.size ≤ b := hb; omega⟩)
            rw [HE2.out] at cp
            refine cp.mono ?_
            rintro e w8 ⟨c3, rfl, hb8, hex3⟩
            refine hK _ _ ?_
            clear hK K cp
            obtain ⟨k3, op3, nm3, n3, b3, t3, p3, a3, l3, q3, e3, z3, -⟩ := hex3.eight
            have HI9 := Lib.hid (HI7.out.set hlt hb8 (hex3.mono ⟨Nat.le_refl _, fun _ _ _ => rfl⟩ fun b hb => hb.elim id fun hb => ⟨by have : w7.heap.size ≤ b := hb; omega, by have : w7.heap.size ≤ b := hb; omega⟩))
            have hl8 : w8.heap[B]? = some (.cells c.toArray TE (0, 0)) := (hb8.block _ (by omega)).trans HI7.out.left
            rw [HE2.out] at hl8
            rw [e3] at HI9 ⊢
            refine wpAny_ready (rs := [4]) (by kernel_rfl) (by simp) ?_
            refine AllReady.cons rfl (fun K hK => ?_) AllReady.nil
            rw [if_pos (by kernel_rfl)]
            refine wp_store_row TE (.tmp 3) (.tmp 12) rfl B (ex8 k3 ⟨op3.toArray⟩ ⟨nm3.toArray⟩ n3 b3 (.slice a3 l3 q3) t3 p3) (by rfl) (by rfl) TE (ex8 k2 ⟨op2.toArray⟩ ⟨nm2.toArray⟩ n2 b2 (.slice a2 l2 q2) t2 p2) hl8 (size8 _ _ _ _ _ _ _ _) rfl (one8 _ _ _ _ _ _ _ _ _ _) ?_
            refine hK _ _ ?_
            clear hK K hl8
            refine wpAny_done (by kernel_rfl) ?_ _
            refine NoPanic.normal ?_
            go_wp2_with (first
              | (have cw' := cw _ HI9.out.p; simp only [sl1, one, setRow_size] at cw'; (with_reducible refine cw'.mono ?_); rintro e w10 ⟨rfl, hp, hk⟩; have HW := Lib.hid hp; have HK10 := Lib.hid (HI9.out.keep.trans hk); clear hp hk))
            exact ⟨rfl, rfl, HW.out, HK10.out⟩
          · clear y0 y1 y2 y3 y4 y5 y6 y7
            go_simp
            refine (cx _ HP6.out).mono ?_
            rintro e w7 ⟨c2, rfl, hex2, hp, hk⟩
            have hs7 : w6.heap.size ≤ w7.heap.size := hk.size
            have HI7 := Lib.hid (HI6.out.next hlt hp (by exact ⟨hk.os, hk.tape, hk.output, hk.size, hk.block⟩) HGR.out)
            have HY := Lib.hid hex2
            clear hp hk hex2
            refine hK _ _ ?_
            clear hK K
            have hl7 := HI7.out.left
            rw [HE2.out] at hl7
            obtain ⟨y0, y1, y2, y3, y4, y5, y6, y7⟩ := cells8 hl7
            refine wpAny_ready (rs := [0]) (by kernel_rfl) (by simp) ?_
            refine AllReady.cons rfl (fun K hK => ?_) AllReady.nil
            go_simp
            refine hK _ _ ?_
            clear hK K y0 y1 y2 y3 y4 y5 y6 y7 hl7
            refine wpAny_ready (rs := [3]) (by kernel_rfl) (by simp) ?_
            refine AllReady.cons rfl (fun K hK => ?_) AllReady.nil
            go_simp
            have cp := pair_ 8 [] HI7.out.ex (HY.out.mono ⟨Nat.le_refl _, fun _ _ _ => rfl⟩ fun b hb => ⟨by have : w6.heap.size ≤ b := hb; omega, by have : w6.heap.size ≤ b := hb; omega⟩)
            rw [HE2.out] at cp
            refine cp.mono ?_
            rintro e w8 ⟨c3, rfl, hb8, hex3⟩
            refine hK _ _ ?_
            clear hK K cp
            obtain ⟨k3, op3, nm3, n3, b3, t3, p3, a3, l3, q3, e3, z3, -⟩ := hex3.eight
            have HI9 := Lib.hid (HI7.out.set hlt hb8 (hex3.mono ⟨Nat.le_refl _, fun _ _ _ => rfl⟩ fun b hb => hb.elim id fun hb => ⟨by have : w7.heap.size ≤ b := hb; omega, by have : w7.heap.size ≤ b := hb; omega⟩))
            have hl8 : w8.heap[B]? = some (.cells c.toArray TE (0, 0)) := (hb8.block _ (by omega)).trans HI7.out.left
            rw [HE2.out] at hl8
            rw [e3] at HI9 ⊢
            refine wpAny_ready (rs := [4]) (by kernel_rfl) (by simp) ?_
            refine AllReady.cons rfl (fun K hK => ?_) AllReady.nil
            rw [if_pos (by kernel_rfl)]
            refine wp_store_row TE (.tmp 3) (.tmp 12) rfl B (ex8 k3 ⟨op3.toArray⟩ ⟨nm3.toArray⟩ n3 b3 (.slice a3 l3 q3) t3 p3) (by rfl) (by rfl) TE (ex8 k2 ⟨op2.toArray⟩ ⟨nm2.toArray⟩ n2 b2 (.slice a2 l2 q2) t2 p2) hl8 (size8 _ _ _ _ _ _ _ _) rfl (one8 _ _ _ _ _ _ _ _ _ _) ?_
            refine hK _ _ ?_
            clear hK K hl8
            refine wpAny_done (by kernel_rfl) ?_ _
            refine NoPanic.normal ?_
            go_wp2_with (first
              | (have cw' := cw _ HI9.out.p; simp only [sl1, one, setRow_size] at cw'; (with_reducible refine cw'.mono ?_); rintro e w10 ⟨rfl, hp, hk⟩; have HW := Lib.hid hp; have HK10 := Lib.hid (HI9.out.keep.trans hk); clear hp hk))
            exact ⟨rfl, rfl, HW.out, HK10.out⟩
        | ok s4 r4 =>
          have cw : ∀ W, PAt N W G r3 d → Calls Tryz.prog 95 #[ptr G, sl1 W] (one W #[93]) (OkPost N G d (.string ⟨s4.toArray⟩) r4 W) := fun W hW => by have := wantL [[93]] 1 rfl (by decide) (by decide) hgr hW; rw [hw] at this; exact this
          have A4 : Aside (X = pIdx rb g d (Pa.pair 8 [] y y2) r4) := A5.trans (by rw [hw]; rfl)
          have HGW := Lib.hid (good_want hgr (by decide) hw).1
          clear c1 c2 hq hw A5 A3 A2 HX HNX HE hg2 hgr
          have HE2 := Lib.hid e2
          clear hs hres e2 z2
          go_upto_region 3 with ((with_reducible refine ct.mono ?_); rintro e w6 ⟨rfl, hp, hk⟩; have HI6 := Lib.hid (A1.out.next hlt hp hk HG2.out); have hl6 := HI6.out.left; rw [HE2.out] at hl6; clear hp hk ct)
          obtain ⟨y0, y1, y2, y3, y4, y5, y6, y7⟩ := cells8 (show w6.drew.heap[B]? = some (.cells (ex8 k2 ⟨op2.toArray⟩ ⟨nm2.toArray⟩ n2 b2 (.slice a2 l2 q2) t2 p2) TE (0, 0)) from hl6)
          have hB6 : B < w6.heap.size := (Array.getElem?_eq_some_iff.1 hl6).1
          have hwB : w.heap.size < B := HI6.out.lt
          clear hl6
          have HP6 := Lib.hid (show PAt N w6.drew G (u :: v) d from HI6.out.p)
          refine wp_region_noPanic ?_
          refine wp_region_any (by kernel_rfl) ?_
          change wpAny _ _ _ _ _ _ _ (World.drew _)
          refine wpAny_take (i := 1) (v := ptr G) rfl (by kernel_rfl) (by kernel_rfl) (by kernel_rfl) (fun _ _ _ h => h) (Or.inl ⟨by rfl, by intro w; go_simp⟩) ?_
          refine wpAny_ready (rs := [0, 2]) (by kernel_rfl) (by simp) ?_
          refine AllReady.cons rfl (fun K hK => ?_) (AllReady.cons rfl (fun K hK => ?_) AllReady.nil)
          · go_simp
            refine hK _ _ ?_
            clear hK K y0 y1 y2 y3 y4 y5 y6 y7
            refine wpAny_ready (rs := [2]) (by kernel_rfl) (by simp) ?_
            refine AllReady.cons rfl (fun K hK => ?_) AllReady.nil
            go_simp
            refine (cx _ HP6.out).mono ?_
            rintro e w7 ⟨c2, rfl, hex2, hp, hk⟩
            have hs7 : w6.heap.size ≤ w7.heap.size := hk.size
            have HI7 := Lib.hid (HI6.out.next hlt hp (by exact ⟨hk.os, hk.tape, hk.output, hk.size, hk.block⟩) HGR.out)
            have HY := Lib.hid hex2
            clear hp hk hex2
            refine hK _ _ ?_
            clear hK K
            refine wpAny_ready (rs := [3]) (by kernel_rfl) (by simp) ?_
            refine AllReady.cons rfl (fun K hK => ?_) AllReady.nil
            go_simp
            have cp := pair_ 8 [] HI7.out.ex (HY.out.mono ⟨Nat.le_refl _, fun _ _ _ => rfl⟩ fun b hb => ⟨by have : w6.heap.size ≤ b := hb; omega, by have : w6.heap.size ≤ b := hb; omega⟩)
            rw [HE2.out] at cp
            refine cp.mono ?_
            rintro e w8 ⟨c3, rfl, hb8, hex3⟩
            refine hK _ _ ?_
            clear hK K cp
            obtain ⟨k3, op3, nm3, n3, b3, t3, p3, a3, l3, q3, e3, z3, -⟩ := hex3.eight
            have HI9 := Lib.hid (HI7.out.set hlt hb8 (hex3.mono ⟨Nat.le_refl _, fun _ _ _ => rfl⟩ fun b hb => hb.elim id fun hb => ⟨by have : w7.heap.size ≤ b := hb; omega, by have : w7.heap.size ≤ b := hb; omega⟩))
            have hl8 : w8.heap[B]? = some (.cells c.toArray TE (0, 0)) := (hb8.block _ (by omega)).trans HI7.out.left
            rw [HE2.out] at hl8
            rw [e3] at HI9 ⊢
            refine wpAny_ready (rs := [4]) (by kernel_rfl) (by simp) ?_
            refine AllReady.cons rfl (fun K hK => ?_) AllReady.nil
            rw [if_pos (by kernel_rfl)]
            refine wp_store_row TE (.tmp 3) (.tmp 12) rfl B (ex8 k3 ⟨op3.toArray⟩ ⟨nm3.toArray⟩ n3 b3 (.slice a3 l3 q3) t3 p3) (by rfl) (by rfl) TE (ex8 k2 ⟨op2.toArray⟩ ⟨nm2.toArray⟩ n2 b2 (.slice a2 l2 q2) t2 p2) hl8 (size8 _ _ _ _ _ _ _ _) rfl (one8 _ _ _ _ _ _ _ _ _ _) ?_
            refine hK _ _ ?_
            clear hK K hl8
            refine wpAny_done (by kernel_rfl) ?_ _
            refine NoPanic.normal ?_
            go_wp2_with (first
              | (have cw' := cw _ HI9.out.p; simp only [sl1, one, setRow_size] at cw'; (with_reducible refine cw'.mono ?_); rintro e w10 ⟨rfl, hp, hk⟩; have HI10 := Lib.hid (HI9.out.next hlt hp hk HGW.out); clear hp hk))
            go_roundg g
            case measure => omega
            case rel => exact ⟨_, _, c3, by omega, HI10.out, A4.out⟩
          · clear y0 y1 y2 y3 y4 y5 y6 y7
            go_simp
            refine (cx _ HP6.out).mono ?_
            rintro e w7 ⟨c2, rfl, hex2, hp, hk⟩
            have hs7 : w6.heap.size ≤ w7.heap.size := hk.size
            have HI7 := Lib.hid (HI6.out.next hlt hp (by exact ⟨hk.os, hk.tape, hk.output, hk.size, hk.block⟩) HGR.out)
            have HY := Lib.hid hex2
            clear hp hk hex2
            refine hK _ _ ?_
            clear hK K
            have hl7 := HI7.out.left
            rw [HE2.out] at hl7
            obtain ⟨y0, y1, y2, y3, y4, y5, y6, y7⟩ := cells8 hl7
            refine wpAny_ready (rs := [0]) (by kernel_rfl) (by simp) ?_
            refine AllReady.cons rfl (fun K hK => ?_) AllReady.nil
            go_simp
            refine hK _ _ ?_
            clear hK K y0 y1 y2 y3 y4 y5 y6 y7 hl7
            refine wpAny_ready (rs := [3]) (by kernel_rfl) (by simp) ?_
            refine AllReady.cons rfl (fun K hK => ?_) AllReady.nil
            go_simp
            have cp := pair_ 8 [] HI7.out.ex (HY.out.mono ⟨Nat.le_refl _, fun _ _ _ => rfl⟩ fun b hb => ⟨by have : w6.heap.size ≤ b := hb; omega, by have : w6.heap.size ≤ b := hb; omega⟩)
            rw [HE2.out] at cp
            refine cp.mono ?_
            rintro e w8 ⟨c3, rfl, hb8, hex3⟩
            refine hK _ _ ?_
            clear hK K cp
            obtain ⟨k3, op3, nm3, n3, b3, t3, p3, a3, l3, q3, e3, z3, -⟩ := hex3.eight
            have HI9 := Lib.hid (HI7.out.set hlt hb8 (hex3.mono ⟨Nat.le_refl _, fun _ _ _ => rfl⟩ fun b hb => hb.elim id fun hb => ⟨by have : w7.heap.size ≤ b := hb; omega, by have : w7.heap.size ≤ b := hb; omega⟩))
            have hl8 : w8.heap[B]? = some (.cells c.toArray TE (0, 0)) := (hb8.block _ (by omega)).trans HI7.out.left
            rw [HE2.out] at hl8
            rw [e3] at HI9 ⊢
            refine wpAny_ready (rs := [4]) (by kernel_rfl) (by simp) ?_
            refine AllReady.cons rfl (fun K hK => ?_) AllReady.nil
            rw [if_pos (by kernel_rfl)]
            refine wp_store_row TE (.tmp 3) (.tmp 12) rfl B (ex8 k3 ⟨op3.toArray⟩ ⟨nm3.toArray⟩ n3 b3 (.slice a3 l3 q3) t3 p3) (by rfl) (by rfl) TE (ex8 k2 ⟨op2.toArray⟩ ⟨nm2.toArray⟩ n2 b2 (.slice a2 l2 q2) t2 p2) hl8 (size8 _ _ _ _ _ _ _ _) rfl (one8 _ _ _ _ _ _ _ _ _ _) ?_
            refine hK _ _ ?_
            clear hK K hl8
            refine wpAny_done (by kernel_rfl) ?_ _
            refine NoPanic.normal ?_
            go_wp2_with (first
              | (have cw' := cw _ HI9.out.p; simp only [sl1, one, setRow_size] at cw'; (with_reducible refine cw'.mono ?_); rintro e w10 ⟨rfl, hp, hk⟩; have HI10 := Lib.hid (HI9.out.next hlt hp hk HGW.out); clear hp hk))
            go_roundg g
            case measure => omega
            case rel => exact ⟨_, _, c3, by omega, HI10.out, A4.out⟩
end PaC
end Go.Proofs.YtnlbhnmiekanfaaGreatDoor
