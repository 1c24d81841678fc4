/-
  A step of a run, and the run's rounds: each a contract.
-/
import Derived.Test.YtieehjkmfmkfjabMachS
import Derived.Defers
import Derived.Recover
import Derived.Laws.Pointers
namespace Go.Proofs.Ytieehjkmfmkfjab
open Go.RowKit
set_option linter.unusedVariables false
set_option linter.unusedSimpArgs false
namespace MT
attribute [local go_sem ↓] Go.wp_at_zero Go.wp_at_succ
open MM MC MD MG MH MA MF MS
section
variable {B br bk b bm N : Nat} {sd : List (Nat × Obj)} {w w' : World} {s s' : St} {vi ve : Value} {inp : List Int} {out : List Ev} {n c : Nat}
theorem ok_parts {N : Nat} {s : St} {inp : List Int} (hk : (MM.step N s inp).ok = true) : fit N s.pc 4 = true ∧ CM.dec (num s.mem s.pc.toNat 4) ≠ 0 := by
  unfold MM.step at hk
  cases h1 : fit N s.pc 4 with
  | false => rw [h1, if_neg (by decide)] at hk; cases hk
  | true =>
    refine ⟨rfl, fun h2 => ?_⟩
    rw [h1, if_pos rfl, if_pos h2] at hk; cases hk
theorem step_act {N : Nat} {s : St} {inp : List Int} (h1 : fit N s.pc 4 = true) (h2 : CM.dec (num s.mem s.pc.toNat 4) ≠ 0) :
    MM.step N s inp = act N s inp (iOp (num s.mem s.pc.toNat 4)) (iRd (num s.mem s.pc.toNat 4)) (iRs1 (num s.mem s.pc.toNat 4)) (iRs2 (num s.mem s.pc.toNat 4)) (iImm (num s.mem s.pc.toNat 4)) := by
  unfold MM.step; rw [if_pos h1, if_neg h2]
set_option maxRecDepth 100000 in
set_option maxHeartbeats 4000000 in
theorem step_ok (L : Lives B br bk b bm N sd w s vi ve inp out n c) (hs : Fine s) (hN : N ≤ 2097152) (hc : c < 4096) (hl : out.length ≤ 100000) (r : Rs) (hr : MM.step N s inp = r) (hk : r.ok = true) :
    Calls Try.prog 45 #[.pointer (some ⟨br, 0, none⟩)] w fun e w' => e = .returned (.tuple #[]) ∧ ∃ vi' ve', Lives B br bk b bm N sd w' r.s vi' ve' r.inp (out ++ r.out) n (c + 1) ∧ Own B b bm w w' := by
  have hk' : (MM.step N s inp).ok = true := by rw [hr]; exact hk
  obtain ⟨h1, h2⟩ := ok_parts hk'
  rw [step_act h1 h2] at hr
  clear hk'
  have p0 := L.r0
  have p5 := L.at_.cpc
  have n0 := L.pl
  have n1 : br ≠ b := by omega
  have n3 : b ≠ br := by omega
  clear n0
  have c1 := bytes_at L hN s.pc 4 hs.pc (by omega) h1
  have c2 := fun cc => num_at L hs s.pc.toNat 4 cc (by omega) (fit_lt h1 hs.pc.1 (by omega))
  have hx := num4 s.mem hs.mem s.pc.toNat
  rw [show (4 : Int).toNat = 4 from rfl] at c1
  have hdb := dec_bd (num s.mem s.pc.toNat 4)
  generalize num s.mem s.pc.toNat 4 = x at *
  have cd := decoded_ok (Lives.drew L) hc x hx h2
  unfold insV at cd
  have b1 := iRd_bd x
  have b2 := iRs1_bd x
  have b3 := iRs2_bd x
  have hop : 1 ≤ iOp x ∧ iOp x ≤ 55 := by unfold iOp; omega
  obtain ⟨rd, e1⟩ : ∃ k : Nat, iRd x = k := ⟨(iRd x).toNat, by omega⟩
  obtain ⟨r1, e2⟩ : ∃ k : Nat, iRs1 x = k := ⟨(iRs1 x).toNat, by omega⟩
  obtain ⟨r2, e3⟩ : ∃ k : Nat, iRs2 x = k := ⟨(iRs2 x).toNat, by omega⟩
  rw [e1, e2, e3] at cd hr
  have k1 : rd < 32 := by omega
  have k2 : r1 < 32 := by omega
  have k3 : r2 < 32 := by omega
  clear e1 e2 e3 b1 b2 b3 h2 hdb h1
  generalize iOp x = op at *
  generalize iImm x = im at *
  have HA := Lib.hid (fun w (L : Lives B br bk b bm N sd w s vi ve inp out n (c + 1)) => act_ok L hs hN rd r1 r2 k1 k2 k3 op im hop hl r hr hk)
  have HS := Lib.hid hs
  clear hr hk hs L hN hop k1 k2 k3 hc hl
  go_enter Try.func45, Try.ntmps45
  go_wp2_with (first
    | (go_at_call 52; (with_reducible refine c1.mono ?_); rintro e w1 ⟨rfl, rfl⟩)
    | (go_at_call 51; (with_reducible refine (c2 _).mono ?_); rintro e w1 ⟨rfl, rfl⟩))
  go_region_held3 (fun w' => w'.cell? ⟨br, 0, none⟩ = some (.pointer (some ⟨b, 0, none⟩))) (first | go_keep)
    ((first
      | (go_at_call 54; (with_reducible refine cd.mono ?_); rintro e w1 ⟨rfl, L1, O1⟩; obtain ⟨S, pc, hS, ca⟩ := HA.out _ L1; have q0 := L1.r0; have HO := Lib.hid O1; have HSS := Lib.hid hS; clear L1 O1 hS)
      | (go_at_call 53; (with_reducible refine ca.mono ?_); rintro e w2 ⟨rfl, vi2, ve2, L2, O2⟩; have q1 := L2.r0; have q2 := L2.at_.cpc; have q3 := L2.at_.fb 65; have HL2 := Lib.hid L2; have HO2 := Lib.hid O2; clear L2 O2)))
  go_end0
  refine ⟨rfl, vi2, ve2, ?_, ((own_drew (Own.refl _ _ _ _)).trans HO.out).trans (HO2.out.trans (Own.set _ _ _))⟩
  rw [HSS.out]
  exact HL2.out.set 65 _ (set_pc _ _ _ _) rfl
theorem no_cases {N : Nat} {s : St} {inp : List Int} (hk : (MM.step N s inp).ok = false) :
    (fit N s.pc 4 = false ∧ MM.step N s inp = no s 3 inp) ∨ (fit N s.pc 4 = true ∧ CM.dec (num s.mem s.pc.toNat 4) = 0 ∧ MM.step N s inp = no s 2 inp) ∨ (fit N s.pc 4 = true ∧ CM.dec (num s.mem s.pc.toNat 4) ≠ 0) := by
  cases h1 : fit N s.pc 4 with
  | false => exact .inl ⟨rfl, by unfold MM.step; rw [h1, if_neg (by decide)]⟩
  | true =>
    by_cases h2 : CM.dec (num s.mem s.pc.toNat 4) = 0
    · exact .inr (.inl ⟨rfl, h2, by unfold MM.step; rw [if_pos h1, if_pos h2]⟩)
    · exact .inr (.inr ⟨rfl, h2⟩)
def StepBad (B br bk b bm N : Nat) (sd : List (Nat × Obj)) (w : World) (s : St) (vi ve : Value) (inp : List Int) (out : List Ev) (n c : Nat) (r : Rs) : Prop :=
  ∃ code, r.s = setst s code ∧ r.inp = inp ∧ Calls Try.prog 45 #[.pointer (some ⟨br, 0, none⟩)] w fun e w' => e = .panicked [{ v := .iface 97 (.int .i64 code), recovered := false }] ∧ ∃ c', c' ≤ c + 1 ∧ Lives B br bk b bm N sd w' s vi ve inp out n c' ∧ Own B b bm w w'
set_option maxRecDepth 100000 in
set_option maxHeartbeats 4000000 in
theorem step_bad3 (L : Lives B br bk b bm N sd w s vi ve inp out n c) (hs : Fine s) (hN : N ≤ 2097152) (h1 : fit N s.pc 4 = false) :
    Calls Try.prog 45 #[.pointer (some ⟨br, 0, none⟩)] w fun e w' => e = .panicked [{ v := .iface 97 (.int .i64 3), recovered := false }] ∧ w' = w := by
  have p0 := L.r0
  have p5 := L.at_.cpc
  have c1 := bytes_bad L hN s.pc 4 hs.pc (by omega) h1
  clear L hs hN h1
  go_enter Try.func45, Try.ntmps45
  go_wp2_with (go_at_call 52; (with_reducible refine c1.mono ?_); rintro e w1 ⟨rfl, rfl⟩)
  exact ⟨rfl, rfl, rfl⟩
set_option maxRecDepth 100000 in
set_option maxHeartbeats 4000000 in
theorem step_bad2 (L : Lives B br bk b bm N sd w s vi ve inp out n c) (hs : Fine s) (hN : N ≤ 2097152) (h1 : fit N s.pc 4 = true) (h2 : CM.dec (num s.mem s.pc.toNat 4) = 0) :
    Calls Try.prog 45 #[.pointer (some ⟨br, 0, none⟩)] w fun e w' => e = .panicked [{ v := .iface 97 (.int .i64 2), recovered := false }] ∧ Lives B br bk b bm N sd w' s vi ve inp out n c ∧ Own B b bm w w' := by
  have p0 := L.r0
  have p5 := L.at_.cpc
  have c1 := bytes_yes br b bm N hN s.pc 4 hs.pc (by omega) h1 w L.r0 L.at_.c0
  have c2 := fun cc => number_ bm s.pc.toNat 4 cc s.mem hs.mem (by omega) w (fun k hk => L.at_.cm (i := s.pc.toNat + k) (by have := fit_lt h1 hs.pc.1 (by omega); omega))
  have hx := num4 s.mem hs.mem s.pc.toNat
  rw [show (4 : Int).toNat = 4 from rfl] at c1
  generalize num s.mem s.pc.toNat 4 = x at *
  have cd := decoded_no (Lives.drew L) x hx h2
  clear L hs hN h1 h2
  go_enter Try.func45, Try.ntmps45
  go_wp2_with (first
    | (go_at_call 52; (with_reducible refine c1.mono ?_); rintro e w1 ⟨rfl, rfl⟩)
    | (go_at_call 51; (with_reducible refine (c2 _).mono ?_); rintro e w1 ⟨rfl, rfl⟩))
  refine wp_region_held_drew (S := fun w' => w' = w.drew) (by kernel_rfl) rfl (fun hHeld => ?_)
  refine wpAnyH_take (i := 0) (oi := _) (v := ?_) rfl (by kernel_rfl) (by kernel_rfl) (by kernel_rfl) (fun _ _ _ h => h) (Or.inl ⟨by rfl, ?_⟩) rfl ?_
  rotate_left
  · intro w2 hw; subst hw; go_simp; with_reducible rfl
  simp only [Act.put, List.setIfInBounds_toArray, List.set_cons_zero, List.set_cons_succ]
  refine wpAnyH_take (i := 1) (oi := _) (v := ?_) rfl (by kernel_rfl) (by kernel_rfl) (by kernel_rfl) (fun _ _ _ h => h) (Or.inl ⟨by rfl, ?_⟩) rfl ?_
  rotate_left
  · intro w2 hw; subst hw; go_simp; with_reducible rfl
  simp only [Act.put, List.setIfInBounds_toArray, List.set_cons_zero, List.set_cons_succ]
  refine wpAnyH_take (i := 2) (oi := _) (v := ?_) rfl (by kernel_rfl) (by kernel_rfl) (by kernel_rfl) (fun _ _ _ h => h) (Or.inl ⟨by rfl, ?_⟩) rfl ?_
  rotate_left
  · intro w2 hw; subst hw; go_simp; with_reducible rfl
  simp only [Act.put, List.setIfInBounds_toArray, List.set_cons_zero, List.set_cons_succ]
  refine wpAnyH_take (i := 3) (oi := _) (v := ?_) rfl (by kernel_rfl) (by kernel_rfl) (by kernel_rfl) (fun _ _ _ h => h) (Or.inl ⟨by rfl, ?_⟩) rfl ?_
  rotate_left
  · intro w2 hw; subst hw; go_simp; with_reducible rfl
  simp only [Act.put, List.setIfInBounds_toArray, List.set_cons_zero, List.set_cons_succ]
  refine wpAnyH_take (i := 4) (oi := _) (v := ?_) rfl (by kernel_rfl) (by kernel_rfl) (by kernel_rfl) (fun _ _ _ h => h) (Or.inl ⟨by rfl, ?_⟩) rfl ?_
  rotate_left
  · intro w2 hw; subst hw; go_simp; with_reducible rfl
  simp only [Act.put, List.setIfInBounds_toArray, List.set_cons_zero, List.set_cons_succ]
  refine wpAnyH_take (i := 5) (oi := _) (v := ?_) rfl (by kernel_rfl) (by kernel_rfl) (by kernel_rfl) (fun _ _ _ h => h) (Or.inl ⟨by rfl, ?_⟩) rfl ?_
  rotate_left
  · intro w2 hw; subst hw; go_simp; with_reducible rfl
  simp only [Act.put, List.setIfInBounds_toArray, List.set_cons_zero, List.set_cons_succ]
  refine wpAnyH_take (i := 6) (oi := _) (v := ?_) rfl (by kernel_rfl) (by kernel_rfl) (by kernel_rfl) (fun _ _ _ h => h) (Or.inl ⟨by rfl, ?_⟩) rfl ?_
  rotate_left
  · intro w2 hw; subst hw; go_simp; with_reducible rfl
  simp only [Act.put, List.setIfInBounds_toArray, List.set_cons_zero, List.set_cons_succ]
  refine wpAnyH_ready (rs := [7]) (by kernel_rfl) (by simp) ?_
  refine AllReadyH.cons (o := _) rfl (fun K hK => ?_) AllReadyH.nil
  go_simp
  refine cd.mono ?_
  rintro e w1 ⟨rfl, L1, O1⟩
  exact ⟨rfl, rfl, L1, (own_drew (Own.refl _ _ _ _)).trans O1⟩
set_option maxRecDepth 100000 in
set_option maxHeartbeats 4000000 in
theorem step_badA (L : Lives B br bk b bm N sd w s vi ve inp out n c) (hs : Fine s) (hN : N ≤ 2097152) (hc : c < 4096) (h1 : fit N s.pc 4 = true) (h2 : CM.dec (num s.mem s.pc.toNat 4) ≠ 0) (r : Rs) (hr : MM.step N s inp = r) (hk : r.ok = false) :
    ∃ code, r.s = setst s code ∧ r.inp = inp ∧ Calls Try.prog 45 #[.pointer (some ⟨br, 0, none⟩)] w fun e w' => e = .panicked [{ v := .iface 97 (.int .i64 code), recovered := false }] ∧ Lives B br bk b bm N sd w' s vi ve inp out n (c + 1) ∧ Own B b bm w w' := by
  obtain ⟨q1, -, code, q2, -⟩ := no_of N s inp (by rw [hr]; exact hk)
  rw [hr] at q1 q2
  refine ⟨code, q2, q1, ?_⟩
  rw [step_act h1 h2] at hr
  have p0 := L.r0
  have p5 := L.at_.cpc
  have c1 := bytes_yes br b bm N hN s.pc 4 hs.pc (by omega) h1 w L.r0 L.at_.c0
  have c2 := fun cc => number_ bm s.pc.toNat 4 cc s.mem hs.mem (by omega) w (fun k hk => L.at_.cm (i := s.pc.toNat + k) (by have := fit_lt h1 hs.pc.1 (by omega); omega))
  have hx := num4 s.mem hs.mem s.pc.toNat
  rw [show (4 : Int).toNat = 4 from rfl] at c1
  have hdb := dec_bd (num s.mem s.pc.toNat 4)
  generalize num s.mem s.pc.toNat 4 = x at *
  have cd := decoded_ok (Lives.drew L) hc x hx h2
  unfold insV at cd
  have b1 := iRd_bd x
  have b2 := iRs1_bd x
  have b3 := iRs2_bd x
  have hop : 1 ≤ iOp x ∧ iOp x ≤ 55 := by unfold iOp; omega
  obtain ⟨rd, e1⟩ : ∃ k : Nat, iRd x = k := ⟨(iRd x).toNat, by omega⟩
  obtain ⟨r1, e2⟩ : ∃ k : Nat, iRs1 x = k := ⟨(iRs1 x).toNat, by omega⟩
  obtain ⟨r2, e3⟩ : ∃ k : Nat, iRs2 x = k := ⟨(iRs2 x).toNat, by omega⟩
  rw [e1, e2, e3] at cd hr
  have k1 : rd < 32 := by omega
  have k2 : r1 < 32 := by omega
  have k3 : r2 < 32 := by omega
  clear e1 e2 e3 b1 b2 b3 h2 hdb h1
  generalize iOp x = op at *
  generalize iImm x = im at *
  have HA := Lib.hid (show ∀ w, Lives B br bk b bm N sd w s vi ve inp out n (c + 1) → Calls Try.prog 53 #[.pointer (some ⟨br, 0, none⟩), .agg #[.int .i64 op, .int .i64 rd, .int .i64 r1, .int .i64 r2, .int .i64 im]] w fun e w' => e = .panicked [{ v := .iface 97 (.int .i64 code), recovered := false }] ∧ Lives B br bk b bm N sd w' s vi ve inp out n (c + 1) ∧ Own B b bm w w' from fun w L => by
    obtain ⟨code', e1, e2, hC⟩ := act_bad L hs hN rd r1 r2 k1 k2 k3 op im hop r hr hk
    rw [q2] at e1
    have : code = code' := congrArg St.state e1
    subst this
    exact hC)
  clear q1 q2 hr hk hs L hN hop k1 k2 k3 hc
  go_enter Try.func45, Try.ntmps45
  go_wp2_with (first
    | (go_at_call 52; (with_reducible refine c1.mono ?_); rintro e w1 ⟨rfl, rfl⟩)
    | (go_at_call 51; (with_reducible refine (c2 _).mono ?_); rintro e w1 ⟨rfl, rfl⟩))
  refine wp_region_held_drew (S := fun w' => w'.cell? ⟨br, 0, none⟩ = some (.pointer (some ⟨b, 0, none⟩))) (by kernel_rfl) p0 (fun hHeld => ?_)
  refine wpAnyH_take (i := 0) (oi := _) (v := ?_) rfl (by kernel_rfl) (by kernel_rfl) (by kernel_rfl) (fun _ _ _ h => h) (Or.inl ⟨by rfl, ?_⟩) hHeld ?_
  rotate_left
  · intro w2 hw; go_simp; with_reducible rfl
  simp only [Act.put, List.setIfInBounds_toArray, List.set_cons_zero, List.set_cons_succ]
  refine wpAnyH_take (i := 1) (oi := _) (v := ?_) rfl (by kernel_rfl) (by kernel_rfl) (by kernel_rfl) (fun _ _ _ h => h) (Or.inl ⟨by rfl, ?_⟩) hHeld ?_
  rotate_left
  · intro w2 hw; go_simp; with_reducible rfl
  simp only [Act.put, List.setIfInBounds_toArray, List.set_cons_zero, List.set_cons_succ]
  refine wpAnyH_take (i := 2) (oi := _) (v := ?_) rfl (by kernel_rfl) (by kernel_rfl) (by kernel_rfl) (fun _ _ _ h => h) (Or.inl ⟨by rfl, ?_⟩) hHeld ?_
  rotate_left
  · intro w2 hw; go_simp; with_reducible rfl
  simp only [Act.put, List.setIfInBounds_toArray, List.set_cons_zero, List.set_cons_succ]
  refine wpAnyH_take (i := 3) (oi := _) (v := ?_) rfl (by kernel_rfl) (by kernel_rfl) (by kernel_rfl) (fun _ _ _ h => h) (Or.inl ⟨by rfl, ?_⟩) hHeld ?_
  rotate_left
  · intro w2 hw; go_simp; with_reducible rfl
  simp only [Act.put, List.setIfInBounds_toArray, List.set_cons_zero, List.set_cons_succ]
  refine wpAnyH_take (i := 4) (oi := _) (v := ?_) rfl (by kernel_rfl) (by kernel_rfl) (by kernel_rfl) (fun _ _ _ h => h) (Or.inl ⟨by rfl, ?_⟩) hHeld ?_
  rotate_left
  · intro w2 hw; go_simp; with_reducible rfl
  simp only [Act.put, List.setIfInBounds_toArray, List.set_cons_zero, List.set_cons_succ]
  refine wpAnyH_take (i := 5) (oi := _) (v := ?_) rfl (by kernel_rfl) (by kernel_rfl) (by kernel_rfl) (fun _ _ _ h => h) (Or.inl ⟨by rfl, ?_⟩) hHeld ?_
  rotate_left
  · intro w2 hw; go_simp; with_reducible rfl
  simp only [Act.put, List.setIfInBounds_toArray, List.set_cons_zero, List.set_cons_succ]
  refine wpAnyH_take (i := 6) (oi := _) (v := ?_) rfl (by kernel_rfl) (by kernel_rfl) (by kernel_rfl) (fun _ _ _ h => h) (Or.inl ⟨by rfl, ?_⟩) hHeld ?_
  rotate_left
  · intro w2 hw; go_simp; with_reducible rfl
  simp only [Act.put, List.setIfInBounds_toArray, List.set_cons_zero, List.set_cons_succ]
  refine wpAnyH_ready (rs := [7]) (by kernel_rfl) (by simp) ?_
  refine AllReadyH.cons (o := _) rfl (fun K hK => ?_) AllReadyH.nil
  go_simp
  refine cd.mono ?_
  rintro e w1 ⟨rfl, L1, O1⟩
  refine hK.out _ _ L1.r0 (fun hHeld2 => ?_)
  clear hK K
  refine wpAnyH_ready (rs := [8]) (by kernel_rfl) (by simp) ?_
  refine AllReadyH.cons (o := _) rfl (fun K hK => ?_) AllReadyH.nil
  go_simp
  refine (HA.out _ L1).mono ?_
  rintro e w2 ⟨rfl, L2, O2⟩
  exact ⟨rfl, rfl, L2, ((own_drew (Own.refl _ _ _ _)).trans O1).trans O2⟩
theorem step_bad (L : Lives B br bk b bm N sd w s vi ve inp out n c) (hs : Fine s) (hN : N ≤ 2097152) (hc : c < 4096) (r : Rs) (hr : MM.step N s inp = r) (hk : r.ok = false) : StepBad B br bk b bm N sd w s vi ve inp out n c r := by
  rcases no_cases (N := N) (s := s) (inp := inp) (by rw [hr]; exact hk) with ⟨h1, h2⟩ | ⟨h1, h2, h3⟩ | ⟨h1, h2⟩
  · rw [hr] at h2
    subst h2
    exact ⟨3, rfl, rfl, (step_bad3 L hs hN h1).mono fun e w' ⟨he, hw⟩ => by subst hw; exact ⟨he, c, by omega, L, Own.refl _ _ _ _⟩⟩
  · rw [hr] at h3
    subst h3
    exact ⟨2, rfl, rfl, (step_bad2 L hs hN h1 h2).mono fun e w' ⟨he, L1, O1⟩ => ⟨he, c, by omega, L1, O1⟩⟩
  · obtain ⟨code, e1, e2, hC⟩ := step_badA L hs hN hc h1 h2 r hr hk
    exact ⟨code, e1, e2, hC.mono fun e w' ⟨he, L1, O1⟩ => ⟨he, c + 1, by omega, L1, O1⟩⟩
end
def Fin (W : World) (e : Exit) (a : Act) (w' : World) : Prop := e = .normal ∧ a.defers = [] ∧ w' = W
set_option maxRecDepth 100000 in
set_option maxHeartbeats 1000000 in
theorem catch_panicking (bx br b : Nat) (code : Int) (older : List PanicEntry) (w : World) (h0 : w.cell? ⟨bx, 0, none⟩ = some (.pointer (some ⟨br, 0, none⟩))) (h1 : w.cell? ⟨br, 0, none⟩ = some (.pointer (some ⟨b, 0, none⟩))) (v : Value) (h2 : w.cell? ⟨b, 66, none⟩ = some v) (h3 : w.frozen? ⟨b, 66, none⟩ = false) :
    CallsD Try.prog 44 #[.pointer (some ⟨bx, 0, none⟩)] (.panicking ({ v := .iface 97 (.int .i64 code), recovered := false } :: older)) w fun e u' w' =>
      e = .returned (.tuple #[]) ∧ u' = .panicking ({ v := .iface 97 (.int .i64 code), recovered := true } :: older) ∧ w' = w.setCell ⟨b, 66, none⟩ (.int .i64 code) := by
  refine callsD_of_wpS Try.func44 rfl fun c₀ cs hu => ?_
  apply wpS_seq
  apply wpS_region
  simp [wpOpsS, go_sem, recoverD, hu, Try.ntmps44, Exit.thenS]
  refine wpS_of_wp (wp_mono (Q := Fin (w.setCell ⟨b, 66, none⟩ (.int .i64 code))) ?_ ?_)
  · show Code.wp _ _ _ { tmps := #[.pointer (some ⟨bx, 0, none⟩), undef, undef, undef, .iface 97 (.int .i64 code), undef, undef, undef, undef, undef, undef, undef, undef, undef, undef, undef, undef], defers := [] } _
    clear hu
    have hta : ∀ w, (Instr.typeAssert (.iface 97 (.int .i64 code)) 20 97 true).run Try.prog w = .ok (.tuple #[.int .i64 code, .bool true]) w := fun _ => by kernel_rfl
    go_wp2
    exact ⟨rfl, rfl, rfl⟩
  · rintro e a w' ⟨rfl, hd, rfl⟩
    simp [bodyPostS, results, Try.results44, hd]
set_option maxRecDepth 100000 in
set_option maxHeartbeats 1000000 in
theorem catch_idle (bx : Nat) (w : World) :
    CallsD Try.prog 44 #[.pointer (some ⟨bx, 0, none⟩)] .returning w fun e u' w' => e = .returned (.tuple #[]) ∧ u' = .returning ∧ w' = w := by
  refine callsD_of_wpS Try.func44 rfl fun c₀ cs hu => ?_
  apply wpS_seq
  apply wpS_region
  simp [wpOpsS, go_sem, recoverD, hu, Try.ntmps44, Exit.thenS]
  refine wpS_of_wp (wp_mono (Q := Fin w) ?_ ?_)
  · show Code.wp _ _ _ { tmps := #[.pointer (some ⟨bx, 0, none⟩), undef, undef, undef, .nilIface, undef, undef, undef, undef, undef, undef, undef, undef, undef, undef, undef, undef], defers := [] } _
    clear hu
    go_wp2
    exact ⟨rfl, rfl, rfl⟩
  · rintro e a w' ⟨rfl, hd, rfl⟩
    cases c₀
    simp_all [bodyPostS, results, Try.results44]
end MT
end Go.Proofs.Ytieehjkmfmkfjab
