/-
  The reader: a number. Condition: the reader lies in memory, its text is not too long, and real.Parse answers at the real's text that may stand there.
-/
import Derived.Test.YtnlbhnmiekanfaaGreatDoorLexU
namespace Go.Proofs.YtnlbhnmiekanfaaGreatDoor
open Go.RowKit
set_option linter.unusedVariables false
set_option linter.unusedSimpArgs false
namespace LxC
open Lx OI
def dstN (i : Nat) : Nat := 46 + i
theorem dstN_inj (i j : Nat) (hi : i < 24) (hj : j < 24) (h : dstN i = dstN j) : i = j := by
  unfold dstN at h; omega
theorem one_ {n : Rg} {R k : Nat} {f : Value} {w1 W : World} {fs : Fs} {s : ByteArray} {p : UInt8 → Bool} {b : Bool} (h : RdAt n w1 R fs s k W) (hk : k ≤ s.size) (hs : s.size ≤ 8192) (hf : Tells n w1 f p) (hp : sees p (at_ s k) = b) :
    Calls Tryz.prog 161 #[.pointer (some ⟨R, 0, none⟩), f] W fun e w' => e = .returned (.bool b) ∧ RdAt n w1 R fs s (k + b.toNat) w' ∧ W.grownBy w' (some R) := by
  cases b with
  | true => exact one_yes h hs hf hp
  | false => exact (one_no h hk hs hf hp).mono fun e w' ⟨h1, h2⟩ => ⟨h1, h.below h2, gb_below h2⟩
theorem take_cnt (p : UInt8 → Bool) : ∀ (l : List UInt8), ∀ b ∈ l.take (cnt p l), p b = true
  | [], b, hb => by simp at hb
  | x :: l, b, hb => by
    cases h : p x with
    | true =>
      rw [cnt_yes h, List.take_succ_cons] at hb
      rcases List.mem_cons.1 hb with rfl | hb
      · exact h
      · exact take_cnt p l b hb
    | false => rw [cnt_no h, List.take_zero] at hb; cases hb
/-- where a number's kind is settled -/
structure NumAt (n : Rg) (w1 : World) (R : Nat) (fs : Fs) (s : ByteArray) (k : Nat) (W : World) (kd g m : Nat) (wx : World) : Prop where
  sp : Lx.span (at_ s k) = (kd, m)
  kind : (kd = 3 ∧ g = 167) ∨ (kd = 2 ∧ g = 166)
  rd : RdAt n w1 R fs s (k + m) wx
  gb : W.grownBy wx (some R)
/-- what is asked of real.Parse at pieces of a text -/
def Parses (n : Nat) (w : World) (s : ByteArray) : Prop := ∀ a : Nat, isReal (s.extract a (a + (Lx.span (at_ s a)).2)).data.toList = true → ParseAt n w (s.extract a (a + (Lx.span (at_ s a)).2))
theorem NumAt.call {n : Rg} {R k kd g m : Nat} {w1 W wx : World} {fs : Fs} {s : ByteArray} (h : NumAt n w1 R fs s k W kd g m wx) (hd : sees digit (at_ s k) = true) (hs : s.size ≤ 8192) (hP : Parses n.lo w1 s) :
    (∀ args w, (callFunc g args).run Tryz.prog w = .ok (.enter g args) w) ∧ ∀ W' : World, Below wx.heap.size wx W' → Calls Tryz.prog g #[.string (s.extract k (k + m))] W' fun e w' => e = .returned (.bool (if kd = 3 then isReal ((at_ s k).take m) else isInt ((at_ s k).take m))) ∧ Below W'.heap.size W' w' := by
  have hz : (s.extract k (k + m)).size ≤ 8192 := by rw [ByteArray.size_extract]; omega
  have hlt := h.rd.lt
  have hnR := h.rd.nR
  rcases h.kind with ⟨rfl, rfl⟩ | ⟨rfl, rfl⟩
  · refine ⟨enters_of Tryz.func167 (by kernel_rfl) rfl, fun W' hb => ?_⟩
    rw [if_pos rfl, ← piece_list]
    have hPk := hP k
    rw [h.sp] at hPk
    exact isReal_ (n := n.lo) (w := w1) _ hz hPk W' (by have := hb.size; have := h.rd.lh; omega) (h.rd.low.trans (hb.mono (by have := h.rd.lh; omega)))
  · refine ⟨enters_of Tryz.func166 (by kernel_rfl) rfl, fun W' hb => ?_⟩
    rw [if_neg (by omega), ← piece_list]
    have hm : m = cnt digit (at_ s k) := by
      have h1 := h.sp
      rw [span_eq] at h1
      split at h1
      · split at h1 <;> simp at h1
      · simp only [Prod.mk.injEq, true_and] at h1; exact h1.symm
    have hm1 : 1 ≤ m := by rw [hm, cnt_sees_yes hd]; omega
    have hle := cnt_at_le digit s k (Nat.le_of_lt (sees_lt s k hd))
    have hB : Base n.lo w1 := h.rd.base
    have hlh := h.rd.lh
    have hb2 : Below n.lo w1 W' := h.rd.low.trans (hb.mono (by omega))
    refine isInt_ _ W' hz (by rw [ByteArray.size_extract]; omega) (fun b hb' => ?_) (by have := hb.size; have := hB.le; omega) ?_
    · rw [piece_list, hm] at hb'
      exact take_cnt digit _ b hb'
    · rw [hb2.cell (p := ⟨3, 0, none⟩) (by have := hB.le; show 3 < n.lo; omega)]
      exact hB.rng
set_option maxRecDepth 100000 in
set_option maxHeartbeats 16000000 in
theorem number_ {n : Rg} {R k : Nat} {w1 W : World} {fs : Fs} {s : ByteArray} (h : RdAt n w1 R fs s k W) (hd : sees digit (at_ s k) = true) (hs : s.size ≤ 8192) (hP : Parses n.lo w1 s) :
    Calls Tryz.prog 131 #[.pointer (some ⟨R, 0, none⟩)] W (KPost n w1 R fs s k W (Lx.number (at_ s k))) := by
  have hk := Nat.le_of_lt (sees_lt s k hd)
  have k1 : W.cell? ⟨R, 1, none⟩ = some (.int .i64 (k : Int)) := Lib.cell_of_heap h.blk 1
  have k6 : W.cell? ⟨R, 6, none⟩ = some fs.digit := Lib.cell_of_heap h.blk 6
  have c1 := all_ h hk hs h.ok.digit
  have hl1 := cnt_at_le digit s k hk
  have HSP := Lib.hid (span_eq (at_ s k))
  have HSB : Hid (spB (at_ s k) = cnt digit (at_ s k) + 1 + cnt digit ((at_ s k).drop (cnt digit (at_ s k) + 1))) := rfl
  have HSC : Hid (spC (at_ s k) = if sees plus ((at_ s k).drop (spB (at_ s k) + 1)) then spB (at_ s k) + 1 + 1 else spB (at_ s k) + 1) := rfl
  obtain ⟨a, ha⟩ : ∃ a, cnt digit (at_ s k) = a := ⟨_, rfl⟩
  rw [ha] at c1 hl1
  obtain ⟨b46, hb46⟩ : ∃ b, sees (isB 46) (at_ s (k + a)) = b := ⟨_, rfl⟩
  have HA := Lib.hid ha
  have HB46 := Lib.hid hb46
  have HD := Lib.hid hd
  have HP := Lib.hid hP
  clear ha hb46 hd h hP
  obtain ⟨res, hres⟩ : ∃ r, Lx.number (at_ s k) = r := ⟨_, rfl⟩
  rw [hres]
  have HRES := Lib.hid hres
  clear hres
  go_enter Tryz.func131, Tryz.ntmps131
  go_upto_if 21 with (first
    | ((with_reducible refine c1.mono ?_); rintro e w2 ⟨rfl, h2, g2⟩; have c2 := one_ h2 hl1 hs h2.ok.point HB46.out; have j7 : w2.cell? ⟨R, 7, none⟩ = some fs.point := Lib.cell_of_heap h2.blk 7; have H2 := Lib.hid h2; have G2 := Lib.hid g2; clear h2 g2 c1)
    | ((with_reducible refine c2.mono ?_); rintro e w3 ⟨rfl, h3, g3⟩; have H3 := Lib.hid h3; have G3 := Lib.hid g3; clear h3 g3 c2))
  go_cut [4, 5] from 22 to 45 (fun s4 s5 wx => ∃ kd g m : Nat, s4 = .int .i64 (kd : Int) ∧ s5 = .func (.func g) #[] #[] ∧ Aside (NumAt n w1 R fs s k W kd g m wx))
  case first =>
    cases b46 with
    | false =>
      go_wp2_with fail
      go_meet
      refine ⟨2, 166, a, rfl, rfl, ?_, .inr ⟨rfl, rfl⟩, H3.out, gb_trans G2.out G3.out⟩
      have h0 := HB46.out
      rw [HSP.out, HA.out, at_drop, h0]; rfl
    | true =>
      have hlt := sees_lt s _ HB46.out
      have hka : k + a + 1 ≤ s.size := hlt
      have k6' : w3.cell? ⟨R, 6, none⟩ = some fs.digit := Lib.cell_of_heap H3.out.blk 6
      have c3 := all_ H3.out hka hs H3.out.ok.digit
      have hl2 := cnt_at_le digit s (k + a + 1) hka
      obtain ⟨d, hd2⟩ : ∃ d, cnt digit (at_ s (k + a + 1)) = d := ⟨_, rfl⟩
      have hd3 : cnt digit (at_ s (k + a + true.toNat)) = d := hd2
      rw [hd3] at c3
      rw [hd2] at hl2
      have HD2 := Lib.hid hd2
      have hsb : spB (at_ s k) = a + 1 + d := by rw [HSB.out, HA.out, at_drop, ← Nat.add_assoc, hd2]
      have HSB2 := Lib.hid hsb
      obtain ⟨b101, hb101⟩ : ∃ b, sees (isB 101) (at_ s (k + a + 1 + d)) = b := ⟨_, rfl⟩
      have HB101 := Lib.hid hb101
      clear hd2 hd3 hb101 hsb
      go_upto_if 33 with (first
        | ((with_reducible refine c3.mono ?_); rintro e w4 ⟨rfl, h4, g4⟩; have c4 := one_ h4 hl2 hs h4.ok.power HB101.out; have j8 : w4.cell? ⟨R, 8, none⟩ = some fs.power := Lib.cell_of_heap h4.blk 8; have H4 := Lib.hid h4; have G4 := Lib.hid g4; clear h4 g4 c3)
        | ((with_reducible refine c4.mono ?_); rintro e w5 ⟨rfl, h5, g5⟩; have H5 := Lib.hid h5; have G5 := Lib.hid g5; clear h5 g5 c4))
      cases b101 with
      | false =>
        go_wp2_with fail
        go_meet
        refine ⟨3, 167, a + 1 + d, rfl, rfl, ?_, .inl ⟨rfl, rfl⟩, ?_, gb_trans G2.out (gb_trans G3.out (gb_trans G4.out G5.out))⟩
        · have h0 := HB46.out
          have h1 := HB101.out
          rw [HSP.out, HA.out, at_drop, h0, HSB2.out, at_drop, show k + (a + 1 + d) = k + a + 1 + d by omega, h1]; rfl
        · have := H5.out
          rw [show k + (a + 1 + d) = k + a + true.toNat + d + false.toNat by simp; omega]
          exact this
      | true =>
        have hlt2 := sees_lt s _ HB101.out
        have hkb : k + a + 1 + d + 1 ≤ s.size := hlt2
        have k9 : w5.cell? ⟨R, 9, none⟩ = some fs.sign := Lib.cell_of_heap H5.out.blk 9
        obtain ⟨bs, hbs⟩ : ∃ b, sees plus (at_ s (k + a + 1 + d + 1)) = b := ⟨_, rfl⟩
        have c5 := one_ H5.out hkb hs H5.out.ok.sign hbs
        have hkc : k + a + 1 + d + 1 + bs.toNat ≤ s.size := by
          cases bs with
          | true => exact sees_lt s _ hbs
          | false => exact hkb
        have HBS := Lib.hid hbs
        clear hbs
        obtain ⟨d2, hd2⟩ : ∃ d2, cnt digit (at_ s (k + a + 1 + d + 1 + bs.toNat)) = d2 := ⟨_, rfl⟩
        have HD3 := Lib.hid hd2
        clear hd2
        go_wp2_with (first
          | ((with_reducible refine c5.mono ?_); rintro e w6 ⟨rfl, h6, g6⟩; have c6 := all_ h6 hkc hs h6.ok.digit; have j6 : w6.cell? ⟨R, 6, none⟩ = some fs.digit := Lib.cell_of_heap h6.blk 6; have H6 := Lib.hid h6; have G6 := Lib.hid g6; clear h6 g6 c5)
          | ((with_reducible refine c6.mono ?_); rintro e w7 ⟨rfl, h7, g7⟩; have H7 := Lib.hid h7; have G7 := Lib.hid g7; clear h7 g7 c6))
        go_meet
        refine ⟨3, 167, a + 1 + d + 1 + bs.toNat + d2, rfl, rfl, ?_, .inl ⟨rfl, rfl⟩, ?_, gb_trans G2.out (gb_trans G3.out (gb_trans G4.out (gb_trans G5.out (gb_trans G6.out G7.out))))⟩
        · have h0 := HB46.out
          have h1 := HB101.out
          have hsc : spC (at_ s k) = a + 1 + d + 1 + bs.toNat := by
            have h2 := HBS.out
            rw [HSC.out, HSB2.out, at_drop, show k + (a + 1 + d + 1) = k + a + 1 + d + 1 by omega, h2]
            cases bs <;> rfl
          rw [HSP.out, HA.out, at_drop, h0, HSB2.out, at_drop, show k + (a + 1 + d) = k + a + 1 + d by omega, h1, hsc, at_drop, show k + (a + 1 + d + 1 + bs.toNat) = k + a + 1 + d + 1 + bs.toNat by omega, HD3.out]; rfl
        · have h7 := H7.out
          have e : k + a + true.toNat + d + true.toNat + bs.toNat + cnt digit (at_ s (k + a + true.toNat + d + true.toNat + bs.toNat)) = k + (a + 1 + d + 1 + bs.toNat + d2) := by
            have h3 : cnt digit (at_ s (k + a + true.toNat + d + true.toNat + bs.toNat)) = d2 := HD3.out
            rw [h3]; simp; omega
          rw [← e]; exact h7
  case rest =>
    obtain ⟨kd, g, m, rfl, rfl, A1⟩ := hcut
    have G := Lib.hid A1.out.gb
    have H := Lib.hid A1.out.rd
    have hcall := A1.out.call HD.out hs HP.out
    obtain ⟨eg, hc⟩ := hcall
    have hle : k + m ≤ s.size := by
      have := span_le (at_ s k)
      rw [A1.out.sp, at_len] at this
      simp only at this; omega
    have hR := H.out.lt
    have KC0 : ∀ W' : World, Below wc.heap.size wc W' → W'.cell? ⟨R, 0, none⟩ = some (.string s) ∧ W'.cell? ⟨R, 1, none⟩ = some (.int .i64 ((k + m : Nat) : Int)) ∧ W'.cell? ⟨R, 10, none⟩ = some fs.number := fun W' hb =>
      ⟨Lib.cell_of_heap ((hb.block _ hR).trans H.out.blk) 0, Lib.cell_of_heap ((hb.block _ hR).trans H.out.blk) 1, Lib.cell_of_heap ((hb.block _ hR).trans H.out.blk) 10⟩
    have KC := Lib.hid KC0
    have hres : Lx.number (at_ s k) = if ((if kd = 3 then isReal ((at_ s k).take m) else isInt ((at_ s k).take m)) && !sees inNumber (at_ s (k + m))) = true then some (kd, m) else none := by
      unfold Lx.number
      rw [A1.out.sp, at_drop]
    obtain ⟨r1, hr1⟩ : ∃ r, (if kd = 3 then isReal ((at_ s k).take m) else isInt ((at_ s k).take m)) = r := ⟨_, rfl⟩
    obtain ⟨r2, hr2⟩ : ∃ r, sees inNumber (at_ s (k + m)) = r := ⟨_, rfl⟩
    have hsn : ∀ W' : World, Below wc.heap.size wc W' → Calls Tryz.prog 129 #[.pointer (some ⟨R, 0, none⟩), fs.number] W' fun e w' => e = .returned (.bool r2) ∧ Below W'.heap.size W' w' := fun W' hb => by
      have := sees_ (H.out.below hb) hle hs H.out.ok.number
      rwa [hr2] at this
    rw [hr1] at hc hres
    rw [hr2] at hres
    have HC := Lib.hid hc
    have HS := Lib.hid hsn
    have q1 : (0 : Int) ≤ (k : Int) := by omega
    have q2 : (k : Int) ≤ ((k + m : Nat) : Int) := by omega
    have q3 : ((k + m : Nat) : Int) ≤ (s.size : Int) := by omega
    have hsl1 : ∀ w, (Instr.slice 9 (.string s) (some (.int .i64 (k : Int))) (some (.int .i64 ((k + m : Nat) : Int))) none).run Tryz.prog w = .ok (.string (s.extract k (k + m))) w := fun w =>
      run_slice_string (P := Tryz.prog) w 9 s .i64 .i64 (k : Int) ((k + m : Nat) : Int) Tryz.underlying9 q1 q2 q3
    have hsl2 : ∀ w, (Instr.slice 9 (.string s) (some (.int .i64 (k : Int))) (some (.int .i64 ((k : Int) + (m : Int)))) none).run Tryz.prog w = .ok (.string (s.extract k (k + m))) w := fun w =>
      run_slice_string (P := Tryz.prog) w 9 s .i64 .i64 (k : Int) ((k + m : Nat) : Int) Tryz.underlying9 q1 q2 q3
    rw [HRES.out] at hres
    clear A1 HRES KC0 hc hsn hr1 hr2 HSP HSB HSC HA HB46 HD HP H3 G2 G3 hl1 k1 k6 j7 H2
    cases r1 with
    | false =>
      rw [Bool.false_and, if_neg (by simp)] at hres
      subst hres
      have cd := fun w => demand_no R (k : Int) w
      go_upto_region 9 with fail
      refine facts2_ (n := 24) (dst := dstN) (F := Fv_ (fun i => match i with | 0 => some (some (.pointer (some ⟨R, 0, none⟩))) | 1 => some (some (.func (.func g) #[] #[])) | 2 => some (some (.pointer (some ⟨R, 0, none⟩))) | 3 => some (some (.pointer (some ⟨R, 0, none⟩))) | 4 => some (some (.pointer (some ⟨R, 0, none⟩))) | 5 => some (some (.string s)) | 6 => some (some (.int .i64 (k : Int))) | 7 => some (some (.pointer (some ⟨R, 0, none⟩))) | 8 => some (some (.pointer (some ⟨R, 0, none⟩))) | 9 => some (some (.pointer (some ⟨R, 1, none⟩))) | 10 => some (some (.int .i64 ((k + m : Nat) : Int))) | 11 => some (some (.string (s.extract k (k + m)))) | 12 => some (some (.bool false)) | 13 => some (some (.bool false)) | 14 => none | 15 => none | 16 => none | 17 => none | 18 => none | 19 => none | 20 => none | 21 => some (some (.bool false)) | 22 => some (some (.int .i64 (k : Int))) | 23 => some none | _ => none)) (by kernel_rfl) (ahead_of (by kernel_rfl)) rfl dstN_inj (fun _ _ _ _ h _ => h) ?_ ?_
      · intro i op hop a W1 hM hF
        have hi : i < 24 := (Array.getElem?_eq_some_iff.1 hop).1
        match i, hi with
          | 0, _ =>
            cases hop
            refine op_ rfl rfl ?_
            have t0 : a.tmps[0]?.getD undef = .pointer (some ⟨R, 0, none⟩) := (Array.getD_eq_getD_getElem?).symm.trans ((hM.oth 0 (by intro i hi; unfold dstN; omega)).trans rfl)
            have HM := Lib.hid hM
            clear hM hF
            go_simp
            exact did_put _ (by rw [HM.out.sz]; exact (by decide : dstN 0 < 71)) (Below.refl _ _) (by rfl)
          | 1, _ =>
            cases hop
            refine op_ rfl rfl ?_
            have t5 : a.tmps[5]?.getD undef = .func (.func g) #[] #[] := (Array.getD_eq_getD_getElem?).symm.trans ((hM.oth 5 (by intro i hi; unfold dstN; omega)).trans rfl)
            have HM := Lib.hid hM
            clear hM hF
            go_simp
            exact did_put _ (by rw [HM.out.sz]; exact (by decide : dstN 1 < 71)) (Below.refl _ _) (by rfl)
          | 2, _ =>
            cases hop
            refine op_ rfl rfl ?_
            have t0 : a.tmps[0]?.getD undef = .pointer (some ⟨R, 0, none⟩) := (Array.getD_eq_getD_getElem?).symm.trans ((hM.oth 0 (by intro i hi; unfold dstN; omega)).trans rfl)
            have HM := Lib.hid hM
            clear hM hF
            go_simp
            exact did_put _ (by rw [HM.out.sz]; exact (by decide : dstN 2 < 71)) (Below.refl _ _) (by rfl)
          | 3, _ =>
            cases hop
            refine op_ rfl rfl ?_
            have t48 : a.tmps[48]?.getD undef = .pointer (some ⟨R, 0, none⟩) := (Array.getD_eq_getD_getElem?).symm.trans (hF ⟨2, .data⟩ (by simp) rfl)
            have HM := Lib.hid hM
            clear hM hF
            go_simp
            exact did_put _ (by rw [HM.out.sz]; exact (by decide : dstN 3 < 71)) (Below.refl _ _) (by rfl)
          | 4, _ =>
            cases hop
            refine op_ rfl rfl ?_
            have t49 : a.tmps[49]?.getD undef = .pointer (some ⟨R, 0, none⟩) := (Array.getD_eq_getD_getElem?).symm.trans (hF ⟨3, .data⟩ (by simp) rfl)
            have HM := Lib.hid hM
            clear hM hF
            go_simp
            exact did_put _ (by rw [HM.out.sz]; exact (by decide : dstN 4 < 71)) (Below.refl _ _) (by rfl)
          | 5, _ =>
            cases hop
            refine op_ rfl rfl ?_
            have t50 : a.tmps[50]?.getD undef = .pointer (some ⟨R, 0, none⟩) := (Array.getD_eq_getD_getElem?).symm.trans (hF ⟨4, .data⟩ (by simp) rfl)
            obtain ⟨f0, f1, f10⟩ := KC.out W1 hM.bel
            have HM := Lib.hid hM
            clear hM hF
            go_simp
            exact did_put _ (by rw [HM.out.sz]; exact (by decide : dstN 5 < 71)) (Below.refl _ _) (by rfl)
          | 6, _ =>
            cases hop
            refine op_ rfl rfl ?_
            have t3 : a.tmps[3]?.getD undef = .int .i64 (k : Int) := (Array.getD_eq_getD_getElem?).symm.trans ((hM.oth 3 (by intro i hi; unfold dstN; omega)).trans rfl)
            have HM := Lib.hid hM
            clear hM hF
            go_simp
            exact did_put _ (by rw [HM.out.sz]; exact (by decide : dstN 6 < 71)) (Below.refl _ _) (by rfl)
          | 7, _ =>
            cases hop
            refine op_ rfl rfl ?_
            have t0 : a.tmps[0]?.getD undef = .pointer (some ⟨R, 0, none⟩) := (Array.getD_eq_getD_getElem?).symm.trans ((hM.oth 0 (by intro i hi; unfold dstN; omega)).trans rfl)
            have HM := Lib.hid hM
            clear hM hF
            go_simp
            exact did_put _ (by rw [HM.out.sz]; exact (by decide : dstN 7 < 71)) (Below.refl _ _) (by rfl)
          | 8, _ =>
            cases hop
            refine op_ rfl rfl ?_
            have t53 : a.tmps[53]?.getD undef = .pointer (some ⟨R, 0, none⟩) := (Array.getD_eq_getD_getElem?).symm.trans (hF ⟨7, .data⟩ (by simp) rfl)
            have HM := Lib.hid hM
            clear hM hF
            go_simp
            exact did_put _ (by rw [HM.out.sz]; exact (by decide : dstN 8 < 71)) (Below.refl _ _) (by rfl)
          | 9, _ =>
            cases hop
            refine op_ rfl rfl ?_
            have t54 : a.tmps[54]?.getD undef = .pointer (some ⟨R, 0, none⟩) := (Array.getD_eq_getD_getElem?).symm.trans (hF ⟨8, .data⟩ (by simp) rfl)
            have HM := Lib.hid hM
            clear hM hF
            go_simp
            exact did_put _ (by rw [HM.out.sz]; exact (by decide : dstN 9 < 71)) (Below.refl _ _) (by rfl)
          | 10, _ =>
            cases hop
            refine op_ rfl rfl ?_
            have t55 : a.tmps[55]?.getD undef = .pointer (some ⟨R, 1, none⟩) := (Array.getD_eq_getD_getElem?).symm.trans (hF ⟨9, .data⟩ (by simp) rfl)
            obtain ⟨f0, f1, f10⟩ := KC.out W1 hM.bel
            have HM := Lib.hid hM
            clear hM hF
            go_simp
            exact did_put _ (by rw [HM.out.sz]; exact (by decide : dstN 10 < 71)) (Below.refl _ _) (by rfl)
          | 11, _ =>
            cases hop
            refine op_ rfl rfl ?_
            have t51 : a.tmps[51]?.getD undef = .string s := (Array.getD_eq_getD_getElem?).symm.trans (hF ⟨5, .data⟩ (by simp) rfl)
            have t52 : a.tmps[52]?.getD undef = .int .i64 (k : Int) := (Array.getD_eq_getD_getElem?).symm.trans (hF ⟨6, .data⟩ (by simp) rfl)
            have t56 : a.tmps[56]?.getD undef = .int .i64 ((k + m : Nat) : Int) := (Array.getD_eq_getD_getElem?).symm.trans (hF ⟨10, .data⟩ (by simp) rfl)
            have HM := Lib.hid hM
            clear hM hF
            go_simp
            exact did_put _ (by rw [HM.out.sz]; exact (by decide : dstN 11 < 71)) (Below.refl _ _) (by rfl)
          | 12, _ =>
            cases hop
            refine op_ rfl rfl ?_
            have t47 : a.tmps[47]?.getD undef = .func (.func g) #[] #[] := (Array.getD_eq_getD_getElem?).symm.trans (hF ⟨1, .data⟩ (by simp) rfl)
            have t57 : a.tmps[57]?.getD undef = .string (s.extract k (k + m)) := (Array.getD_eq_getD_getElem?).symm.trans (hF ⟨11, .data⟩ (by simp) rfl)
            have HM := Lib.hid hM
            have hcc := HC.out W1 hM.bel
            clear hM hF
            go_simp
            first
              | (go_at_fn g; (with_reducible refine hcc.mono ?_); rintro e W2 ⟨rfl, hb⟩; exact did_put _ (by rw [HM.out.sz]; exact (by decide : dstN 12 < 71)) hb rfl)
              | ((with_reducible refine hcc.mono ?_); rintro e W2 ⟨rfl, hb⟩; exact did_put _ (by rw [HM.out.sz]; exact (by decide : dstN 12 < 71)) hb rfl)
          | 13, _ =>
            cases hop
            refine op_ rfl rfl ?_
            have t58 : a.tmps[58]?.getD undef = .bool false := (Array.getD_eq_getD_getElem?).symm.trans (hF ⟨12, .data⟩ (by simp) rfl)
            have HM := Lib.hid hM
            clear hM hF
            go_simp
            exact did_put _ (by rw [HM.out.sz]; exact (by decide : dstN 13 < 71)) (Below.refl _ _) (by rfl)
          | 14, _ =>
            cases hop
            have tg : a.tmps[59]?.getD undef = .bool false := (Array.getD_eq_getD_getElem?).symm.trans (hF ⟨13, .guard⟩ (by simp) rfl)
            refine op_n rfl (by simp [Region.wanted, yielded, got tg]) ?_
            exact did_put _ (by rw [hM.sz]; exact (by decide : dstN 14 < 71)) (Below.refl _ _) trivial
          | 15, _ =>
            cases hop
            have tg : a.tmps[59]?.getD undef = .bool false := (Array.getD_eq_getD_getElem?).symm.trans (hF ⟨13, .guard⟩ (by simp) rfl)
            refine op_n rfl (by simp [Region.wanted, yielded, got tg]) ?_
            exact did_put _ (by rw [hM.sz]; exact (by decide : dstN 15 < 71)) (Below.refl _ _) trivial
          | 16, _ =>
            cases hop
            have tg : a.tmps[59]?.getD undef = .bool false := (Array.getD_eq_getD_getElem?).symm.trans (hF ⟨13, .guard⟩ (by simp) rfl)
            refine op_n rfl (by simp [Region.wanted, yielded, got tg]) ?_
            exact did_put _ (by rw [hM.sz]; exact (by decide : dstN 16 < 71)) (Below.refl _ _) trivial
          | 17, _ =>
            cases hop
            have tg : a.tmps[59]?.getD undef = .bool false := (Array.getD_eq_getD_getElem?).symm.trans (hF ⟨13, .guard⟩ (by simp) rfl)
            refine op_n rfl (by simp [Region.wanted, yielded, got tg]) ?_
            exact did_put _ (by rw [hM.sz]; exact (by decide : dstN 17 < 71)) (Below.refl _ _) trivial
          | 18, _ =>
            cases hop
            have tg : a.tmps[59]?.getD undef = .bool false := (Array.getD_eq_getD_getElem?).symm.trans (hF ⟨13, .guard⟩ (by simp) rfl)
            refine op_n rfl (by simp [Region.wanted, yielded, got tg]) ?_
            exact did_put _ (by rw [hM.sz]; exact (by decide : dstN 18 < 71)) (Below.refl _ _) trivial
          | 19, _ =>
            cases hop
            have tg : a.tmps[59]?.getD undef = .bool false := (Array.getD_eq_getD_getElem?).symm.trans (hF ⟨13, .guard⟩ (by simp) rfl)
            refine op_n rfl (by simp [Region.wanted, yielded, got tg]) ?_
            exact did_put _ (by rw [hM.sz]; exact (by decide : dstN 19 < 71)) (Below.refl _ _) trivial
          | 20, _ =>
            cases hop
            have tg : a.tmps[59]?.getD undef = .bool false := (Array.getD_eq_getD_getElem?).symm.trans (hF ⟨13, .guard⟩ (by simp) rfl)
            refine op_n rfl (by simp [Region.wanted, yielded, got tg]) ?_
            exact did_put _ (by rw [hM.sz]; exact (by decide : dstN 20 < 71)) (Below.refl _ _) trivial
          | 21, _ =>
            cases hop
            refine op_ rfl rfl ?_
            have t59 : a.tmps[59]?.getD undef = .bool false := (Array.getD_eq_getD_getElem?).symm.trans (hF ⟨13, .data⟩ (by simp) rfl)
            have HM := Lib.hid hM
            clear hM hF
            go_simp
            exact did_put _ (by rw [HM.out.sz]; exact (by decide : dstN 21 < 71)) (Below.refl _ _) (by rfl)
          | 22, _ =>
            cases hop
            refine op_ rfl rfl ?_
            have t3 : a.tmps[3]?.getD undef = .int .i64 (k : Int) := (Array.getD_eq_getD_getElem?).symm.trans ((hM.oth 3 (by intro i hi; unfold dstN; omega)).trans rfl)
            have HM := Lib.hid hM
            clear hM hF
            go_simp
            exact did_put _ (by rw [HM.out.sz]; exact (by decide : dstN 22 < 71)) (Below.refl _ _) (by rfl)
          | 23, _ =>
            cases hop
            refine op_ rfl rfl ?_
            have t46 : a.tmps[46]?.getD undef = .pointer (some ⟨R, 0, none⟩) := (Array.getD_eq_getD_getElem?).symm.trans (hF ⟨0, .data⟩ (by simp) rfl)
            have t67 : a.tmps[67]?.getD undef = .bool false := (Array.getD_eq_getD_getElem?).symm.trans (hF ⟨21, .data⟩ (by simp) rfl)
            have t68 : a.tmps[68]?.getD undef = .int .i64 (k : Int) := (Array.getD_eq_getD_getElem?).symm.trans (hF ⟨22, .data⟩ (by simp) rfl)
            have HM := Lib.hid hM
            clear hM hF
            go_simp
            (with_reducible refine (cd _).mono ?_)
            rintro e W2 ⟨rfl, hb⟩
            exact ⟨HM.out.d, rfl, gb_trans G.out (gb_trans (gb_below HM.out.bel) (gb_below hb))⟩
          | i + 24, h => exact absurd h (by omega)
      · intro u W1 hbel hF
        exact (show False from hF 23 (by decide)).elim
    | true =>
      cases r2 with
      | true =>
        rw [if_neg (by simp)] at hres
        subst hres
        have cd := fun w => demand_no R (k : Int) w
        go_upto_region 9 with fail
        refine facts2_ (n := 24) (dst := dstN) (F := Fv_ (fun i => match i with | 0 => some (some (.pointer (some ⟨R, 0, none⟩))) | 1 => some (some (.func (.func g) #[] #[])) | 2 => some (some (.pointer (some ⟨R, 0, none⟩))) | 3 => some (some (.pointer (some ⟨R, 0, none⟩))) | 4 => some (some (.pointer (some ⟨R, 0, none⟩))) | 5 => some (some (.string s)) | 6 => some (some (.int .i64 (k : Int))) | 7 => some (some (.pointer (some ⟨R, 0, none⟩))) | 8 => some (some (.pointer (some ⟨R, 0, none⟩))) | 9 => some (some (.pointer (some ⟨R, 1, none⟩))) | 10 => some (some (.int .i64 ((k + m : Nat) : Int))) | 11 => some (some (.string (s.extract k (k + m)))) | 12 => some (some (.bool true)) | 13 => some (some (.bool true)) | 14 => some (some (.pointer (some ⟨R, 0, none⟩))) | 15 => some (some (.pointer (some ⟨R, 0, none⟩))) | 16 => some (some (.pointer (some ⟨R, 0, none⟩))) | 17 => some (some (.pointer (some ⟨R, 10, none⟩))) | 18 => some (some (fs.number)) | 19 => some (some (.bool true)) | 20 => some (some (.bool false)) | 21 => some (some (.bool false)) | 22 => some (some (.int .i64 (k : Int))) | 23 => some none | _ => none)) (by kernel_rfl) (ahead_of (by kernel_rfl)) rfl dstN_inj (fun _ _ _ _ h _ => h) ?_ ?_
        · intro i op hop a W1 hM hF
          have hi : i < 24 := (Array.getElem?_eq_some_iff.1 hop).1
          match i, hi with
            | 0, _ =>
              cases hop
              refine op_ rfl rfl ?_
              have t0 : a.tmps[0]?.getD undef = .pointer (some ⟨R, 0, none⟩) := (Array.getD_eq_getD_getElem?).symm.trans ((hM.oth 0 (by intro i hi; unfold dstN; omega)).trans rfl)
              have HM := Lib.hid hM
              clear hM hF
              go_simp
              exact did_put _ (by rw [HM.out.sz]; exact (by decide : dstN 0 < 71)) (Below.refl _ _) (by rfl)
            | 1, _ =>
              cases hop
              refine op_ rfl rfl ?_
              have t5 : a.tmps[5]?.getD undef = .func (.func g) #[] #[] := (Array.getD_eq_getD_getElem?).symm.trans ((hM.oth 5 (by intro i hi; unfold dstN; omega)).trans rfl)
              have HM := Lib.hid hM
              clear hM hF
              go_simp
              exact did_put _ (by rw [HM.out.sz]; exact (by decide : dstN 1 < 71)) (Below.refl _ _) (by rfl)
            | 2, _ =>
              cases hop
              refine op_ rfl rfl ?_
              have t0 : a.tmps[0]?.getD undef = .pointer (some ⟨R, 0, none⟩) := (Array.getD_eq_getD_getElem?).symm.trans ((hM.oth 0 (by intro i hi; unfold dstN; omega)).trans rfl)
              have HM := Lib.hid hM
              clear hM hF
              go_simp
              exact did_put _ (by rw [HM.out.sz]; exact (by decide : dstN 2 < 71)) (Below.refl _ _) (by rfl)
            | 3, _ =>
              cases hop
              refine op_ rfl rfl ?_
              have t48 : a.tmps[48]?.getD undef = .pointer (some ⟨R, 0, none⟩) := (Array.getD_eq_getD_getElem?).symm.trans (hF ⟨2, .data⟩ (by simp) rfl)
              have HM := Lib.hid hM
              clear hM hF
              go_simp
              exact did_put _ (by rw [HM.out.sz]; exact (by decide : dstN 3 < 71)) (Below.refl _ _) (by rfl)
            | 4, _ =>
              cases hop
              refine op_ rfl rfl ?_
              have t49 : a.tmps[49]?.getD undef = .pointer (some ⟨R, 0, none⟩) := (Array.getD_eq_getD_getElem?).symm.trans (hF ⟨3, .data⟩ (by simp) rfl)
              have HM := Lib.hid hM
              clear hM hF
              go_simp
              exact did_put _ (by rw [HM.out.sz]; exact (by decide : dstN 4 < 71)) (Below.refl _ _) (by rfl)
            | 5, _ =>
              cases hop
              refine op_ rfl rfl ?_
              have t50 : a.tmps[50]?.getD undef = .pointer (some ⟨R, 0, none⟩) := (Array.getD_eq_getD_getElem?).symm.trans (hF ⟨4, .data⟩ (by simp) rfl)
              obtain ⟨f0, f1, f10⟩ := KC.out W1 hM.bel
              have HM := Lib.hid hM
              clear hM hF
              go_simp
              exact did_put _ (by rw [HM.out.sz]; exact (by decide : dstN 5 < 71)) (Below.refl _ _) (by rfl)
            | 6, _ =>
              cases hop
              refine op_ rfl rfl ?_
              have t3 : a.tmps[3]?.getD undef = .int .i64 (k : Int) := (Array.getD_eq_getD_getElem?).symm.trans ((hM.oth 3 (by intro i hi; unfold dstN; omega)).trans rfl)
              have HM := Lib.hid hM
              clear hM hF
              go_simp
              exact did_put _ (by rw [HM.out.sz]; exact (by decide : dstN 6 < 71)) (Below.refl _ _) (by rfl)
            | 7, _ =>
              cases hop
              refine op_ rfl rfl ?_
              have t0 : a.tmps[0]?.getD undef = .pointer (some ⟨R, 0, none⟩) := (Array.getD_eq_getD_getElem?).symm.trans ((hM.oth 0 (by intro i hi; unfold dstN; omega)).trans rfl)
              have HM := Lib.hid hM
              clear hM hF
              go_simp
              exact did_put _ (by rw [HM.out.sz]; exact (by decide : dstN 7 < 71)) (Below.refl _ _) (by rfl)
            | 8, _ =>
              cases hop
              refine op_ rfl rfl ?_
              have t53 : a.tmps[53]?.getD undef = .pointer (some ⟨R, 0, none⟩) := (Array.getD_eq_getD_getElem?).symm.trans (hF ⟨7, .data⟩ (by simp) rfl)
              have HM := Lib.hid hM
              clear hM hF
              go_simp
              exact did_put _ (by rw [HM.out.sz]; exact (by decide : dstN 8 < 71)) (Below.refl _ _) (by rfl)
            | 9, _ =>
              cases hop
              refine op_ rfl rfl ?_
              have t54 : a.tmps[54]?.getD undef = .pointer (some ⟨R, 0, none⟩) := (Array.getD_eq_getD_getElem?).symm.trans (hF ⟨8, .data⟩ (by simp) rfl)
              have HM := Lib.hid hM
              clear hM hF
              go_simp
              exact did_put _ (by rw [HM.out.sz]; exact (by decide : dstN 9 < 71)) (Below.refl _ _) (by rfl)
            | 10, _ =>
              cases hop
              refine op_ rfl rfl ?_
              have t55 : a.tmps[55]?.getD undef = .pointer (some ⟨R, 1, none⟩) := (Array.getD_eq_getD_getElem?).symm.trans (hF ⟨9, .data⟩ (by simp) rfl)
              obtain ⟨f0, f1, f10⟩ := KC.out W1 hM.bel
              have HM := Lib.hid hM
              clear hM hF
              go_simp
              exact did_put _ (by rw [HM.out.sz]; exact (by decide : dstN 10 < 71)) (Below.refl _ _) (by rfl)
            | 11, _ =>
              cases hop
              refine op_ rfl rfl ?_
              have t51 : a.tmps[51]?.getD undef = .string s := (Array.getD_eq_getD_getElem?).symm.trans (hF ⟨5, .data⟩ (by simp) rfl)
              have t52 : a.tmps[52]?.getD undef = .int .i64 (k : Int) := (Array.getD_eq_getD_getElem?).symm.trans (hF ⟨6, .data⟩ (by simp) rfl)
              have t56 : a.tmps[56]?.getD undef = .int .i64 ((k + m : Nat) : Int) := (Array.getD_eq_getD_getElem?).symm.trans (hF ⟨10, .data⟩ (by simp) rfl)
              have HM := Lib.hid hM
              clear hM hF
              go_simp
              exact did_put _ (by rw [HM.out.sz]; exact (by decide : dstN 11 < 71)) (Below.refl _ _) (by rfl)
            | 12, _ =>
              cases hop
              refine op_ rfl rfl ?_
              have t47 : a.tmps[47]?.getD undef = .func (.func g) #[] #[] := (Array.getD_eq_getD_getElem?).symm.trans (hF ⟨1, .data⟩ (by simp) rfl)
              have t57 : a.tmps[57]?.getD undef = .string (s.extract k (k + m)) := (Array.getD_eq_getD_getElem?).symm.trans (hF ⟨11, .data⟩ (by simp) rfl)
              have HM := Lib.hid hM
              have hcc := HC.out W1 hM.bel
              clear hM hF
              go_simp
              first
                | (go_at_fn g; (with_reducible refine hcc.mono ?_); rintro e W2 ⟨rfl, hb⟩; exact did_put _ (by rw [HM.out.sz]; exact (by decide : dstN 12 < 71)) hb rfl)
                | ((with_reducible refine hcc.mono ?_); rintro e W2 ⟨rfl, hb⟩; exact did_put _ (by rw [HM.out.sz]; exact (by decide : dstN 12 < 71)) hb rfl)
            | 13, _ =>
              cases hop
              refine op_ rfl rfl ?_
              have t58 : a.tmps[58]?.getD undef = .bool true := (Array.getD_eq_getD_getElem?).symm.trans (hF ⟨12, .data⟩ (by simp) rfl)
              have HM := Lib.hid hM
              clear hM hF
              go_simp
              exact did_put _ (by rw [HM.out.sz]; exact (by decide : dstN 13 < 71)) (Below.refl _ _) (by rfl)
            | 14, _ =>
              cases hop
              have tg : a.tmps[59]?.getD undef = .bool true := (Array.getD_eq_getD_getElem?).symm.trans (hF ⟨13, .guard⟩ (by simp) rfl)
              refine op_g rfl (by simp [Region.wanted, yielded, got tg]) ?_
              clear tg
              have t0 : a.tmps[0]?.getD undef = .pointer (some ⟨R, 0, none⟩) := (Array.getD_eq_getD_getElem?).symm.trans ((hM.oth 0 (by intro i hi; unfold dstN; omega)).trans rfl)
              have HM := Lib.hid hM
              clear hM hF
              go_simp
              exact did_put _ (by rw [HM.out.sz]; exact (by decide : dstN 14 < 71)) (Below.refl _ _) (by rfl)
            | 15, _ =>
              cases hop
              have tg : a.tmps[59]?.getD undef = .bool true := (Array.getD_eq_getD_getElem?).symm.trans (hF ⟨13, .guard⟩ (by simp) rfl)
              refine op_g rfl (by simp [Region.wanted, yielded, got tg]) ?_
              clear tg
              have t0 : a.tmps[0]?.getD undef = .pointer (some ⟨R, 0, none⟩) := (Array.getD_eq_getD_getElem?).symm.trans ((hM.oth 0 (by intro i hi; unfold dstN; omega)).trans rfl)
              have HM := Lib.hid hM
              clear hM hF
              go_simp
              exact did_put _ (by rw [HM.out.sz]; exact (by decide : dstN 15 < 71)) (Below.refl _ _) (by rfl)
            | 16, _ =>
              cases hop
              have tg : a.tmps[59]?.getD undef = .bool true := (Array.getD_eq_getD_getElem?).symm.trans (hF ⟨13, .guard⟩ (by simp) rfl)
              refine op_g rfl (by simp [Region.wanted, yielded, got tg]) ?_
              clear tg
              have t61 : a.tmps[61]?.getD undef = .pointer (some ⟨R, 0, none⟩) := (Array.getD_eq_getD_getElem?).symm.trans (hF ⟨15, .data⟩ (by simp) rfl)
              have HM := Lib.hid hM
              clear hM hF
              go_simp
              exact did_put _ (by rw [HM.out.sz]; exact (by decide : dstN 16 < 71)) (Below.refl _ _) (by rfl)
            | 17, _ =>
              cases hop
              have tg : a.tmps[59]?.getD undef = .bool true := (Array.getD_eq_getD_getElem?).symm.trans (hF ⟨13, .guard⟩ (by simp) rfl)
              refine op_g rfl (by simp [Region.wanted, yielded, got tg]) ?_
              clear tg
              have t62 : a.tmps[62]?.getD undef = .pointer (some ⟨R, 0, none⟩) := (Array.getD_eq_getD_getElem?).symm.trans (hF ⟨16, .data⟩ (by simp) rfl)
              have HM := Lib.hid hM
              clear hM hF
              go_simp
              exact did_put _ (by rw [HM.out.sz]; exact (by decide : dstN 17 < 71)) (Below.refl _ _) (by rfl)
            | 18, _ =>
              cases hop
              have tg : a.tmps[59]?.getD undef = .bool true := (Array.getD_eq_getD_getElem?).symm.trans (hF ⟨13, .guard⟩ (by simp) rfl)
              refine op_g rfl (by simp [Region.wanted, yielded, got tg]) ?_
              clear tg
              have t63 : a.tmps[63]?.getD undef = .pointer (some ⟨R, 10, none⟩) := (Array.getD_eq_getD_getElem?).symm.trans (hF ⟨17, .data⟩ (by simp) rfl)
              obtain ⟨f0, f1, f10⟩ := KC.out W1 hM.bel
              have HM := Lib.hid hM
              clear hM hF
              go_simp
              exact did_put _ (by rw [HM.out.sz]; exact (by decide : dstN 18 < 71)) (Below.refl _ _) (by rfl)
            | 19, _ =>
              cases hop
              have tg : a.tmps[59]?.getD undef = .bool true := (Array.getD_eq_getD_getElem?).symm.trans (hF ⟨13, .guard⟩ (by simp) rfl)
              refine op_g rfl (by simp [Region.wanted, yielded, got tg]) ?_
              clear tg
              have t60 : a.tmps[60]?.getD undef = .pointer (some ⟨R, 0, none⟩) := (Array.getD_eq_getD_getElem?).symm.trans (hF ⟨14, .data⟩ (by simp) rfl)
              have t64 : a.tmps[64]?.getD undef = fs.number := (Array.getD_eq_getD_getElem?).symm.trans (hF ⟨18, .data⟩ (by simp) rfl)
              have HM := Lib.hid hM
              have hcc := HS.out W1 hM.bel
              clear hM hF
              go_simp
              (with_reducible refine hcc.mono ?_)
              rintro e W2 ⟨rfl, hb⟩
              exact did_put _ (by rw [HM.out.sz]; exact (by decide : dstN 19 < 71)) hb rfl
            | 20, _ =>
              cases hop
              have tg : a.tmps[59]?.getD undef = .bool true := (Array.getD_eq_getD_getElem?).symm.trans (hF ⟨13, .guard⟩ (by simp) rfl)
              refine op_g rfl (by simp [Region.wanted, yielded, got tg]) ?_
              clear tg
              have t65 : a.tmps[65]?.getD undef = .bool true := (Array.getD_eq_getD_getElem?).symm.trans (hF ⟨19, .data⟩ (by simp) rfl)
              have HM := Lib.hid hM
              clear hM hF
              go_simp
              exact did_put _ (by rw [HM.out.sz]; exact (by decide : dstN 20 < 71)) (Below.refl _ _) (by rfl)
            | 21, _ =>
              cases hop
              refine op_ rfl rfl ?_
              have t59 : a.tmps[59]?.getD undef = .bool true := (Array.getD_eq_getD_getElem?).symm.trans (hF ⟨13, .data⟩ (by simp) rfl)
              have t66 : a.tmps[66]?.getD undef = .bool false := (Array.getD_eq_getD_getElem?).symm.trans (hF ⟨20, .data⟩ (by simp) rfl)
              have HM := Lib.hid hM
              clear hM hF
              go_simp
              exact did_put _ (by rw [HM.out.sz]; exact (by decide : dstN 21 < 71)) (Below.refl _ _) (by rfl)
            | 22, _ =>
              cases hop
              refine op_ rfl rfl ?_
              have t3 : a.tmps[3]?.getD undef = .int .i64 (k : Int) := (Array.getD_eq_getD_getElem?).symm.trans ((hM.oth 3 (by intro i hi; unfold dstN; omega)).trans rfl)
              have HM := Lib.hid hM
              clear hM hF
              go_simp
              exact did_put _ (by rw [HM.out.sz]; exact (by decide : dstN 22 < 71)) (Below.refl _ _) (by rfl)
            | 23, _ =>
              cases hop
              refine op_ rfl rfl ?_
              have t46 : a.tmps[46]?.getD undef = .pointer (some ⟨R, 0, none⟩) := (Array.getD_eq_getD_getElem?).symm.trans (hF ⟨0, .data⟩ (by simp) rfl)
              have t67 : a.tmps[67]?.getD undef = .bool false := (Array.getD_eq_getD_getElem?).symm.trans (hF ⟨21, .data⟩ (by simp) rfl)
              have t68 : a.tmps[68]?.getD undef = .int .i64 (k : Int) := (Array.getD_eq_getD_getElem?).symm.trans (hF ⟨22, .data⟩ (by simp) rfl)
              have HM := Lib.hid hM
              clear hM hF
              go_simp
              (with_reducible refine (cd _).mono ?_)
              rintro e W2 ⟨rfl, hb⟩
              exact ⟨HM.out.d, rfl, gb_trans G.out (gb_trans (gb_below HM.out.bel) (gb_below hb))⟩
            | i + 24, h => exact absurd h (by omega)
        · intro u W1 hbel hF
          exact (show False from hF 23 (by decide)).elim
      | false =>
        rw [if_pos (by simp)] at hres
        subst hres
        have cd := fun w => demand_yes R (k : Int) w
        go_upto_region 9 with fail
        refine facts2_ (n := 24) (dst := dstN) (F := Fv_ (fun i => match i with | 0 => some (some (.pointer (some ⟨R, 0, none⟩))) | 1 => some (some (.func (.func g) #[] #[])) | 2 => some (some (.pointer (some ⟨R, 0, none⟩))) | 3 => some (some (.pointer (some ⟨R, 0, none⟩))) | 4 => some (some (.pointer (some ⟨R, 0, none⟩))) | 5 => some (some (.string s)) | 6 => some (some (.int .i64 (k : Int))) | 7 => some (some (.pointer (some ⟨R, 0, none⟩))) | 8 => some (some (.pointer (some ⟨R, 0, none⟩))) | 9 => some (some (.pointer (some ⟨R, 1, none⟩))) | 10 => some (some (.int .i64 ((k + m : Nat) : Int))) | 11 => some (some (.string (s.extract k (k + m)))) | 12 => some (some (.bool true)) | 13 => some (some (.bool true)) | 14 => some (some (.pointer (some ⟨R, 0, none⟩))) | 15 => some (some (.pointer (some ⟨R, 0, none⟩))) | 16 => some (some (.pointer (some ⟨R, 0, none⟩))) | 17 => some (some (.pointer (some ⟨R, 10, none⟩))) | 18 => some (some (fs.number)) | 19 => some (some (.bool false)) | 20 => some (some (.bool true)) | 21 => some (some (.bool true)) | 22 => some (some (.int .i64 (k : Int))) | 23 => some (some (.tuple #[])) | _ => none)) (by kernel_rfl) (ahead_of (by kernel_rfl)) rfl dstN_inj (fun _ _ _ _ h _ => h) ?_ ?_
        · intro i op hop a W1 hM hF
          have hi : i < 24 := (Array.getElem?_eq_some_iff.1 hop).1
          match i, hi with
            | 0, _ =>
              cases hop
              refine op_ rfl rfl ?_
              have t0 : a.tmps[0]?.getD undef = .pointer (some ⟨R, 0, none⟩) := (Array.getD_eq_getD_getElem?).symm.trans ((hM.oth 0 (by intro i hi; unfold dstN; omega)).trans rfl)
              have HM := Lib.hid hM
              clear hM hF
              go_simp
              exact did_put _ (by rw [HM.out.sz]; exact (by decide : dstN 0 < 71)) (Below.refl _ _) (by rfl)
            | 1, _ =>
              cases hop
              refine op_ rfl rfl ?_
              have t5 : a.tmps[5]?.getD undef = .func (.func g) #[] #[] := (Array.getD_eq_getD_getElem?).symm.trans ((hM.oth 5 (by intro i hi; unfold dstN; omega)).trans rfl)
              have HM := Lib.hid hM
              clear hM hF
              go_simp
              exact did_put _ (by rw [HM.out.sz]; exact (by decide : dstN 1 < 71)) (Below.refl _ _) (by rfl)
            | 2, _ =>
              cases hop
              refine op_ rfl rfl ?_
              have t0 : a.tmps[0]?.getD undef = .pointer (some ⟨R, 0, none⟩) := (Array.getD_eq_getD_getElem?).symm.trans ((hM.oth 0 (by intro i hi; unfold dstN; omega)).trans rfl)
              have HM := Lib.hid hM
              clear hM hF
              go_simp
              exact did_put _ (by rw [HM.out.sz]; exact (by decide : dstN 2 < 71)) (Below.refl _ _) (by rfl)
            | 3, _ =>
              cases hop
              refine op_ rfl rfl ?_
              have t48 : a.tmps[48]?.getD undef = .pointer (some ⟨R, 0, none⟩) := (Array.getD_eq_getD_getElem?).symm.trans (hF ⟨2, .data⟩ (by simp) rfl)
              have HM := Lib.hid hM
              clear hM hF
              go_simp
              exact did_put _ (by rw [HM.out.sz]; exact (by decide : dstN 3 < 71)) (Below.refl _ _) (by rfl)
            | 4, _ =>
              cases hop
              refine op_ rfl rfl ?_
              have t49 : a.tmps[49]?.getD undef = .pointer (some ⟨R, 0, none⟩) := (Array.getD_eq_getD_getElem?).symm.trans (hF ⟨3, .data⟩ (by simp) rfl)
              have HM := Lib.hid hM
              clear hM hF
              go_simp
              exact did_put _ (by rw [HM.out.sz]; exact (by decide : dstN 4 < 71)) (Below.refl _ _) (by rfl)
            | 5, _ =>
              cases hop
              refine op_ rfl rfl ?_
              have t50 : a.tmps[50]?.getD undef = .pointer (some ⟨R, 0, none⟩) := (Array.getD_eq_getD_getElem?).symm.trans (hF ⟨4, .data⟩ (by simp) rfl)
              obtain ⟨f0, f1, f10⟩ := KC.out W1 hM.bel
              have HM := Lib.hid hM
              clear hM hF
              go_simp
              exact did_put _ (by rw [HM.out.sz]; exact (by decide : dstN 5 < 71)) (Below.refl _ _) (by rfl)
            | 6, _ =>
              cases hop
              refine op_ rfl rfl ?_
              have t3 : a.tmps[3]?.getD undef = .int .i64 (k : Int) := (Array.getD_eq_getD_getElem?).symm.trans ((hM.oth 3 (by intro i hi; unfold dstN; omega)).trans rfl)
              have HM := Lib.hid hM
              clear hM hF
              go_simp
              exact did_put _ (by rw [HM.out.sz]; exact (by decide : dstN 6 < 71)) (Below.refl _ _) (by rfl)
            | 7, _ =>
              cases hop
              refine op_ rfl rfl ?_
              have t0 : a.tmps[0]?.getD undef = .pointer (some ⟨R, 0, none⟩) := (Array.getD_eq_getD_getElem?).symm.trans ((hM.oth 0 (by intro i hi; unfold dstN; omega)).trans rfl)
              have HM := Lib.hid hM
              clear hM hF
              go_simp
              exact did_put _ (by rw [HM.out.sz]; exact (by decide : dstN 7 < 71)) (Below.refl _ _) (by rfl)
            | 8, _ =>
              cases hop
              refine op_ rfl rfl ?_
              have t53 : a.tmps[53]?.getD undef = .pointer (some ⟨R, 0, none⟩) := (Array.getD_eq_getD_getElem?).symm.trans (hF ⟨7, .data⟩ (by simp) rfl)
              have HM := Lib.hid hM
              clear hM hF
              go_simp
              exact did_put _ (by rw [HM.out.sz]; exact (by decide : dstN 8 < 71)) (Below.refl _ _) (by rfl)
            | 9, _ =>
              cases hop
              refine op_ rfl rfl ?_
              have t54 : a.tmps[54]?.getD undef = .pointer (some ⟨R, 0, none⟩) := (Array.getD_eq_getD_getElem?).symm.trans (hF ⟨8, .data⟩ (by simp) rfl)
              have HM := Lib.hid hM
              clear hM hF
              go_simp
              exact did_put _ (by rw [HM.out.sz]; exact (by decide : dstN 9 < 71)) (Below.refl _ _) (by rfl)
            | 10, _ =>
              cases hop
              refine op_ rfl rfl ?_
              have t55 : a.tmps[55]?.getD undef = .pointer (some ⟨R, 1, none⟩) := (Array.getD_eq_getD_getElem?).symm.trans (hF ⟨9, .data⟩ (by simp) rfl)
              obtain ⟨f0, f1, f10⟩ := KC.out W1 hM.bel
              have HM := Lib.hid hM
              clear hM hF
              go_simp
              exact did_put _ (by rw [HM.out.sz]; exact (by decide : dstN 10 < 71)) (Below.refl _ _) (by rfl)
            | 11, _ =>
              cases hop
              refine op_ rfl rfl ?_
              have t51 : a.tmps[51]?.getD undef = .string s := (Array.getD_eq_getD_getElem?).symm.trans (hF ⟨5, .data⟩ (by simp) rfl)
              have t52 : a.tmps[52]?.getD undef = .int .i64 (k : Int) := (Array.getD_eq_getD_getElem?).symm.trans (hF ⟨6, .data⟩ (by simp) rfl)
              have t56 : a.tmps[56]?.getD undef = .int .i64 ((k + m : Nat) : Int) := (Array.getD_eq_getD_getElem?).symm.trans (hF ⟨10, .data⟩ (by simp) rfl)
              have HM := Lib.hid hM
              clear hM hF
              go_simp
              exact did_put _ (by rw [HM.out.sz]; exact (by decide : dstN 11 < 71)) (Below.refl _ _) (by rfl)
            | 12, _ =>
              cases hop
              refine op_ rfl rfl ?_
              have t47 : a.tmps[47]?.getD undef = .func (.func g) #[] #[] := (Array.getD_eq_getD_getElem?).symm.trans (hF ⟨1, .data⟩ (by simp) rfl)
              have t57 : a.tmps[57]?.getD undef = .string (s.extract k (k + m)) := (Array.getD_eq_getD_getElem?).symm.trans (hF ⟨11, .data⟩ (by simp) rfl)
              have HM := Lib.hid hM
              have hcc := HC.out W1 hM.bel
              clear hM hF
              go_simp
              first
                | (go_at_fn g; (with_reducible refine hcc.mono ?_); rintro e W2 ⟨rfl, hb⟩; exact did_put _ (by rw [HM.out.sz]; exact (by decide : dstN 12 < 71)) hb rfl)
                | ((with_reducible refine hcc.mono ?_); rintro e W2 ⟨rfl, hb⟩; exact did_put _ (by rw [HM.out.sz]; exact (by decide : dstN 12 < 71)) hb rfl)
            | 13, _ =>
              cases hop
              refine op_ rfl rfl ?_
              have t58 : a.tmps[58]?.getD undef = .bool true := (Array.getD_eq_getD_getElem?).symm.trans (hF ⟨12, .data⟩ (by simp) rfl)
              have HM := Lib.hid hM
              clear hM hF
              go_simp
              exact did_put _ (by rw [HM.out.sz]; exact (by decide : dstN 13 < 71)) (Below.refl _ _) (by rfl)
            | 14, _ =>
              cases hop
              have tg : a.tmps[59]?.getD undef = .bool true := (Array.getD_eq_getD_getElem?).symm.trans (hF ⟨13, .guard⟩ (by simp) rfl)
              refine op_g rfl (by simp [Region.wanted, yielded, got tg]) ?_
              clear tg
              have t0 : a.tmps[0]?.getD undef = .pointer (some ⟨R, 0, none⟩) := (Array.getD_eq_getD_getElem?).symm.trans ((hM.oth 0 (by intro i hi; unfold dstN; omega)).trans rfl)
              have HM := Lib.hid hM
              clear hM hF
              go_simp
              exact did_put _ (by rw [HM.out.sz]; exact (by decide : dstN 14 < 71)) (Below.refl _ _) (by rfl)
            | 15, _ =>
              cases hop
              have tg : a.tmps[59]?.getD undef = .bool true := (Array.getD_eq_getD_getElem?).symm.trans (hF ⟨13, .guard⟩ (by simp) rfl)
              refine op_g rfl (by simp [Region.wanted, yielded, got tg]) ?_
              clear tg
              have t0 : a.tmps[0]?.getD undef = .pointer (some ⟨R, 0, none⟩) := (Array.getD_eq_getD_getElem?).symm.trans ((hM.oth 0 (by intro i hi; unfold dstN; omega)).trans rfl)
              have HM := Lib.hid hM
              clear hM hF
              go_simp
              exact did_put _ (by rw [HM.out.sz]; exact (by decide : dstN 15 < 71)) (Below.refl _ _) (by rfl)
            | 16, _ =>
              cases hop
              have tg : a.tmps[59]?.getD undef = .bool true := (Array.getD_eq_getD_getElem?).symm.trans (hF ⟨13, .guard⟩ (by simp) rfl)
              refine op_g rfl (by simp [Region.wanted, yielded, got tg]) ?_
              clear tg
              have t61 : a.tmps[61]?.getD undef = .pointer (some ⟨R, 0, none⟩) := (Array.getD_eq_getD_getElem?).symm.trans (hF ⟨15, .data⟩ (by simp) rfl)
              have HM := Lib.hid hM
              clear hM hF
              go_simp
              exact did_put _ (by rw [HM.out.sz]; exact (by decide : dstN 16 < 71)) (Below.refl _ _) (by rfl)
            | 17, _ =>
              cases hop
              have tg : a.tmps[59]?.getD undef = .bool true := (Array.getD_eq_getD_getElem?).symm.trans (hF ⟨13, .guard⟩ (by simp) rfl)
              refine op_g rfl (by simp [Region.wanted, yielded, got tg]) ?_
              clear tg
              have t62 : a.tmps[62]?.getD undef = .pointer (some ⟨R, 0, none⟩) := (Array.getD_eq_getD_getElem?).symm.trans (hF ⟨16, .data⟩ (by simp) rfl)
              have HM := Lib.hid hM
              clear hM hF
              go_simp
              exact did_put _ (by rw [HM.out.sz]; exact (by decide : dstN 17 < 71)) (Below.refl _ _) (by rfl)
            | 18, _ =>
              cases hop
              have tg : a.tmps[59]?.getD undef = .bool true := (Array.getD_eq_getD_getElem?).symm.trans (hF ⟨13, .guard⟩ (by simp) rfl)
              refine op_g rfl (by simp [Region.wanted, yielded, got tg]) ?_
              clear tg
              have t63 : a.tmps[63]?.getD undef = .pointer (some ⟨R, 10, none⟩) := (Array.getD_eq_getD_getElem?).symm.trans (hF ⟨17, .data⟩ (by simp) rfl)
              obtain ⟨f0, f1, f10⟩ := KC.out W1 hM.bel
              have HM := Lib.hid hM
              clear hM hF
              go_simp
              exact did_put _ (by rw [HM.out.sz]; exact (by decide : dstN 18 < 71)) (Below.refl _ _) (by rfl)
            | 19, _ =>
              cases hop
              have tg : a.tmps[59]?.getD undef = .bool true := (Array.getD_eq_getD_getElem?).symm.trans (hF ⟨13, .guard⟩ (by simp) rfl)
              refine op_g rfl (by simp [Region.wanted, yielded, got tg]) ?_
              clear tg
              have t60 : a.tmps[60]?.getD undef = .pointer (some ⟨R, 0, none⟩) := (Array.getD_eq_getD_getElem?).symm.trans (hF ⟨14, .data⟩ (by simp) rfl)
              have t64 : a.tmps[64]?.getD undef = fs.number := (Array.getD_eq_getD_getElem?).symm.trans (hF ⟨18, .data⟩ (by simp) rfl)
              have HM := Lib.hid hM
              have hcc := HS.out W1 hM.bel
              clear hM hF
              go_simp
              (with_reducible refine hcc.mono ?_)
              rintro e W2 ⟨rfl, hb⟩
              exact did_put _ (by rw [HM.out.sz]; exact (by decide : dstN 19 < 71)) hb rfl
            | 20, _ =>
              cases hop
              have tg : a.tmps[59]?.getD undef = .bool true := (Array.getD_eq_getD_getElem?).symm.trans (hF ⟨13, .guard⟩ (by simp) rfl)
              refine op_g rfl (by simp [Region.wanted, yielded, got tg]) ?_
              clear tg
              have t65 : a.tmps[65]?.getD undef = .bool false := (Array.getD_eq_getD_getElem?).symm.trans (hF ⟨19, .data⟩ (by simp) rfl)
              have HM := Lib.hid hM
              clear hM hF
              go_simp
              exact did_put _ (by rw [HM.out.sz]; exact (by decide : dstN 20 < 71)) (Below.refl _ _) (by rfl)
            | 21, _ =>
              cases hop
              refine op_ rfl rfl ?_
              have t59 : a.tmps[59]?.getD undef = .bool true := (Array.getD_eq_getD_getElem?).symm.trans (hF ⟨13, .data⟩ (by simp) rfl)
              have t66 : a.tmps[66]?.getD undef = .bool true := (Array.getD_eq_getD_getElem?).symm.trans (hF ⟨20, .data⟩ (by simp) rfl)
              have HM := Lib.hid hM
              clear hM hF
              go_simp
              exact did_put _ (by rw [HM.out.sz]; exact (by decide : dstN 21 < 71)) (Below.refl _ _) (by rfl)
            | 22, _ =>
              cases hop
              refine op_ rfl rfl ?_
              have t3 : a.tmps[3]?.getD undef = .int .i64 (k : Int) := (Array.getD_eq_getD_getElem?).symm.trans ((hM.oth 3 (by intro i hi; unfold dstN; omega)).trans rfl)
              have HM := Lib.hid hM
              clear hM hF
              go_simp
              exact did_put _ (by rw [HM.out.sz]; exact (by decide : dstN 22 < 71)) (Below.refl _ _) (by rfl)
            | 23, _ =>
              cases hop
              refine op_ rfl rfl ?_
              have t46 : a.tmps[46]?.getD undef = .pointer (some ⟨R, 0, none⟩) := (Array.getD_eq_getD_getElem?).symm.trans (hF ⟨0, .data⟩ (by simp) rfl)
              have t67 : a.tmps[67]?.getD undef = .bool true := (Array.getD_eq_getD_getElem?).symm.trans (hF ⟨21, .data⟩ (by simp) rfl)
              have t68 : a.tmps[68]?.getD undef = .int .i64 (k : Int) := (Array.getD_eq_getD_getElem?).symm.trans (hF ⟨22, .data⟩ (by simp) rfl)
              have HM := Lib.hid hM
              clear hM hF
              go_simp
              (with_reducible refine (cd _).mono ?_)
              rintro e W2 ⟨rfl, rfl⟩
              exact did_put _ (by rw [HM.out.sz]; exact (by decide : dstN 23 < 71)) (Below.refl _ _) rfl
            | i + 24, h => exact absurd h (by omega)
        · intro u W1 hbel hF
          clear hF
          have HB := Lib.hid hbel
          clear hbel
          simp only [putAll, dstN]
          go_simp
          go_wp2_with fail
          go_ret
          exact ⟨rfl, H.out.below HB.out, gb_trans G.out (gb_below HB.out)⟩
end LxC
end Go.Proofs.YtnlbhnmiekanfaaGreatDoor
