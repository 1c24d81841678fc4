/-
  Which texts are reals': what stands behind the digits. Condition: the text is one that memory holds.
-/
import Derived.Test.YtnlbhnmiekanfaaGreatDoorLexR
namespace Go.Proofs.YtnlbhnmiekanfaaGreatDoor
open Go.RowKit
set_option linter.unusedVariables false
set_option linter.unusedSimpArgs false
namespace LxC
open Lx
theorem nil_of (s : ByteArray) (h : s.size = 0) : s = ⟨#[]⟩ := by
  obtain ⟨⟨l⟩⟩ := s
  cases l with
  | nil => rfl
  | cons a l => simp [ByteArray.size] at h
theorem not_nil (s : ByteArray) (h : 0 < s.size) : s.toList.isEmpty = false ∧ ¬ s.toList = [] := by
  have h2 : ¬ s.toList = [] := by
    rw [ByteArray.toList_eq]
    intro e
    have : s.data.toList.length = 0 := by rw [e]; rfl
    have hz : s.size = s.data.toList.length := by simp
    omega
  exact ⟨by rw [List.isEmpty_eq_false_iff]; exact h2, h2⟩
theorem at0 (s : ByteArray) : at_ s 0 = s.data.toList := rfl
def rest (t : List UInt8) : List UInt8 := if sees plus t then t.drop 1 else t
def tailR (e : Bool) (t : List UInt8) : Bool := e && (!(rest t).isEmpty && cnt digit (rest t) == (rest t).length)
theorem isTail_r (l : List UInt8) (h : l ≠ []) : isTail l = tailR (sees (isB 101) l) (if sees (isB 101) l then l.drop 1 else l) := by
  unfold isTail tailR rest
  rw [show l.isEmpty = false by rw [List.isEmpty_eq_false_iff]; exact h, Bool.false_or]
  cases h1 : sees (isB 101) l with
  | true => rw [if_pos rfl, List.drop_drop]
  | false => rfl
theorem empty_no (s : ByteArray) (h : 0 < s.size) : s.data.toList.isEmpty = false := by
  have := (not_nil s h).1
  rwa [ByteArray.toList_eq] at this
theorem cnt_size (s : ByteArray) : (cnt digit s.data.toList == s.data.toList.length) = (((cnt digit s.data.toList : Nat) : Int) == (s.size : Int)) := by
  have hz : s.size = s.data.toList.length := by simp
  rw [hz, Bool.eq_iff_iff]; simp; omega
set_option maxRecDepth 100000 in
set_option maxHeartbeats 8000000 in
theorem isTail_ (s : ByteArray) (w : World) (hs : s.size ≤ 100000) : Calls Tryz.prog 245 #[.string s] w fun e w' => e = .returned (.bool (isTail s.data.toList)) ∧ w = w' := by
  by_cases h0 : s.size = 0
  · obtain rfl := nil_of s h0
    clear h0 hs
    go_enter Tryz.func245, Tryz.ntmps245
    go_wp2
    go_ret
    exact ⟨rfl, rfl⟩
  · obtain ⟨n1, n2⟩ := not_nil s (by omega)
    have hne : s.data.toList ≠ [] := by rw [ByteArray.toList_eq] at n2; exact n2
    rw [isTail_r _ hne]
    have cc := fun w => Tryz.strings_CutPrefix s ⟨#[101]⟩ w
    have hlen : ((if sees (isB 101) s.data.toList then s.data.toList.drop 1 else s.data.toList)).length ≤ 100000 := by
      have hz : s.size = s.data.toList.length := by simp
      split
      · rw [List.length_drop]; omega
      · omega
    rw [show (ByteArray.mk #[101]).data.toList = [101] from rfl, trim1, prefix1] at cc
    generalize sees (isB 101) s.data.toList = e at *
    generalize (if e then s.data.toList.drop 1 else s.data.toList) = l at *
    obtain ⟨t, ht⟩ : ∃ t : ByteArray, t = ⟨l.toArray⟩ := ⟨_, rfl⟩
    have hl : l = t.data.toList := by rw [ht]
    rw [← ht] at cc
    rw [hl]
    have hts : t.size ≤ 100000 := by rw [ht]; exact hlen
    clear ht hl hlen h0 hne
    by_cases ht0 : t.size = 0
    · obtain rfl := nil_of t ht0
      clear ht0 hts
      have A1 : Aside (tailR e (ByteArray.mk #[]).data.toList = false) := by show tailR e [] = false; unfold tailR rest; simp [sees]
      cases e
      all_goals
        go_enter Tryz.func245, Tryz.ntmps245
        go_wp2_with (go_at_call 244; (with_reducible refine (cc _).mono ?_); rintro e w' ⟨rfl, rfl⟩)
        go_ret
        exact ⟨ret_bool A1.out.symm, rfl⟩
    · obtain ⟨m1, m2⟩ := not_nil t (by omega)
      have ht1 : 0 < t.size := by omega
      have hb := u8_bd t[0]
      have A0 : Aside (sees plus t.data.toList = (((t[0].toNat : Int) == 43) || ((t[0].toNat : Int) == 45))) := by
        have := sees_at (p := plus) t 0 ht1
        rw [at0] at this
        show _ = _
        rw [this]
        unfold plus
        rw [Bool.eq_iff_iff]
        simp [← UInt8.toNat_inj]
        omega
      cases hp : sees plus t.data.toList with
      | true =>
        have hx : ((t[0].toNat : Int) == 43) = true ∨ (((t[0].toNat : Int) == 43) = false ∧ ((t[0].toNat : Int) == 45) = true) := by
          have := A0.out; rw [hp] at this
          cases h43 : ((t[0].toNat : Int) == 43) with
          | true => exact .inl rfl
          | false => rw [h43, Bool.false_or] at this; exact .inr ⟨rfl, this.symm⟩
        have hrest : rest t.data.toList = (t.extract 1 t.size).data.toList := by
          unfold rest
          rw [if_pos hp, extract_list, List.take_of_length_le (by rw [at_len]; exact Nat.le_refl _)]
          rfl
        have hqs : (t.extract 1 t.size).size = t.size - 1 := by rw [ByteArray.size_extract]; omega
        have cd := fun w => countDigits_ (t.extract 1 t.size) w (by omega)
        have HQS := Lib.hid hqs
        have A2 : Aside (tailR e t.data.toList = (e && (!(t.extract 1 t.size).data.toList.isEmpty && cnt digit (t.extract 1 t.size).data.toList == (t.extract 1 t.size).data.toList.length))) := by
          show _ = _
          unfold tailR; rw [hrest]
        clear hrest A0 hp
        cases e with
        | false =>
          have A3 : Aside (tailR false t.data.toList = false) := rfl
          clear A2 cd
          rcases hx with h43 | ⟨h43, h45⟩
          all_goals
            go_enter Tryz.func245, Tryz.ntmps245
            go_wp2_with (first
              | (go_at_call 244; (with_reducible refine (cc _).mono ?_); rintro e w' ⟨rfl, rfl⟩)
              | fail)
            go_ret
            exact ⟨ret_bool (A3.out.symm), rfl⟩
        | true =>
          by_cases hq0 : t.size ≤ 1
          · have e0 : t.extract 1 t.size = ⟨#[]⟩ := nil_of _ (by rw [HQS.out]; omega)
            have A3 : Aside (tailR true t.data.toList = false) := by show _ = _; rw [A2.out, e0]; rfl
            clear cd HQS A2 hqs
            rcases hx with h43 | ⟨h43, h45⟩
            all_goals
              go_enter Tryz.func245, Tryz.ntmps245
              go_wp2_with (first
                | (go_at_call 244; (with_reducible refine (cc _).mono ?_); rintro e w' ⟨rfl, rfl⟩)
                | fail)
              go_ret
              exact ⟨ret_bool (A3.out.symm), rfl⟩
          · have hqp : 0 < (t.extract 1 t.size).size := by rw [HQS.out]; omega
            clear hqs
            rcases hx with h43 | ⟨h43, h45⟩
            all_goals
              obtain ⟨p1, p2⟩ := not_nil (t.extract 1 t.size) (by omega)
              have A4 : Aside ((t.extract 1 t.size).data.toList.isEmpty = false) := empty_no _ (by omega)
              rw [at0] at cd
              have A5 : Aside ((cnt digit (t.extract 1 t.size).data.toList == (t.extract 1 t.size).data.toList.length) = (((cnt digit (t.extract 1 t.size).data.toList : Nat) : Int) == ((t.extract 1 t.size).size : Int))) := cnt_size _
              obtain ⟨r, hr⟩ : ∃ r, (((cnt digit (t.extract 1 t.size).data.toList : Nat) : Int) == ((t.extract 1 t.size).size : Int)) = r := ⟨_, rfl⟩
              have A6 : Aside (tailR true t.data.toList = r) := by
                show _ = _
                rw [A2.out, A4.out, A5.out, hr]; simp
              have A7 : Aside ((((cnt digit (t.extract 1 t.size).data.toList : Nat) : Int) == ((t.extract 1 t.size).size : Int)) = r) := hr
              clear A4 A5 A2 hr
              cases r
              all_goals
                go_enter Tryz.func245, Tryz.ntmps245
                go_wp2_with (first
                  | (go_at_call 244; (with_reducible refine (cc _).mono ?_); rintro e w' ⟨rfl, rfl⟩)
                  | (go_at_call 243; (with_reducible refine (cd _).mono ?_); rintro e w' ⟨rfl, rfl⟩))
                go_ret
                exact ⟨ret_bool (by rw [A6.out]; first | rfl | (have h7 := A7.out; simpa using h7)), rfl⟩
      | false =>
        have hx : ((t[0].toNat : Int) == 43) = false ∧ ((t[0].toNat : Int) == 45) = false := by
          have := A0.out; rw [hp] at this
          cases h43 : ((t[0].toNat : Int) == 43) with
          | true => rw [h43, Bool.true_or] at this; cases this
          | false => rw [h43, Bool.false_or] at this; exact ⟨rfl, this.symm⟩
        obtain ⟨h43, h45⟩ := hx
        have cd := fun w => countDigits_ t w hts
        have A2 : Aside (tailR e t.data.toList = (e && (!t.data.toList.isEmpty && cnt digit t.data.toList == t.data.toList.length))) := by
          show _ = _
          unfold tailR rest; rw [hp]; rfl
        clear A0 hp
        cases e with
        | false =>
          have A3 : Aside (tailR false t.data.toList = false) := rfl
          clear A2 cd
          go_enter Tryz.func245, Tryz.ntmps245
          go_wp2_with (first
            | (go_at_call 244; (with_reducible refine (cc _).mono ?_); rintro e w' ⟨rfl, rfl⟩)
            | fail)
          go_ret
          exact ⟨ret_bool (A3.out.symm), rfl⟩
        | true =>
          obtain ⟨p1, p2⟩ := not_nil t (by omega)
          have A4 : Aside (t.data.toList.isEmpty = false) := empty_no _ (by omega)
          rw [at0] at cd
          have A5 : Aside ((cnt digit t.data.toList == t.data.toList.length) = (((cnt digit t.data.toList : Nat) : Int) == (t.size : Int))) := cnt_size _
          obtain ⟨r, hr⟩ : ∃ r, (((cnt digit t.data.toList : Nat) : Int) == (t.size : Int)) = r := ⟨_, rfl⟩
          have A6 : Aside (tailR true t.data.toList = r) := by
            show _ = _
            rw [A2.out, A4.out, A5.out, hr]; simp
          have A7 : Aside ((((cnt digit t.data.toList : Nat) : Int) == (t.size : Int)) = r) := hr
          clear A4 A5 A2 hr
          cases r
          all_goals
            go_enter Tryz.func245, Tryz.ntmps245
            go_wp2_with (first
              | (go_at_call 244; (with_reducible refine (cc _).mono ?_); rintro e w' ⟨rfl, rfl⟩)
              | (go_at_call 243; (with_reducible refine (cd _).mono ?_); rintro e w' ⟨rfl, rfl⟩))
            go_ret
            exact ⟨ret_bool (by rw [A6.out]; first | rfl | (have h7 := A7.out; simpa using h7)), rfl⟩
end LxC
end Go.Proofs.YtnlbhnmiekanfaaGreatDoor
