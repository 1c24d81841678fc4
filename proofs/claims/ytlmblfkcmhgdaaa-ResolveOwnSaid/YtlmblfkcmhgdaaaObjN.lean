/-
  A symbol's name: the program's Name and the document's answer the same of every string: what OM.nameB says. No condition but that the string is one that memory holds.
-/
import Derived.Test.YtlmblfkcmhgdaaaProg
import Derived.Test.YtlmblfkcmhgdaaaObjM
import Derived.WalkKit
import Derived.Lib.Hide
namespace Go.Proofs.Ytlmblfkcmhgdaaa
open Go.RowKit
set_option linter.unusedVariables false
set_option linter.unusedSimpArgs false
namespace ON
open OM
theorem ret_bool {a b : Bool} (h : a = b) : Ending.returned (.bool a) = .returned (.bool b) := by rw [h]
set_option maxRecDepth 100000 in
set_option maxHeartbeats 1000000 in
theorem digit_ (x : Int) (h0 : 0 ≤ x) (h1 : x ≤ 255) (w : World) :
    Calls Try.prog 27 #[.int .u8 x] w fun e w' => e = .returned (.bool (digI x)) ∧ w = w' := by
  go_enter Try.func27, Try.ntmps27
  go_wp2
  all_goals
    go_ret
    exact ⟨ret_bool (by rw [Bool.eq_iff_iff]; unfold digI; simp; try omega), rfl⟩
set_option maxRecDepth 100000 in
set_option maxHeartbeats 4000000 in
theorem okc_ (x : Int) (h0 : 0 ≤ x) (h1 : x ≤ 255) (w : World) :
    Calls Try.prog 28 #[.int .u8 x] w fun e w' => e = .returned (.bool (okI x)) ∧ w = w' := by
  go_enter Try.func28, Try.ntmps28
  go_wp2
  all_goals
    go_ret
    exact ⟨ret_bool (by rw [Bool.eq_iff_iff, okI_iff]; simp; try omega), rfl⟩
theorem byte_bd (s : ByteArray) (k : Nat) (h : k < s.size) : 0 ≤ (s[k].toNat : Int) ∧ (s[k].toNat : Int) ≤ 255 := by
  have := s[k].toNat_lt
  omega
theorem not_nil (s : ByteArray) (h : 0 < s.size) : s.toList.isEmpty = false ∧ ¬ s.toList = [] := by
  have h2 : ¬ s.toList = [] := by
    rw [ByteArray.toList_eq]
    intro e
    have : s.data.toList.length = 0 := by rw [e]; rfl
    have hz : s.size = s.data.toList.length := by simp
    omega
  exact ⟨by rw [List.isEmpty_eq_false_iff]; exact h2, h2⟩
def DigAt (s : ByteArray) : Prop := ∃ h : 0 < s.size, digI (s[0].toNat) = true
set_option maxRecDepth 100000 in
set_option maxHeartbeats 4000000 in
theorem name_short (s : ByteArray) (w : World) (h : s.size < 1) : Calls Try.prog 24 #[.string s] w fun e w' => e = .returned (.bool false) ∧ w = w' := by
  obtain rfl : s = ⟨#[]⟩ := by
    obtain ⟨⟨l⟩⟩ := s
    cases l with
    | nil => rfl
    | cons a l => exact absurd h (by show ¬ (a :: l).length < 1; simp)
  go_enter Try.func24, Try.ntmps24
  go_wp2
  go_ret
  exact ⟨rfl, rfl⟩
set_option maxRecDepth 100000 in
set_option maxHeartbeats 4000000 in
theorem name_long (s : ByteArray) (w : World) (hs : s.size ≤ maxLen) (h : 40 < s.size) : Calls Try.prog 24 #[.string s] w fun e w' => e = .returned (.bool false) ∧ w = w' := by
  unfold maxLen at hs
  have h1 : 0 < s.size := by omega
  have b := byte_bd s 0 h1
  go_enter Try.func24, Try.ntmps24
  go_wp2
  all_goals
    go_ret
    exact ⟨rfl, rfl⟩
set_option maxRecDepth 100000 in
set_option maxHeartbeats 4000000 in
theorem name_dig (s : ByteArray) (w : World) (h1 : 0 < s.size) (h2 : s.size ≤ 40) (hd : digI (s[0].toNat) = true) : Calls Try.prog 24 #[.string s] w fun e w' => e = .returned (.bool false) ∧ w = w' := by
  have b := byte_bd s 0 h1
  have c := digit_ (s[0].toNat) b.1 b.2
  obtain ⟨n1, n2⟩ := not_nil s h1
  rw [hd] at c
  clear hd
  go_enter Try.func24, Try.ntmps24
  go_wp2_with (go_at_call 27; (with_reducible refine (c _).mono ?_); rintro e w1 ⟨rfl, rfl⟩)
  all_goals
    go_ret
    exact ⟨rfl, rfl⟩
set_option maxRecDepth 100000 in
set_option maxHeartbeats 4000000 in
theorem name_loop (s : ByteArray) (w : World) (h1 : 0 < s.size) (h2 : s.size ≤ 40) (hd : digI (s[0].toNat) = false) : Calls Try.prog 24 #[.string s] w fun e w' => e = .returned (.bool (okFrom s 0)) ∧ w = w' := by
  have b := byte_bd s 0 h1
  have c := digit_ (s[0].toNat) b.1 b.2
  obtain ⟨n1, n2⟩ := not_nil s h1
  rw [hd] at c
  clear hd
  go_enter Try.func24, Try.ntmps24
  go_wp2_with (go_at_call 27; (with_reducible refine (c _).mono ?_); rintro e w1 ⟨rfl, rfl⟩)
  go_loop [18] (fun i => ∃ k : Nat, k ≤ s.size ∧ i = .int .i64 k ∧ okFrom s 0 = okFrom s k) (fun i => s.size - (intOf i).toNat)
  case atStart => exact ⟨0, Nat.zero_le _, rfl, rfl⟩
  case round =>
    obtain ⟨k, hk, rfl, hq⟩ := hrel
    have HQ := Lib.hid hq
    clear hq
    by_cases hlt : k < s.size
    · have hb := byte_bd s k hlt
      have hc := okc_ (s[k].toNat) hb.1 hb.2
      have HS := Lib.hid (okFrom_step s k hlt)
      cases ho : okI (s[k].toNat : Int) with
      | false =>
        rw [ho] at hc
        have HO := Lib.hid ho
        clear ho
        go_wp2_with (go_at_call 28; (with_reducible refine (hc _).mono ?_); rintro e w1 ⟨rfl, rfl⟩)
        go_ret
        exact ⟨ret_bool (by rw [HQ.out, HS.out, HO.out]; rfl), rfl⟩
      | true =>
        rw [ho] at hc
        have HO := Lib.hid ho
        clear ho
        go_wp2_with (go_at_call 28; (with_reducible refine (hc _).mono ?_); rintro e w1 ⟨rfl, rfl⟩)
        go_round
        case rel => exact ⟨k + 1, by omega, by go_num, by rw [HQ.out, HS.out, HO.out]; rfl⟩
        case measure => simp [intOf]; omega
    · obtain rfl : k = s.size := by omega
      go_wp2
      go_ret
      exact ⟨ret_bool (by rw [HQ.out]; exact (okFrom_end s).symm), rfl⟩
theorem name_ (s : ByteArray) (w : World) (hs : s.size ≤ maxLen) : Calls Try.prog 24 #[.string s] w fun e w' => e = .returned (.bool (nameB s)) ∧ w = w' := by
  by_cases h1 : s.size < 1
  · rw [nameB_no_size (.inl h1)]; exact name_short s w h1
  · by_cases h2 : 40 < s.size
    · rw [nameB_no_size (.inr h2)]; exact name_long s w hs h2
    · rw [nameB_mid (by omega) (by omega)]
      cases hd : digI (s[0].toNat) with
      | true => exact name_dig s w (by omega) (by omega) hd
      | false => exact name_loop s w (by omega) (by omega) hd
end ON
end Go.Proofs.Ytlmblfkcmhgdaaa
