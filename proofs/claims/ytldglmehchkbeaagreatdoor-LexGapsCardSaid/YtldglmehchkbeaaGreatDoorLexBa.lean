/-
  The shape of a real's text, and what readFloat makes of it, plainly. No program, no condition.
-/
import Derived.Test.YtldglmehchkbeaaGreatDoorLexAd
namespace Go.Proofs.YtldglmehchkbeaaGreatDoor
set_option linter.unusedVariables false
set_option linter.unusedSimpArgs false
namespace Lx
/-- a real's text: digits up to a, a point, digits up to b; then nothing, or e and digits from c on -/
structure RealT (s : ByteArray) (a b : Nat) : Prop where
  a0 : 0 < a
  ab : a + 1 < b
  bs : b ≤ s.size
  s40 : s.size ≤ 40
  one : ∀ k (h : k < s.size), k < a → digit s[k] = true
  point : ∀ h : a < s.size, s[a].toNat = 46
  two : ∀ k (h : k < s.size), a < k → k < b → digit s[k] = true
  tail : b = s.size ∨ (∃ h : b < s.size, s[b].toNat = 101) ∧ ∃ c, b < c ∧ c < s.size ∧ (c = b + 1 ∨ c = b + 2 ∧ ∃ h : b + 1 < s.size, s[b + 1].toNat = 43 ∨ s[b + 1].toNat = 45) ∧ ∀ k (h : k < s.size), c ≤ k → digit s[k] = true
theorem cnt_run {p : UInt8 → Bool} (s : ByteArray) : ∀ (n i : Nat), s.size - i ≤ n → ∀ k (h : k < s.size), i ≤ k → k < i + cnt p (at_ s i) → p s[k] = true := by
  intro n
  induction n with
  | zero => intro i hi k h h1 h2; omega
  | succ n ih =>
    intro i hi k h h1 h2
    have hlt : i < s.size := by omega
    cases hp : p s[i] with
    | false => rw [cnt_at_no s i hlt hp] at h2; omega
    | true =>
      rw [cnt_at_yes s i hlt hp] at h2
      by_cases hki : k = i
      · subst hki; exact hp
      · exact ih (i + 1) (by omega) k h (by omega) (by omega)
theorem sees_val {c : UInt8} {s : ByteArray} {k : Nat} (h : sees (isB c) (at_ s k) = true) : ∃ hk : k < s.size, s[k].toNat = c.toNat := by
  have hk := sees_lt s k h
  rw [sees_at s k hk] at h
  exact ⟨hk, by rw [eq_of_beq h]⟩
theorem realT {s : ByteArray} (h : isReal s.data.toList = true) : ∃ a b, RealT s a b := by
  unfold isReal at h
  rw [show s.data.toList = at_ s 0 from rfl] at h
  simp only [Bool.and_eq_true, decide_eq_true_eq, at_drop, Nat.zero_add] at h
  obtain ⟨h1, h2, h3, h4, h5⟩ := h
  have hsz : (at_ s 0).length = s.size := by rw [at_len]; omega
  rw [hsz] at h1
  generalize ha : cnt digit (at_ s 0) = a at *
  obtain ⟨k3, e3⟩ := sees_val h3
  have hl2 := cnt_at_le digit s (a + 1) k3
  generalize hb : cnt digit (at_ s (a + 1)) = d at *
  refine ⟨a, a + 1 + d, h2, by omega, hl2, h1, ?_, fun _ => e3, ?_, ?_⟩
  · intro k hk hka
    exact cnt_run s s.size 0 (by omega) k hk (by omega) (by rw [ha]; omega)
  · intro k hk hka hkb
    exact cnt_run s s.size (a + 1) (by omega) k hk (by omega) (by rw [hb]; omega)
  · unfold isTail at h5
    rw [Bool.or_eq_true] at h5
    rcases h5 with h5 | h5
    · left
      have := congrArg List.length (List.isEmpty_iff.1 h5)
      rw [at_len] at this
      simp at this
      omega
    · right
      simp only [Bool.and_eq_true, at_drop] at h5
      obtain ⟨h6, h7, h8⟩ := h5
      obtain ⟨k6, e6⟩ := sees_val h6
      refine ⟨⟨k6, e6⟩, ?_⟩
      obtain ⟨c, hc1, hc2⟩ : ∃ c, (c = a + 1 + d + 1 ∨ c = a + 1 + d + 2 ∧ sees plus (at_ s (a + 1 + d + 1)) = true) ∧ (if sees plus (at_ s (a + 1 + d + 1)) = true then at_ s (a + 1 + d + 2) else at_ s (a + 1 + d + 1)) = at_ s c := by
        by_cases hp : sees plus (at_ s (a + 1 + d + 1)) = true
        · exact ⟨_, .inr ⟨rfl, hp⟩, by rw [if_pos hp]⟩
        · exact ⟨_, .inl rfl, by rw [if_neg hp]⟩
      rw [hc2] at h7 h8
      have hcs : c < s.size := by
        rcases Nat.lt_or_ge c s.size with h | h
        · exact h
        · rw [at_end s c h] at h7; simp at h7
      have h9 := eq_of_beq h8
      rw [at_len] at h9
      refine ⟨c, by rcases hc1 with h | ⟨h, -⟩ <;> omega, hcs, ?_, fun k hk hck => cnt_run s s.size c (by omega) k hk hck (by rw [h9]; omega)⟩
      rcases hc1 with h | ⟨h, hp⟩
      · exact .inl h
      · right
        have hk := sees_lt s _ hp
        rw [sees_at s _ hk] at hp
        refine ⟨h, hk, ?_⟩
        unfold plus at hp
        rw [Bool.or_eq_true] at hp
        rcases hp with hp | hp
        · left; rw [eq_of_beq hp]; rfl
        · right; rw [eq_of_beq hp]; rfl
/-- what readFloat has read so far -/
structure Rf where
  mant : Nat
  nd : Nat
  ndM : Nat
  dp : Int
  dot : Bool
  digs : Bool
  tr : Bool
def Rf.step (st : Rf) (c : UInt8) : Rf :=
  if c.toNat = 46 then { st with dot := true, dp := st.nd }
  else if c.toNat = 48 ∧ st.nd = 0 then { st with digs := true, dp := st.dp - 1 }
  else if st.ndM < 19 then { st with digs := true, nd := st.nd + 1, ndM := st.ndM + 1, mant := st.mant * 10 + (c.toNat - 48) }
  else { st with digs := true, nd := st.nd + 1, tr := st.tr || !decide (c.toNat = 48) }
def Rf.start : Rf := ⟨0, 0, 0, 0, false, false, false⟩
def rf (s : ByteArray) (k : Nat) : Rf := (s.data.toList.take k).foldl Rf.step Rf.start
theorem rf_succ (s : ByteArray) (k : Nat) (h : k < s.size) : rf s (k + 1) = (rf s k).step s[k] := by
  unfold rf
  have h' : k < s.data.toList.length := by simpa using h
  rw [List.take_add_one, List.foldl_append, List.getElem?_eq_getElem h']
  show (Rf.step _ (s.data.toList[k])) = _
  congr 1
/-- what is kept of it -/
structure Rf.Ok (st : Rf) (k : Nat) : Prop where
  m19 : st.ndM ≤ 19
  mn : st.ndM ≤ st.nd
  nk : st.nd ≤ k
  d1 : -(k : Int) ≤ st.dp
  d2 : st.dp ≤ k
  mant : st.mant < 10 ^ st.ndM
theorem Rf.Ok.step {st : Rf} {k : Nat} {c : UInt8} (h : st.Ok k) (hc : c.toNat = 46 ∨ digit c = true) : (st.step c).Ok (k + 1) := by
  obtain ⟨h1, h2, h3, h4, h5, h6⟩ := h
  unfold Rf.step
  split
  · exact ⟨h1, h2, by show st.nd ≤ k + 1; omega, by show -((k + 1 : Nat) : Int) ≤ (st.nd : Int); omega, by show (st.nd : Int) ≤ ((k + 1 : Nat) : Int); omega, h6⟩
  · rename_i hn
    have hd := digit_bd (hc.resolve_left hn)
    split
    · exact ⟨h1, h2, by show st.nd ≤ k + 1; omega, by show -((k + 1 : Nat) : Int) ≤ st.dp - 1; omega, by show st.dp - 1 ≤ ((k + 1 : Nat) : Int); omega, h6⟩
    · split
      · refine ⟨by show st.ndM + 1 ≤ 19; omega, by show st.ndM + 1 ≤ st.nd + 1; omega, by show st.nd + 1 ≤ k + 1; omega, by show -((k + 1 : Nat) : Int) ≤ st.dp; omega, by show st.dp ≤ ((k + 1 : Nat) : Int); omega, ?_⟩
        show st.mant * 10 + (c.toNat - 48) < 10 ^ (st.ndM + 1)
        rw [Nat.pow_succ]; omega
      · exact ⟨h1, by show st.ndM ≤ st.nd + 1; omega, by show st.nd + 1 ≤ k + 1; omega, by show -((k + 1 : Nat) : Int) ≤ st.dp; omega, by show st.dp ≤ ((k + 1 : Nat) : Int); omega, h6⟩
theorem rf_zero (s : ByteArray) : rf s 0 = Rf.start := by unfold rf; rw [List.take_zero]; rfl
theorem Rf.Ok.zero : Rf.start.Ok 0 := ⟨by decide, by decide, by decide, by decide, by decide, by decide⟩
theorem Rf.Ok.room {st : Rf} {k : Nat} (h : st.Ok k) (h19 : st.ndM < 19) : st.mant ≤ 999999999999999999 := by
  have h1 : 10 ^ st.ndM ≤ 10 ^ 18 := Nat.pow_le_pow_right (by omega) (by omega)
  have h2 := h.mant
  have e : (10 : Nat) ^ 18 = 1000000000000000000 := by decide
  omega
theorem Rf.Ok.room19 {st : Rf} {k : Nat} (h : st.Ok k) : st.mant ≤ 9999999999999999999 := by
  have h1 : 10 ^ st.ndM ≤ 10 ^ 19 := Nat.pow_le_pow_right (by omega) h.m19
  have h2 := h.mant
  have e : (10 : Nat) ^ 19 = 10000000000000000000 := by decide
  omega
/-- the digits behind e, so far -/
def expo (s : ByteArray) (c k : Nat) : Nat := ((s.data.toList.drop c).take (k - c)).foldl (fun e b => if e < 10000 then e * 10 + (b.toNat - 48) else e) 0
end Lx
end Go.Proofs.YtldglmehchkbeaaGreatDoor
