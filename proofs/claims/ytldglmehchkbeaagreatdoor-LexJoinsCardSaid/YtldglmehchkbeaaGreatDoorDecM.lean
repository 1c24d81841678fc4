/-
  Decimal numbers that are moved by powers of two, plainly: how many digits there are more, and which is the first. No program, no condition.
-/
namespace Go.Proofs.YtldglmehchkbeaaGreatDoor
set_option linter.unusedVariables false
set_option linter.unusedSimpArgs false
namespace Dc
/-- what digits mean -/
def V : List Nat → Nat
  | [] => 0
  | a :: l => a * 10 ^ l.length + V l
def Dig (l : List Nat) : Prop := ∀ a ∈ l, a ≤ 9
theorem V_lt : ∀ {l : List Nat}, Dig l → V l < 10 ^ l.length
  | [], _ => by simp [V]
  | a :: l, h => by
    have h1 := V_lt (l := l) fun x hx => h x (List.mem_cons_of_mem _ hx)
    have h2 : a ≤ 9 := h a (List.mem_cons_self ..)
    show a * 10 ^ l.length + V l < 10 ^ (l.length + 1)
    rw [Nat.pow_succ]
    have h3 : a * 10 ^ l.length ≤ 9 * 10 ^ l.length := Nat.mul_le_mul_right _ h2
    omega
theorem V_ge (a : Nat) (l : List Nat) : a * 10 ^ l.length ≤ V (a :: l) := Nat.le_add_right _ _
/-- is b ahead of s, as a word? -/
def less : List Nat → List Nat → Bool
  | _, [] => false
  | [], _ :: _ => true
  | a :: b, c :: s => if a = c then less b s else decide (a < c)
theorem V_pos : ∀ {s : List Nat}, (∀ h : s ≠ [], s.getLast h ≠ 0) → s ≠ [] → 0 < V s
  | [], _, h => absurd rfl h
  | [a], h, _ => by
    have : a ≠ 0 := h (by simp)
    show 0 < a * 10 ^ 0 + 0
    simp; omega
  | a :: b :: s, h, _ => by
    have h1 : 0 < V (b :: s) := V_pos (s := b :: s) (fun h' => by have := h (by simp); rwa [List.getLast_cons h'] at this) (by simp)
    show 0 < a * 10 ^ (b :: s).length + V (b :: s)
    omega
theorem less_true : ∀ {b s : List Nat}, Dig b → Dig s → (∀ h : s ≠ [], s.getLast h ≠ 0) → less b s = true → V b * 10 ^ s.length < V s * 10 ^ b.length
  | b, [], _, _, _, h => by cases b <;> simp [less] at h
  | [], c :: s, _, _, hl, _ => by
    have := V_pos hl (by simp)
    simp only [V, Nat.zero_mul, List.length_nil, Nat.pow_zero, Nat.mul_one]
    simpa [V] using this
  | a :: b, c :: s, hb, hs, hl, h => by
    have hb' : Dig b := fun x hx => hb x (List.mem_cons_of_mem _ hx)
    have hs' : Dig s := fun x hx => hs x (List.mem_cons_of_mem _ hx)
    have e1 : V (a :: b) * 10 ^ (c :: s).length = (a * (10 ^ b.length * 10 ^ s.length) + V b * 10 ^ s.length) * 10 := by
      show (a * 10 ^ b.length + V b) * 10 ^ (s.length + 1) = _
      rw [Nat.pow_succ, ← Nat.mul_assoc, Nat.add_mul (a * 10 ^ b.length) (V b) (10 ^ s.length), Nat.mul_assoc a]
    have e2 : V (c :: s) * 10 ^ (a :: b).length = (c * (10 ^ b.length * 10 ^ s.length) + V s * 10 ^ b.length) * 10 := by
      show (c * 10 ^ s.length + V s) * 10 ^ (b.length + 1) = _
      rw [Nat.pow_succ, ← Nat.mul_assoc, Nat.add_mul (c * 10 ^ s.length) (V s) (10 ^ b.length), Nat.mul_assoc c, Nat.mul_comm (10 ^ s.length)]
    rw [e1, e2]
    refine Nat.mul_lt_mul_of_pos_right ?_ (by omega)
    unfold less at h
    by_cases e : a = c
    · rw [if_pos e] at h
      subst e
      have hls : ∀ h : s ≠ [], s.getLast h ≠ 0 := fun h' => by have := hl (by simp); rwa [List.getLast_cons h'] at this
      have := less_true hb' hs' hls h
      omega
    · rw [if_neg e] at h
      have hlt : a + 1 ≤ c := of_decide_eq_true h
      have v1 := V_lt hb'
      have h1 : V b * 10 ^ s.length < 10 ^ b.length * 10 ^ s.length := Nat.mul_lt_mul_of_pos_right v1 (Nat.pow_pos (by omega))
      have h2 : (a + 1) * (10 ^ b.length * 10 ^ s.length) ≤ c * (10 ^ b.length * 10 ^ s.length) := Nat.mul_le_mul_right _ hlt
      rw [Nat.add_mul, Nat.one_mul] at h2
      omega
theorem less_false : ∀ {b s : List Nat}, Dig b → Dig s → less b s = false → V s * 10 ^ b.length ≤ V b * 10 ^ s.length
  | b, [], _, _, _ => by simp [V]
  | [], c :: s, _, _, h => by simp [less] at h
  | a :: b, c :: s, hb, hs, h => by
    have hb' : Dig b := fun x hx => hb x (List.mem_cons_of_mem _ hx)
    have hs' : Dig s := fun x hx => hs x (List.mem_cons_of_mem _ hx)
    have e1 : V (a :: b) * 10 ^ (c :: s).length = (a * (10 ^ b.length * 10 ^ s.length) + V b * 10 ^ s.length) * 10 := by
      show (a * 10 ^ b.length + V b) * 10 ^ (s.length + 1) = _
      rw [Nat.pow_succ, ← Nat.mul_assoc, Nat.add_mul (a * 10 ^ b.length) (V b) (10 ^ s.length), Nat.mul_assoc a]
    have e2 : V (c :: s) * 10 ^ (a :: b).length = (c * (10 ^ b.length * 10 ^ s.length) + V s * 10 ^ b.length) * 10 := by
      show (c * 10 ^ s.length + V s) * 10 ^ (b.length + 1) = _
      rw [Nat.pow_succ, ← Nat.mul_assoc, Nat.add_mul (c * 10 ^ s.length) (V s) (10 ^ b.length), Nat.mul_assoc c, Nat.mul_comm (10 ^ s.length)]
    rw [e1, e2]
    refine Nat.mul_le_mul_right _ ?_
    unfold less at h
    by_cases e : a = c
    · rw [if_pos e] at h
      subst e
      have := less_false hb' hs' h
      omega
    · rw [if_neg e] at h
      have hlt : c + 1 ≤ a := by
        have := of_decide_eq_false h; omega
      have v1 := V_lt hs'
      have h1 : V s * 10 ^ b.length < 10 ^ s.length * 10 ^ b.length := Nat.mul_lt_mul_of_pos_right v1 (Nat.pow_pos (by omega))
      rw [Nat.mul_comm (10 ^ s.length)] at h1
      have h2 : (c + 1) * (10 ^ b.length * 10 ^ s.length) ≤ a * (10 ^ b.length * 10 ^ s.length) := Nat.mul_le_mul_right _ hlt
      rw [Nat.add_mul, Nat.one_mul] at h2
      omega
/-- the digits of a power of five, without their count -/
structure Cheat (k d : Nat) (s : List Nat) : Prop where
  dig : Dig s
  last : ∀ h : s ≠ [], s.getLast h ≠ 0
  val : V s = 5 ^ k
  count : d + s.length = k + 1
  low : 10 ^ s.length ≤ 5 ^ k * 10
  high : 5 ^ k < 10 ^ s.length
/-- how many digits there are more -/
def delta (d : Nat) (b s : List Nat) : Nat := if less b s then d - 1 else d
theorem ten_split (k : Nat) : 10 ^ k = 5 ^ k * 2 ^ k := by rw [← Nat.mul_pow]
theorem shifted {k d : Nat} {b s : List Nat} (h : Cheat k d s) (hb : Dig b) (h1 : 1 ≤ b.length) (hV : 10 ^ (b.length - 1) ≤ V b) (hk : 1 ≤ k) :
    10 ^ (b.length - 1 + delta d b s) ≤ V b * 2 ^ k ∧ V b * 2 ^ k < 10 ^ (b.length + delta d b s) := by
  have p5 : 0 < 5 ^ k := Nat.pow_pos (by omega)
  have p2 : 0 < 2 ^ k := Nat.pow_pos (by omega)
  have pL : 0 < 10 ^ s.length := Nat.pow_pos (by omega)
  have hb0 := V_lt hb
  have t := ten_split k
  have hc := h.count
  have hL1 : 1 ≤ s.length := by
    cases hs : s with
    | nil =>
      have := h.high
      rw [hs] at this
      simp only [List.length_nil, Nat.pow_zero] at this
      have : 5 ^ 1 ≤ 5 ^ k := Nat.pow_le_pow_right (by omega) hk
      omega
    | cons a l => simp
  have hLk : s.length ≤ k := by
    refine Nat.le_of_not_lt fun hlt => ?_
    have h2 : 10 ^ (k + 1) ≤ 10 ^ s.length := Nat.pow_le_pow_right (by omega) hlt
    have h3 := h.low
    rw [Nat.pow_succ] at h2
    have h4 : 5 ^ k * 2 ^ 1 ≤ 5 ^ k * 2 ^ k := Nat.mul_le_mul_left _ (Nat.pow_le_pow_right (by omega) hk)
    omega
  obtain ⟨m, hm⟩ : ∃ m, k = s.length + m := ⟨k - s.length, by omega⟩
  have tk : 10 ^ k = 10 ^ s.length * 10 ^ m := by rw [hm, Nat.pow_add]
  -- 2^k lies between 10^m and 10^(m+1)
  have lo : 10 ^ m ≤ 2 ^ k := by
    refine Nat.le_of_mul_le_mul_left (c := 10 ^ s.length) ?_ pL
    rw [← tk, t]
    exact Nat.mul_le_mul_right _ (Nat.le_of_lt h.high)
  have hi : 2 ^ k ≤ 10 ^ (m + 1) := by
    refine Nat.le_of_mul_le_mul_left (c := 5 ^ k) ?_ p5
    rw [← t, tk, Nat.pow_succ]
    have := Nat.mul_le_mul_right (10 ^ m) h.low
    calc 10 ^ s.length * 10 ^ m ≤ 5 ^ k * 10 * 10 ^ m := this
      _ = 5 ^ k * (10 ^ m * 10) := by rw [Nat.mul_assoc, Nat.mul_comm 10]
  unfold delta
  cases hl : less b s with
  | true =>
    rw [if_pos rfl]
    have e : d - 1 = m := by omega
    rw [e]
    constructor
    · rw [Nat.pow_add]; exact Nat.mul_le_mul hV lo
    · have := less_true hb h.dig h.last hl
      rw [h.val] at this
      refine Nat.lt_of_mul_lt_mul_left (a := 10 ^ s.length) ?_
      rw [Nat.pow_add]
      calc 10 ^ s.length * (V b * 2 ^ k) = V b * 10 ^ s.length * 2 ^ k := by rw [← Nat.mul_assoc, Nat.mul_comm (10 ^ s.length)]
        _ < 5 ^ k * 10 ^ b.length * 2 ^ k := Nat.mul_lt_mul_of_pos_right this p2
        _ = 5 ^ k * 2 ^ k * 10 ^ b.length := by rw [Nat.mul_right_comm]
        _ = 10 ^ s.length * (10 ^ b.length * 10 ^ m) := by rw [← t, tk, Nat.mul_assoc, Nat.mul_comm (10 ^ m)]
  | false =>
    rw [if_neg (by simp)]
    have e : d = m + 1 := by omega
    rw [e]
    constructor
    · have := less_false hb h.dig hl
      rw [h.val] at this
      refine Nat.le_of_mul_le_mul_left (c := 10 ^ s.length) ?_ pL
      rw [show b.length - 1 + (m + 1) = b.length + m by omega, Nat.pow_add]
      calc 10 ^ s.length * (10 ^ b.length * 10 ^ m) = 10 ^ s.length * 10 ^ m * 10 ^ b.length := by rw [Nat.mul_right_comm, Nat.mul_assoc]
        _ = 5 ^ k * 10 ^ b.length * 2 ^ k := by rw [← tk, t, Nat.mul_right_comm]
        _ ≤ V b * 10 ^ s.length * 2 ^ k := Nat.mul_le_mul_right _ this
        _ = 10 ^ s.length * (V b * 2 ^ k) := by rw [← Nat.mul_assoc, Nat.mul_comm (10 ^ s.length)]
    · rw [Nat.pow_add]
      exact Nat.lt_of_lt_of_le (Nat.mul_lt_mul_of_pos_right hb0 p2) (Nat.mul_le_mul_left _ hi)
end Dc
end Go.Proofs.YtldglmehchkbeaaGreatDoor
