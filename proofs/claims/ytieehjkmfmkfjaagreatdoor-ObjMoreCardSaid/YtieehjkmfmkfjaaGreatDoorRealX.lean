/-
  Digits of base 16, highest first: plain arithmetic on lists of bytes. No condition. It speaks of no program.
-/
namespace Go.Proofs.YtieehjkmfmkfjaaGreatDoor
namespace RX
set_option linter.unusedVariables false
/-- a digit's byte -/
def dg (d : Nat) : UInt8 := if d < 10 then UInt8.ofNat (48 + d) else UInt8.ofNat (87 + d)
/-- k digits of n, the highest first -/
def hexL : Nat → Nat → List UInt8
  | 0, _ => []
  | k + 1, n => hexL k (n / 16) ++ [dg (n % 16)]
theorem hexL_length : ∀ k n, (hexL k n).length = k
  | 0, _ => rfl
  | k + 1, n => by rw [hexL, List.length_append, hexL_length k]; rfl
theorem hexL_zero : ∀ k, hexL k 0 = List.replicate k 48
  | 0 => rfl
  | k + 1 => by
    rw [hexL, Nat.zero_div, hexL_zero k]
    show List.replicate k 48 ++ [48] = _
    rw [List.replicate_succ']
theorem hexL_add : ∀ j k n, hexL (j + k) n = hexL j (n / 16 ^ k) ++ hexL k n
  | j, 0, n => by simp [hexL]
  | j, k + 1, n => by
    rw [← Nat.add_assoc, hexL, hexL_add j k (n / 16), hexL, List.append_assoc, Nat.div_div_eq_div_mul, Nat.pow_succ']
theorem hexL_pad {j k n : Nat} (h : n < 16 ^ k) : hexL (j + k) n = List.replicate j 48 ++ hexL k n := by
  rw [hexL_add, Nat.div_eq_of_lt h, hexL_zero]
/-- what digits mean -/
def val (l : List UInt8) : Nat := l.foldl (fun n c => n * 16 + (if c < 58 then c.toNat - 48 else c.toNat - 87)) 0
theorem dg_nat {d : Nat} (h : d < 16) : (dg d).toNat = if d < 10 then 48 + d else 87 + d := by
  unfold dg; split <;> (rw [UInt8.toNat_ofNat']; omega)
theorem dg_val {d : Nat} (h : d < 16) : (if dg d < 58 then (dg d).toNat - 48 else (dg d).toNat - 87) = d := by
  have e := dg_nat h
  by_cases c : d < 10
  · rw [if_pos c] at e
    rw [if_pos (by rw [UInt8.lt_iff_toNat_lt, e]; show 48 + d < 58; omega), e]; omega
  · rw [if_neg c] at e
    rw [if_neg (by rw [UInt8.lt_iff_toNat_lt, e]; show ¬ 87 + d < 58; omega), e]; omega
theorem val_snoc (l : List UInt8) (c : UInt8) : val (l ++ [c]) = val l * 16 + (if c < 58 then c.toNat - 48 else c.toNat - 87) := by
  unfold val; rw [List.foldl_append]; rfl
theorem val_hexL : ∀ k n, val (hexL k n) = n % 16 ^ k
  | 0, n => by simp [hexL, val, Nat.mod_one]
  | k + 1, n => by
    rw [hexL, val_snoc, val_hexL k, dg_val (Nat.mod_lt _ (by omega)), Nat.pow_succ', Nat.mod_mul]
    omega
theorem val_take (k n i : Nat) (h : i ≤ k) : val ((hexL k n).take i) = n / 16 ^ (k - i) % 16 ^ i := by
  obtain ⟨j, rfl⟩ : ∃ j, k = i + j := ⟨k - i, by omega⟩
  rw [hexL_add, List.take_left' (hexL_length i _), val_hexL, show i + j - i = j by omega]
theorem hexL_at (k n i : Nat) (h : i < k) : (hexL k n)[i]? = some (dg (n / 16 ^ (k - 1 - i) % 16)) := by
  obtain ⟨j, rfl⟩ : ∃ j, k = i + (1 + j) := ⟨k - i - 1, by omega⟩
  rw [hexL_add, List.getElem?_append_right (by rw [hexL_length]; omega), hexL_length, Nat.sub_self, hexL_add, show i + (1 + j) - 1 - i = j by omega]
  rfl
end RX
end Go.Proofs.YtieehjkmfmkfjaaGreatDoor
