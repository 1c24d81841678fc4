/-
  What Parse answers of ParseCalls' texts. Condition: Go's own variables lie.
-/
import Derived.Test.YtnlbhnmiekanfaaGreatDoorParDm
namespace Go.Proofs.YtnlbhnmiekanfaaGreatDoor
open Go.RowKit Go.Deep
set_option linter.unusedVariables false
set_option linter.unusedSimpArgs false
namespace PaC
open Pa Lx
attribute [local go_sem] fld0 fld1 fld2
/-- so many of a text, commas between -/
def seps : Nat → Bs → Bs
  | 0, _ => []
  | n + 1, s => seps n s ++ (if n = 0 then [] else [44]) ++ s
theorem seps_len (s : Bs) : ∀ n, (seps n s).length ≤ n * (s.length + 1)
  | 0 => by simp [seps]
  | n + 1 => by
    have := seps_len s n
    rw [seps, List.length_append, List.length_append, Nat.succ_mul]
    split <;> simp <;> omega
theorem seps_mem {s : Bs} {b : UInt8} : ∀ n, b ∈ seps n s → b = 44 ∨ b ∈ s
  | 0, h => by cases h
  | n + 1, h => by
    rw [seps, List.mem_append, List.mem_append] at h
    rcases h with (h | h) | h
    · exact seps_mem n h
    · split at h
      · cases h
      · exact .inl (by simpa using h)
    · exact .inr h
/-- the law's two texts -/
def cA (n : Nat) : Bs := [105, 110, 116, 32, 118, 61, 102, 40] ++ seps n [49] ++ [41, 59]
def cP (n : Nat) : Bs := [105, 110, 116, 32, 102, 40] ++ seps n [105, 110, 116, 32, 97] ++ [41, 59]
def aOk (n : Nat) : Bool :=
  match Pa.parse (fun _ => 0) 1000 (cA n) with
  | .ok [⟨_, _, _, _, _, _, [.mk _ _ _ _ _ ks _ _], _, _, _, _⟩] => decide (n ≤ 8) && ks.length == n
  | .bad p c => !decide (n ≤ 8) && p == 24 && c == 5
  | _ => false
def pOk (n : Nat) : Bool :=
  match Pa.parse (fun _ => 0) 1000 (cP n) with
  | .ok [d] => decide (n ≤ 8) && d.params.length == n
  | .bad p c => !decide (n ≤ 8) && p == 54 && c == 5
  | _ => false
set_option maxRecDepth 100000 in
theorem cAll : ((List.range 12).all fun i => aOk i && pOk i) = true := by kernel_rfl
theorem cOne (n : Nat) (h : n < 12) : aOk n = true ∧ pOk n = true := by
  have := List.all_eq_true.1 cAll n (by rw [List.mem_range]; omega)
  rwa [Bool.and_eq_true] at this
theorem cA_dot (n : Nat) : ∀ b ∈ cA n, isB 46 b = false := by
  intro b hb
  unfold cA at hb
  simp only [List.mem_append] at hb
  rcases hb with (h | h) | h
  · revert b; decide
  · rcases seps_mem n h with rfl | h
    · decide
    · exact (by decide : ∀ b ∈ ([49] : Bs), isB 46 b = false) b h
  · revert b; decide
theorem cP_dot (n : Nat) : ∀ b ∈ cP n, isB 46 b = false := by
  intro b hb
  unfold cP at hb
  simp only [List.mem_append] at hb
  rcases hb with (h | h) | h
  · revert b; decide
  · rcases seps_mem n h with rfl | h
    · decide
    · exact (by decide : ∀ b ∈ ([105, 110, 116, 32, 97] : Bs), isB 46 b = false) b h
  · revert b; decide
theorem cA_len (n : Nat) (h : n < 12) : (cA n).length ≤ 100 := by
  have := seps_len [49] n
  have h2 : n * ([49].length + 1) = n * 2 := rfl
  unfold cA
  simp only [List.length_append, List.length_cons, List.length_nil] at this ⊢
  omega
theorem cP_len (n : Nat) (h : n < 12) : (cP n).length ≤ 100 := by
  have := seps_len [105, 110, 116, 32, 97] n
  unfold cP
  simp only [List.length_append, List.length_cons, List.length_nil] at this ⊢
  omega
/-- a slice's length -/
theorem SlAt.many {α : Type} {n : Nat} {R : α → List Value → Prop} {P : Nat → Prop} {w : World} {ks : List α} {v : Value} (h : SlAt n R P w ks v) : ∃ q c, v = .slice q ks.length c := by
  cases h with
  | nil => exact ⟨_, _, rfl⟩
  | some kids g o cap rows hl hne hc hm hP hg hr hk => exact ⟨_, _, rfl⟩
theorem KsAt.many {P : Nat → Prop} {w : World} {ks : List Ex} {v : Value} (h : KsAt P w ks v) : ∃ q c, v = .slice q ks.length c := by
  cases h with
  | nil => exact ⟨_, _, rfl⟩
  | some kids g o cap rows hl hne hc hm hP hg hr hk => exact ⟨_, _, rfl⟩
/-- what the law reads of the two modules -/
def RdA (n g o g2 o2 c2 : Nat) (q3 : Option Addr) (c3 : Nat) (w : World) : Prop :=
  w.cell? ⟨g, o + 6, none⟩ = some (.slice (some ⟨g2, o2, none⟩) 1 c2) ∧ w.cell? ⟨g2, o2 + 5, none⟩ = some (.slice q3 n c3)
def RdP (n g o : Nat) (q3 : Option Addr) (c3 : Nat) (w : World) : Prop := w.cell? ⟨g, o + 8, none⟩ = some (.slice q3 n c3)
theorem aParse (n : Nat) (h : n < 12) (w : World) (hB : LxC.Base w.heap.size w) :
    Calls Tryz.prog 8 #[.string ⟨(cA n).toArray⟩] w fun e w' => ∃ q m cc p c, e = .returned (.tuple #[.agg #[.slice q m cc], .int .i64 p, .int .i64 c]) ∧ Below w.heap.size w w' ∧ (¬ n ≤ 8 → c = 5 ∧ p = 24) ∧
      (n ≤ 8 → c = 0 ∧ ∃ g o g2 o2 c2 q3 c3, q = some ⟨g, o, none⟩ ∧ m = 1 ∧ ∀ W, Below w'.heap.size w' W → RdA n g o g2 o2 c2 q3 c3 W) := by
  have hd := (cOne n h).1
  unfold aOk at hd
  have hlen := cA_len n h
  have c := parse_ (fun _ => 0) 1000 (by decide) ⟨(cA n).toArray⟩ w (by show (cA n).length ≤ maxLen; unfold maxLen; omega) hB (cA_dot n) (by
    rw [show (ByteArray.mk (cA n).toArray).data.toList = cA n from rfl]
    intro hx
    rw [hx] at hd
    cases hd)
  rw [show (ByteArray.mk (cA n).toArray).data.toList = cA n from rfl] at c
  refine c.mono ?_
  split at hd
  · rename_i hp
    rw [hp]
    rw [Bool.and_eq_true, beq_iff_eq] at hd
    obtain ⟨h8, hk⟩ := hd
    rintro e w' ⟨q, m, cc, rfl, hds, hb⟩
    refine ⟨_, _, _, _, _, rfl, hb, fun hn => absurd (of_decide_eq_true h8) hn, fun _ => ⟨rfl, ?_⟩⟩
    obtain ⟨g, o, c1, row, e1, hdr, hr, hg⟩ := hds.one
    injection e1 with e1 e2 e3
    obtain ⟨iv, pv, bc, hi, -, -, -, rfl⟩ := hdr.row
    obtain ⟨g2, o2, c2, row2, rfl, hx, hr2, hg2⟩ := hi.one
    obtain ⟨kv, hkv, rfl⟩ := hx.row
    obtain ⟨q3, c3, rfl⟩ := hkv.many
    rw [hk] at hr2
    exact ⟨g, o, g2, o2, c2, q3, c3, e1, e2, fun W hW => ⟨below_range hW hg hr 6 _ rfl, below_range hW hg2 hr2 5 _ rfl⟩⟩
  · rename_i hp
    rw [hp]
    simp only [Bool.and_eq_true, Bool.not_eq_true', decide_eq_false_iff_not, beq_iff_eq] at hd
    obtain ⟨⟨h1, h3⟩, h4⟩ := hd
    rintro e w' ⟨rfl, hb⟩
    exact ⟨_, _, _, _, _, rfl, hb, fun _ => ⟨h4, by rw [h3]; rfl⟩, fun hn => absurd hn h1⟩
  · cases hd
theorem pParse (n : Nat) (h : n < 12) (w : World) (hB : LxC.Base w.heap.size w) :
    Calls Tryz.prog 8 #[.string ⟨(cP n).toArray⟩] w fun e w' => ∃ q m cc p c, e = .returned (.tuple #[.agg #[.slice q m cc], .int .i64 p, .int .i64 c]) ∧ Below w.heap.size w w' ∧ (¬ n ≤ 8 → c = 5 ∧ p = 54) ∧
      (n ≤ 8 → c = 0 ∧ ∃ g o q3 c3, q = some ⟨g, o, none⟩ ∧ m = 1 ∧ ∀ W, Below w'.heap.size w' W → RdP n g o q3 c3 W) := by
  have hd := (cOne n h).2
  unfold pOk at hd
  have hlen := cP_len n h
  have c := parse_ (fun _ => 0) 1000 (by decide) ⟨(cP n).toArray⟩ w (by show (cP n).length ≤ maxLen; unfold maxLen; omega) hB (cP_dot n) (by
    rw [show (ByteArray.mk (cP n).toArray).data.toList = cP n from rfl]
    intro hx
    rw [hx] at hd
    cases hd)
  rw [show (ByteArray.mk (cP n).toArray).data.toList = cP n from rfl] at c
  refine c.mono ?_
  split at hd
  · rename_i hp
    rw [hp]
    rw [Bool.and_eq_true, beq_iff_eq] at hd
    obtain ⟨h8, hk⟩ := hd
    rintro e w' ⟨q, m, cc, rfl, hds, hb⟩
    refine ⟨_, _, _, _, _, rfl, hb, fun hn => absurd (of_decide_eq_true h8) hn, fun _ => ⟨rfl, ?_⟩⟩
    obtain ⟨g, o, c1, row, e1, hdr, hr, hg⟩ := hds.one
    injection e1 with e1 e2 e3
    obtain ⟨iv, pv, bc, -, hpv, -, -, rfl⟩ := hdr.row
    obtain ⟨q3, c3, rfl⟩ := hpv.many
    rw [hk] at hr
    exact ⟨g, o, q3, c3, e1, e2, fun W hW => below_range hW hg hr 8 _ rfl⟩
  · rename_i hp
    rw [hp]
    simp only [Bool.and_eq_true, Bool.not_eq_true', decide_eq_false_iff_not, beq_iff_eq] at hd
    obtain ⟨⟨h1, h3⟩, h4⟩ := hd
    rintro e w' ⟨rfl, hb⟩
    exact ⟨_, _, _, _, _, rfl, hb, fun _ => ⟨h4, by rw [h3]; rfl⟩, fun hn => absurd hn h1⟩
  · cases hd
end PaC
end Go.Proofs.YtnlbhnmiekanfaaGreatDoor
