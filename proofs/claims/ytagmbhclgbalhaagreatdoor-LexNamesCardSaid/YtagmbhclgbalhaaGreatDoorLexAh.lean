/-
  The law LexNames, walked. Condition: Go's own variables lie; the bytes lie in memory.
-/
import Derived.Test.YtagmbhclgbalhaaGreatDoorLexAg
namespace Go.Proofs.YtagmbhclgbalhaaGreatDoor
open Go.RowKit
set_option linter.unusedVariables false
set_option linter.unusedSimpArgs false
namespace LxC
open Lx
/-- bytes that lie below a place -/
def BytesAt (n : Nat) (w : World) (v : Value) (l : List UInt8) : Prop :=
  ((∃ p cap, v = .slice p 0 cap ∧ cap ≤ maxLen) ∧ l = []) ∨
  ∃ b o cap, v = .slice (some ⟨b, o, none⟩) l.length cap ∧ b < n ∧ l.length ≤ cap ∧ cap ≤ maxLen ∧ ∀ (j : Nat) (c : UInt8), l[j]? = some c → w.cell? ⟨b, o + j, none⟩ = some (.int .u8 (c.toNat : Int))
def letters : ByteArray := { data := #[97, 98, 99, 100, 101, 102, 103, 104, 105, 106, 107, 108, 109, 110, 111, 112, 113, 114, 115, 116, 117, 118, 119, 120, 121, 122, 65, 66, 67, 88, 89, 90, 95, 48, 49, 50, 51, 52, 53, 54, 55, 56, 57] }
theorem letters_at : ∀ k, k < 43 → (letters.extract k (k + 1)).data.toList = [letters.data.toList.getD k 0] ∧ inName (letters.data.toList.getD k 0) = true ∧ (k < 33 → letter (letters.data.toList.getD k 0) = true) := by decide +kernel
theorem letter_ex (k : Nat) (h : k < 43) : ∃ x : UInt8, letters.extract k (k + 1) = ⟨[x].toArray⟩ ∧ inName x = true ∧ (k < 33 → letter x = true) := by
  obtain ⟨h1, h2, h3⟩ := letters_at k h
  exact ⟨_, by rw [← h1], h2, h3⟩
theorem inName_dot {c : UInt8} (h : inName c = true) : isB 46 c = false := by
  unfold isB
  cases hx : (c == 46) with
  | false => rfl
  | true =>
    rw [eq_of_beq hx] at h
    revert h; decide
/-- a text so far -/
structure NameT (t : List UInt8) : Prop where
  all : ∀ c ∈ t, inName c = true
  head : ∀ c t', t = c :: t' → letter c = true
theorem NameT.snoc {t : List UInt8} {x : UInt8} (h : NameT t) (hx : inName x = true) (h0 : t = [] → letter x = true) : NameT (t ++ [x]) := by
  refine ⟨fun c hc => ?_, fun c t' e => ?_⟩
  · rcases List.mem_append.1 hc with h1 | h1
    · exact h.all c h1
    · rw [List.mem_singleton.1 h1]; exact hx
  · cases t with
    | nil => cases e; exact h0 rfl
    | cons a t'' => cases e; exact h.head _ _ rfl
theorem piece_ (q : Nat) (h : q < 43) : ∃ x : UInt8, inName x = true ∧ (q < 33 → letter x = true) ∧ ∀ w : World, (Instr.slice 9 (.string letters) (some (.int .i64 (q : Int))) (some (.int .i64 ((q : Int) + 1))) none).run Tryz.prog w = .ok (.string ⟨[x].toArray⟩) w := by
  obtain ⟨x, h1, h2, h3⟩ := letter_ex q h
  refine ⟨x, h2, h3, fun w => ?_⟩
  have := run_slice_string (P := Tryz.prog) w 9 letters .i64 .i64 (q : Int) ((q : Int) + 1) Tryz.underlying9 (by omega) (by omega) (by have : (letters.size : Int) = 43 := rfl; omega)
  rw [this, ← h1]
  rfl
set_option maxRecDepth 100000 in
set_option maxHeartbeats 4000000 in
theorem names_ (v : Value) (l : List UInt8) (w : World) (hv : BytesAt w.heap.size w v l) (hB : Base w.heap.size w) (hi : Laid w) :
    Calls Tryz.prog 12 #[v] w fun e w' => e = .returned (.bool true) ∧ Below w.heap.size w w' := by
  have c1 := awake_ w hB hi
  have c1' : ∀ W : World, Below w.heap.size w W → Calls Tryz.prog 24 #[] W fun e w' => e = .returned (.bool true) ∧ Below W.heap.size W w' := fun W hW => awake_ W (hB.later hW hW.size (Nat.le_refl _)) (hi.below hW (Nat.le_refl _))
  have HB := Lib.hid hB
  clear hB hi
  by_cases hshort : l = [] ∨ 60 < l.length
  · obtain ⟨p, z, cap, rfl, hz, hz1, hz2⟩ : ∃ (p : Option Addr) (z cap : Nat), v = .slice p z cap ∧ (z = 0 ∨ 60 < z) ∧ z ≤ cap ∧ cap ≤ maxLen := by
      rcases hv with ⟨⟨p, cap, rfl, hcm⟩, rfl⟩ | ⟨b, o, cap, rfl, h1, h2, h3, h4⟩
      · exact ⟨p, 0, cap, rfl, .inl rfl, by omega, hcm⟩
      · refine ⟨_, _, _, rfl, ?_, h2, h3⟩
        rcases hshort with rfl | h
        · exact .inl rfl
        · exact .inr h
    clear hv hshort
    rcases hz with rfl | hz
    all_goals
      go_enter Tryz.func12, Tryz.ntmps12
      go_wp2_with (first
        | ((with_reducible refine c1.mono ?_); rintro e w1 ⟨rfl, hb1⟩; have c2 := c1' w1 hb1; have HB1 := Lib.hid hb1; clear hb1 c1)
        | ((with_reducible refine c2.mono ?_); rintro e w2 ⟨rfl, hb2⟩; have HB2 := Lib.hid hb2; clear hb2 c2))
      go_ret
      exact ⟨rfl, HB1.out.trans (HB2.out.mono HB1.out.size)⟩
  · obtain ⟨hl0, hl60⟩ : l ≠ [] ∧ l.length ≤ 60 := ⟨fun h => hshort (.inl h), by rcases Nat.lt_or_ge 60 l.length with h | h; exact absurd (.inr h) hshort; exact h⟩
    rcases hv with ⟨-, rfl⟩ | ⟨b, o, cap, rfl, h1, h2, h3, h4⟩
    · exact absurd rfl hl0
    have hlen : 0 < l.length := List.length_pos_iff.2 hl0
    have H4 := Lib.hid h4
    clear hshort h4 c1'
    go_enter Tryz.func12, Tryz.ntmps12
    go_upto_if 6 with (go_at_call 24; (with_reducible refine c1.mono ?_); rintro e w1 ⟨rfl, hb1⟩; have HB1 := Lib.hid hb1; clear hb1 c1)
    go_loopg [27, 4] l.length (fun gg i s wr => ∃ (k : Nat) (t : List UInt8), l.length - k ≤ gg ∧ k ≤ l.length ∧ i = .int .i64 (k : Int) ∧ s = .string ⟨t.toArray⟩ ∧ t.length = k ∧ Aside (NameT t) ∧ Aside (Below w.heap.size w wr))
    case atStart => exact ⟨0, [], by omega, by omega, rfl, rfl, rfl, ⟨by simp, by intro c t' e; cases e⟩, HB1.out⟩
    case round =>
      obtain ⟨k, t, hgg, hk, rfl, rfl, htk, A1, A2⟩ := hrel
      by_cases hlt : k < l.length
      · obtain ⟨c, hc⟩ : ∃ c, l[k]? = some c := ⟨l[k], List.getElem?_eq_getElem hlt⟩
        have hcell : wr.cell? ⟨b, o + k, none⟩ = some (.int .u8 (c.toNat : Int)) := by
          rw [A2.out.cell (p := ⟨b, o + k, none⟩) h1]; exact H4.out k c hc
        have hcb := u8_bd c
        clear hc
        by_cases hk0 : k = 0
        · subst hk0
          have hcell0 : wr.cell? ⟨b, o, none⟩ = some (.int .u8 (c.toNat : Int)) := hcell
          have hm := Nat.mod_lt c.toNat (show 0 < 33 by omega)
          obtain ⟨x, hx1, hx2, hsl⟩ := piece_ (c.toNat % 33) (by omega)
          have hsl' : ∀ w : World, (Instr.slice 9 (.string { data := #[97, 98, 99, 100, 101, 102, 103, 104, 105, 106, 107, 108, 109, 110, 111, 112, 113, 114, 115, 116, 117, 118, 119, 120, 121, 122, 65, 66, 67, 88, 89, 90, 95, 48, 49, 50, 51, 52, 53, 54, 55, 56, 57] }) (some (.int .i64 ((c.toNat : Int) % 33))) (some (.int .i64 ((c.toNat : Int) % 33 + 1))) none).run Tryz.prog w = .ok (.string ⟨[x].toArray⟩) w := hsl
          have hadd : ∀ w : World, (Op.stringOp .add (ByteArray.mk t.toArray) (ByteArray.mk [x].toArray)).run Tryz.prog w = .ok (.string ⟨(t ++ [x]).toArray⟩) w := fun w => run_string_add_lists w t [x] (by omega) (by simp)
          have A3 : Aside (NameT (t ++ [x])) := A1.out.snoc hx1 (fun _ => hx2 hm)
          clear hsl hm hx1 hx2
          go_wp2
          go_roundg (l.length - 1)
          case measure => omega
          case rel => exact ⟨1, t ++ [x], by omega, by omega, by go_num, rfl, by simp [htk], A3.out, A2.out⟩
        · have hm := Nat.mod_lt c.toNat (show 0 < 43 by omega)
          obtain ⟨x, hx1, hx2, hsl⟩ := piece_ (c.toNat % 43) hm
          have hsl' : ∀ w : World, (Instr.slice 9 (.string { data := #[97, 98, 99, 100, 101, 102, 103, 104, 105, 106, 107, 108, 109, 110, 111, 112, 113, 114, 115, 116, 117, 118, 119, 120, 121, 122, 65, 66, 67, 88, 89, 90, 95, 48, 49, 50, 51, 52, 53, 54, 55, 56, 57] }) (some (.int .i64 ((c.toNat : Int) % 43))) (some (.int .i64 ((c.toNat : Int) % 43 + 1))) none).run Tryz.prog w = .ok (.string ⟨[x].toArray⟩) w := hsl
          have hadd : ∀ w : World, (Op.stringOp .add (ByteArray.mk t.toArray) (ByteArray.mk [x].toArray)).run Tryz.prog w = .ok (.string ⟨(t ++ [x]).toArray⟩) w := fun w => run_string_add_lists w t [x] (by omega) (by simp)
          have A3 : Aside (NameT (t ++ [x])) := A1.out.snoc hx1 (fun e => by rw [e] at htk; exact absurd htk.symm hk0)
          have hk1 : ¬ ((k : Int) = 0) := by omega
          clear hsl hm hx1 hx2
          go_wp2
          go_roundg (l.length - (k + 1))
          case measure => omega
          case rel => exact ⟨k + 1, t ++ [x], by omega, by omega, by go_num, rfl, by simp [htk], A3.out, A2.out⟩
      · obtain rfl : k = l.length := by omega
        obtain ⟨c, t', rfl⟩ : ∃ c t', t = c :: t' := by
          cases t with
          | nil => simp at htk; omega
          | cons c t' => exact ⟨c, t', rfl⟩
        have hT := A1.out
        have hlex := lex_name (hT.head _ _ rfl) hT.all (by omega)
        have hB2 : Base wr.heap.size wr := HB.out.later A2.out A2.out.size (Nat.le_refl _)
        have c2 : Calls Tryz.prog 25 #[.string ⟨(c :: t').toArray⟩] wr (LexPost wr (lex (c :: t'))) := lex_ ⟨(c :: t').toArray⟩ wr (by show (c :: t').length ≤ maxLen; unfold maxLen; omega) hB2 (fun _ => parses_dot (fun x hx => inName_dot (hT.all x hx)))
        rw [hlex] at c2
        have c3 := fun W => word_ ⟨(c :: t').toArray⟩ W
        have hsz : ((ByteArray.mk (c :: t').toArray).size : Int) = (l.length : Int) := by have : (ByteArray.mk (c :: t').toArray).size = (c :: t').length := rfl; omega
        have hdl : (ByteArray.mk (c :: t').toArray).data.toList = c :: t' := rfl
        rw [hdl] at c3
        obtain ⟨S, hS⟩ : ∃ S, S = ByteArray.mk (c :: t').toArray := ⟨_, rfl⟩
        rw [← hS] at c2 c3 hsz ⊢
        have HS := Lib.hid hS
        have HT := Lib.hid htk
        clear hS hdl hlex hB2 htk
        cases hr : reserved (c :: t') with
        | true =>
          have h8 := reserved_short hr
          have hl40 : ¬ ((l.length : Int) > 40) := by have := HT.out; omega
          rw [hr, if_pos rfl] at c2
          rw [hr] at c3
          clear hr h8
          go_wp2_with (first
            | ((with_reducible refine c2.mono ?_); rintro e w2 ⟨v, rfl, ht, hb2⟩; obtain ⟨g, cp, rfl, hg1, hg2, hL⟩ := ht.row (by simp); have HL := Lib.hid hL; have HG := Lib.hid hg2; have HB2 := Lib.hid hb2; clear ht hL hb2 hg2 c2)
            | ((with_reducible refine (c3 _).mono ?_); rintro e w3 ⟨rfl, hb3⟩; have hL := HL.out.mono hb3 HG.out; have hrr := hL.row 0 _ rfl; have k0 : w3.cell? ⟨g, 0, none⟩ = some (.int .i64 5) := hrr 0 _ rfl; have k1 : w3.cell? ⟨g, 1, none⟩ = some (.string S) := (hrr 1 _ rfl).trans (by rw [HS.out]); have k2 : w3.cell? ⟨g, 2, none⟩ = some (.int .i64 0) := hrr 2 _ rfl; have hbd : (Instr.build 51 #[(0, .int .i64 5), (1, .string S)]).run Tryz.prog w3 = .ok (.agg #[.int .i64 5, .string S, .int .i64 0]) w3 := run_build w3 _ _ _ (by kernel_rfl); have hle : 2 ≤ cp := hL.le; have hcm := hL.cm; have HB3 := Lib.hid hb3; clear hL hrr hb3 c3))
          go_ret
          exact ⟨rfl, A2.out.trans ((HB2.out.trans (HB3.out.mono HB2.out.size)).mono A2.out.size)⟩
        | false =>
          rw [hr, if_neg (by simp)] at c2
          rw [hr] at c3
          clear hr
          by_cases h40 : (c :: t').length ≤ 40
          · have hl40 : ¬ ((l.length : Int) > 40) := by have := HT.out; omega
            rw [if_pos h40] at c2
            clear h40
            go_wp2_with (first
              | ((with_reducible refine c2.mono ?_); rintro e w2 ⟨v, rfl, ht, hb2⟩; obtain ⟨g, cp, rfl, hg1, hg2, hL⟩ := ht.row (by simp); have HL := Lib.hid hL; have HG := Lib.hid hg2; have HB2 := Lib.hid hb2; clear ht hL hb2 hg2 c2)
              | ((with_reducible refine (c3 _).mono ?_); rintro e w3 ⟨rfl, hb3⟩; have hL := HL.out.mono hb3 HG.out; have hrr := hL.row 0 _ rfl; have k0 : w3.cell? ⟨g, 0, none⟩ = some (.int .i64 1) := hrr 0 _ rfl; have k1 : w3.cell? ⟨g, 1, none⟩ = some (.string S) := (hrr 1 _ rfl).trans (by rw [HS.out]); have k2 : w3.cell? ⟨g, 2, none⟩ = some (.int .i64 0) := hrr 2 _ rfl; have hbd : (Instr.build 51 #[(0, .int .i64 1), (1, .string S)]).run Tryz.prog w3 = .ok (.agg #[.int .i64 1, .string S, .int .i64 0]) w3 := run_build w3 _ _ _ (by kernel_rfl); have hle : 2 ≤ cp := hL.le; have hcm := hL.cm; have HB3 := Lib.hid hb3; clear hL hrr hb3 c3))
            go_ret
            exact ⟨rfl, A2.out.trans ((HB2.out.trans (HB3.out.mono HB2.out.size)).mono A2.out.size)⟩
          · have hl40 : ((l.length : Int) > 40) := by have := HT.out; omega
            rw [if_neg h40] at c2
            clear h40
            go_wp2_with ((with_reducible refine c2.mono ?_); rintro e w2 ⟨rfl, hb2⟩; have HB2 := Lib.hid hb2; clear hb2 c2)
            go_ret
            exact ⟨rfl, A2.out.trans (HB2.out.mono A2.out.size)⟩
end LxC
end Go.Proofs.YtagmbhclgbalhaaGreatDoor
