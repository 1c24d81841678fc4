/-
  An object's text tells the object: objL is one to one. Conditions: names hold no blank and no byte 10, and words, bytes and numbers are of their kinds. It speaks of no program.
-/
import Derived.Test.YtieehjkmfmkfjaaGreatDoorObjO
import Derived.Test.YtieehjkmfmkfjaaGreatDoorObjM
namespace Go.Proofs.YtieehjkmfmkfjaaGreatDoor
open Go.RowKit
set_option linter.unusedVariables false
set_option linter.unusedSimpArgs false
namespace OInj
open OO OJ OL OC
/-- no blank, no end of a line -/
def Plain (l : List UInt8) : Prop := ∀ c ∈ l, c ≠ 32 ∧ c ≠ 10
def valD (l : List UInt8) : Nat := l.foldl (fun n c => n * 10 + (c.toNat - 48)) 0
theorem valD_dec (u : Nat) : valD (Lib.decDigits u) = u := by
  induction u using Nat.strongRecOn with
  | _ u ih =>
    rw [Lib.decDigits]
    split
    · rename_i h
      unfold valD
      simp only [List.foldl_cons, List.foldl_nil, UInt8.toNat_ofNat']
      omega
    · rename_i h
      have := ih (u / 10) (by omega)
      unfold valD at this ⊢
      rw [List.foldl_append, this]
      simp only [List.foldl_cons, List.foldl_nil, UInt8.toNat_ofNat']
      omega
theorem dec_range (u : Nat) : ∀ c ∈ Lib.decDigits u, 48 ≤ c.toNat ∧ c.toNat ≤ 57 := by
  induction u using Nat.strongRecOn with
  | _ u ih =>
    intro c hc
    rw [Lib.decDigits] at hc
    split at hc
    · rename_i h
      simp only [List.mem_cons, List.not_mem_nil, or_false] at hc
      subst hc
      simp only [UInt8.toNat_ofNat']
      omega
    · rename_i h
      rcases List.mem_append.1 hc with hc | hc
      · exact ih (u / 10) (by omega) c hc
      · simp only [List.mem_cons, List.not_mem_nil, or_false] at hc
        subst hc
        simp only [UInt8.toNat_ofNat']
        omega
theorem dec_plain (u : Nat) : Plain (Lib.decDigits u) := fun c hc => by
  have := dec_range u c hc
  exact ⟨fun e => by subst e; exact absurd this.1 (by decide), fun e => by subst e; exact absurd this.1 (by decide)⟩
theorem itoa_plain (n : Int) : Plain (Lib.itoa n) := by
  unfold Lib.itoa
  split
  · intro c hc
    rcases List.mem_cons.1 hc with rfl | hc
    · decide
    · exact dec_plain _ c hc
  · exact dec_plain _
theorem dec_inj {u v : Nat} (h : Lib.decDigits u = Lib.decDigits v) : u = v := by
  have := congrArg valD h
  rwa [valD_dec, valD_dec] at this
theorem dec_no_minus (u : Nat) (l : List UInt8) : Lib.decDigits u ≠ 45 :: l := fun h => by
  have := dec_range u 45 (by rw [h]; exact List.mem_cons_self)
  exact absurd this.1 (by decide)
theorem itoa_inj {m n : Int} (h : Lib.itoa m = Lib.itoa n) : m = n := by
  unfold Lib.itoa at h
  split at h <;> split at h
  · have := dec_inj (List.cons.inj h).2; omega
  · exact absurd h.symm (dec_no_minus _ _)
  · exact absurd h (dec_no_minus _ _)
  · have := dec_inj h; omega
theorem hex_plain : ∀ k n, Plain (RX.hexL k n)
  | 0, n => fun c hc => by cases hc
  | k + 1, n => fun c hc => by
    rw [RX.hexL] at hc
    rcases List.mem_append.1 hc with hc | hc
    · exact hex_plain k _ c hc
    · simp only [List.mem_cons, List.not_mem_nil, or_false] at hc
      have e := RX.dg_nat (Nat.mod_lt n (by omega : 0 < 16))
      have hl := Nat.mod_lt n (by omega : 0 < 16)
      rw [← hc] at e
      constructor
      · intro e2; subst e2; split at e
        · have : (32 : UInt8).toNat = 32 := rfl
          omega
        · have : (32 : UInt8).toNat = 32 := rfl
          omega
      · intro e2; subst e2; split at e
        · have : (10 : UInt8).toNat = 10 := rfl
          omega
        · have : (10 : UInt8).toNat = 10 := rfl
          omega
theorem hex_inj {k m n : Nat} (h : RX.hexL k m = RX.hexL k n) (hm : m < 16 ^ k) (hn : n < 16 ^ k) : m = n := by
  have := congrArg RX.val h
  rwa [RX.val_hexL, RX.val_hexL, Nat.mod_eq_of_lt hm, Nat.mod_eq_of_lt hn] at this
def Sep (c : UInt8) : Prop := c = 32 ∨ c = 10
theorem cut : ∀ {x y r s : List UInt8} {c d : UInt8}, Plain x → Plain y → Sep c → Sep d → x ++ c :: r = y ++ d :: s → x = y ∧ c :: r = d :: s
  | [], [], _, _, _, _, _, _, _, _, h => ⟨rfl, h⟩
  | [], b :: y, _, _, c, _, _, hy, hc, _, h => by
    have hb := hy b List.mem_cons_self
    have e : c = b := (List.cons.inj h).1
    subst e
    rcases hc with e | e
    · exact absurd e hb.1
    · exact absurd e hb.2
  | b :: x, [], _, _, _, d, hx, _, _, hd, h => by
    have hb := hx b List.mem_cons_self
    have e : b = d := (List.cons.inj h).1
    subst e
    rcases hd with e | e
    · exact absurd e hb.1
    · exact absurd e hb.2
  | a :: x, b :: y, _, _, _, _, hx, hy, hc, hd, h => by
    obtain ⟨e, h'⟩ := List.cons.inj h
    have := cut (fun c hc => hx c (List.mem_cons_of_mem _ hc)) (fun c hc => hy c (List.mem_cons_of_mem _ hc)) hc hd h'
    exact ⟨by rw [e, this.1], this.2⟩
theorem nums_head (ns : List Int) (R : List UInt8) : ∃ c r, numsL ns ++ 10 :: R = c :: r ∧ Sep c := by
  cases ns with
  | nil => exact ⟨10, R, rfl, .inr rfl⟩
  | cons n ns => exact ⟨32, _, rfl, .inl rfl⟩
theorem nums_inj : ∀ {ms ns : List Int} {R S : List UInt8}, ms.length = ns.length → numsL ms ++ 10 :: R = numsL ns ++ 10 :: S → ms = ns ∧ R = S
  | [], [], _, _, _, h => ⟨rfl, (List.cons.inj h).2⟩
  | [], _ :: _, _, _, h, _ => by cases h
  | _ :: _, [], _, _, h, _ => by cases h
  | m :: ms, n :: ns, R, S, hl, h => by
    have h2 : Lib.itoa m ++ (numsL ms ++ 10 :: R) = Lib.itoa n ++ (numsL ns ++ 10 :: S) := by
      have h3 : (32 :: Lib.itoa m) ++ numsL ms ++ 10 :: R = (32 :: Lib.itoa n) ++ numsL ns ++ 10 :: S := h
      simp only [List.cons_append, List.append_assoc, List.cons.injEq, true_and] at h3
      exact h3
    obtain ⟨c, r, e1, hc⟩ := nums_head ms R
    obtain ⟨d, s, e2, hd⟩ := nums_head ns S
    rw [e1, e2] at h2
    obtain ⟨e, h4⟩ := cut (itoa_plain m) (itoa_plain n) hc hd h2
    rw [← e1, ← e2] at h4
    obtain ⟨e5, e6⟩ := nums_inj (by simpa using hl) h4
    exact ⟨by rw [itoa_inj e, e5], e6⟩
theorem line_inj {x y : List UInt8} {ms ns : List Int} {R S : List UInt8} (hx : Plain x) (hy : Plain y) (hl : ms.length = ns.length) (h : lineL x ms ++ R = lineL y ns ++ S) : x = y ∧ ms = ns ∧ R = S := by
  have h2 : x ++ (numsL ms ++ 10 :: R) = y ++ (numsL ns ++ 10 :: S) := by
    unfold lineL at h
    simpa using h
  obtain ⟨c, r, e1, hc⟩ := nums_head ms R
  obtain ⟨d, s, e2, hd⟩ := nums_head ns S
  rw [e1, e2] at h2
  obtain ⟨e, h4⟩ := cut hx hy hc hd h2
  rw [← e1, ← e2] at h4
  obtain ⟨e5, e6⟩ := nums_inj hl h4
  exact ⟨e, e5, e6⟩
theorem flat_inj {α : Type} (f : α → List UInt8) (P : α → Prop) (hf : ∀ a b R S, P a → P b → f a ++ R = f b ++ S → a = b ∧ R = S) : ∀ {xs ys : List α} {R S : List UInt8}, xs.length = ys.length → (∀ x ∈ xs, P x) → (∀ x ∈ ys, P x) → xs.flatMap f ++ R = ys.flatMap f ++ S → xs = ys ∧ R = S
  | [], [], _, _, _, _, _, h => ⟨rfl, h⟩
  | [], _ :: _, _, _, h, _, _, _ => by cases h
  | _ :: _, [], _, _, h, _, _, _ => by cases h
  | x :: xs, y :: ys, R, S, hl, hx, hy, h => by
    rw [List.flatMap_cons, List.flatMap_cons, List.append_assoc, List.append_assoc] at h
    obtain ⟨e1, h2⟩ := hf x y _ _ (hx x List.mem_cons_self) (hy y List.mem_cons_self) h
    obtain ⟨e2, e3⟩ := flat_inj f P hf (by simpa using hl) (fun a ha => hx a (List.mem_cons_of_mem _ ha)) (fun a ha => hy a (List.mem_cons_of_mem _ ha)) h2
    exact ⟨by rw [e1, e2], e3⟩
theorem fold_inj : ∀ {l k : List Int} {m n : Nat}, l.length = k.length → Bytes l → Bytes k → l.foldl (fun n b => n * 256 + b.toNat) m = k.foldl (fun n b => n * 256 + b.toNat) n → m = n ∧ l = k
  | [], [], _, _, _, _, _, h => ⟨h, rfl⟩
  | [], _ :: _, _, _, h, _, _, _ => by cases h
  | _ :: _, [], _, _, h, _, _, _ => by cases h
  | x :: l, y :: k, m, n, hl, hx, hy, h => by
    rw [List.foldl_cons, List.foldl_cons] at h
    obtain ⟨e1, e2⟩ := fold_inj (by simpa using hl) (fun a ha => hx a (List.mem_cons_of_mem _ ha)) (fun a ha => hy a (List.mem_cons_of_mem _ ha)) h
    have h1 := hx x List.mem_cons_self
    have h2 := hy y List.mem_cons_self
    refine ⟨by omega, ?_⟩
    rw [e2, show x = y by omega]
theorem numB_inj {l k : List Int} (hl : l.length = k.length) (hx : Bytes l) (hy : Bytes k) (h : numB l = numB k) : l = k := (fold_inj hl hx hy h).2
theorem words_inj {xs ys : List Int} {R S : List UInt8} (hl : xs.length = ys.length) (hx : ∀ x ∈ xs, 0 ≤ x ∧ x ≤ 4294967295) (hy : ∀ x ∈ ys, 0 ≤ x ∧ x ≤ 4294967295) (h : wordsL xs ++ R = wordsL ys ++ S) : xs = ys ∧ R = S :=
  flat_inj _ (fun x => 0 ≤ x ∧ x ≤ 4294967295) (fun a b R S ha hb h => by
    obtain ⟨e, -, e2⟩ := line_inj (hex_plain _ _) (hex_plain _ _) (by rfl) h
    have := hex_inj e (by omega) (by omega)
    exact ⟨by omega, e2⟩) hl hx hy h
theorem pieces_inj {ds es : List Int} {m : Nat} (hd : ds.length = 8 * m) (he : es.length = 8 * m) (h : (List.range m).map (piece8 ds) = (List.range m).map (piece8 es)) : ds = es := by
  refine List.ext_getElem? fun j => ?_
  by_cases hj : j < 8 * m
  · have hk : j / 8 < m := by omega
    have h1 := congrArg (fun l => l[j / 8]?) h
    simp only [List.getElem?_map, List.getElem?_range hk, Option.map_some, Option.some.injEq] at h1
    have h2 := congrArg (fun l => l[j % 8]?) h1
    unfold piece8 at h2
    simp only [List.getElem?_take, List.getElem?_drop] at h2
    rw [if_pos (by omega), if_pos (by omega), show 8 * (j / 8) + j % 8 = j by omega] at h2
    exact h2
  · rw [List.getElem?_eq_none (by omega), List.getElem?_eq_none (by omega)]
theorem data_inj {ds es : List Int} {m : Nat} {R S : List UInt8} (hd : ds.length = 8 * m) (he : es.length = 8 * m) (hx : Bytes ds) (hy : Bytes es) (h : dataL ds (List.range m) ++ R = dataL es (List.range m) ++ S) : ds = es ∧ R = S := by
  have key : ∀ xs : List Int, dataL xs (List.range m) = ((List.range m).map (piece8 xs)).flatMap fun p => lineL (RX.hexL 16 (numB p)) [] := fun xs => by
    unfold dataL
    rw [List.flatMap_map]
  rw [key, key] at h
  have bd : ∀ {l : List Int}, Bytes l ∧ l.length = 8 → numB l < 16 ^ 16 := fun {l} hb => by
    have := numB_lt l hb.1 8 (by omega)
    rw [List.take_of_length_le (by omega)] at this
    exact this
  obtain ⟨e1, e2⟩ := flat_inj _ (fun p => Bytes p ∧ p.length = 8) (fun a b R S ha hb h => by
    obtain ⟨e, -, e2⟩ := line_inj (hex_plain _ _) (hex_plain _ _) (by rfl) h
    exact ⟨numB_inj (ha.2.trans hb.2.symm) ha.1 hb.1 (hex_inj e (bd ha) (bd hb)), e2⟩) (by simp)
    (fun p hp => by
      obtain ⟨k, hk, rfl⟩ := List.mem_map.1 hp
      exact ⟨piece8_bytes hx k, piece8_len hd (List.mem_range.1 hk)⟩)
    (fun p hp => by
      obtain ⟨k, hk, rfl⟩ := List.mem_map.1 hp
      exact ⟨piece8_bytes hy k, piece8_len he (List.mem_range.1 hk)⟩) h
  exact ⟨pieces_inj hd he e1, e2⟩
theorem bit_inj {a b : Bool} (h : bitI a = bitI b) : a = b := by cases a <;> cases b <;> first | rfl | (unfold bitI at h; simp at h)
theorem name_ext {a b : ByteArray} (h : a.data.toList = b.data.toList) : a = b := by
  obtain ⟨⟨a⟩⟩ := a
  obtain ⟨⟨b⟩⟩ := b
  simp only at h
  rw [h]
theorem syms_inj {xs ys : List SymV} {R S : List UInt8} (hl : xs.length = ys.length) (hx : ∀ x ∈ xs, Plain x.name.data.toList) (hy : ∀ x ∈ ys, Plain x.name.data.toList) (h : symsL xs ++ R = symsL ys ++ S) : xs = ys ∧ R = S :=
  flat_inj _ (fun x => Plain x.name.data.toList) (fun a b R S ha hb h => by
    obtain ⟨e, e1, e2⟩ := line_inj ha hb (by rfl) h
    obtain ⟨a0, a1, a2, a3, a4⟩ := a
    obtain ⟨b0, b1, b2, b3, b4⟩ := b
    simp only [List.cons.injEq, and_true] at e1
    obtain ⟨e3, e4, e5, e6⟩ := e1
    have e7 : a0 = b0 := name_ext e
    have e8 := bit_inj e6
    exact ⟨by rw [e3, e4, e5, e7, e8], e2⟩) hl hx hy h
theorem rels_inj {xs ys : List RelV} {R S : List UInt8} (hl : xs.length = ys.length) (h : relsL xs ++ R = relsL ys ++ S) : xs = ys ∧ R = S :=
  flat_inj _ (fun _ => True) (fun a b R S ha hb h => by
    obtain ⟨e, e1, e2⟩ := line_inj (itoa_plain _) (itoa_plain _) (by rfl) h
    obtain ⟨a0, a1, a2, a3, a4⟩ := a
    obtain ⟨b0, b1, b2, b3, b4⟩ := b
    simp only [List.cons.injEq, and_true] at e1
    obtain ⟨e3, e4, e5, e6⟩ := e1
    have e7 : a0 = b0 := itoa_inj e
    exact ⟨by rw [e3, e4, e5, e6, e7], e2⟩) hl (fun _ _ => trivial) (fun _ _ => trivial) h
theorem plain_of (l : List UInt8) (h : l.all (fun c => c != 32 && c != 10) = true) : Plain l := fun c hc => by
  have := List.all_eq_true.1 h c hc
  simpa using this
theorem p_obj : Plain [111, 98, 106, 101, 99, 116] := plain_of _ (by decide)
theorem p_text : Plain [116, 101, 120, 116] := plain_of _ (by decide)
theorem p_data : Plain [100, 97, 116, 97] := plain_of _ (by decide)
theorem p_syms : Plain [115, 121, 109, 115] := plain_of _ (by decide)
theorem p_rels : Plain [114, 101, 108, 115] := plain_of _ (by decide)
/-- ONE TEXT, ONE OBJECT -/
theorem obj_inj {a b : ObjV} (wa : a.Wf) (wb : b.Wf) (na : ∀ s ∈ a.ss, Plain s.name.data.toList) (nb : ∀ s ∈ b.ss, Plain s.name.data.toList) (da : a.ds.length % 8 = 0) (db : b.ds.length % 8 = 0) (h : objL a = objL b) : a = b := by
  unfold objL t1 t2 t3 t4 at h
  simp only [List.append_assoc] at h
  obtain ⟨-, -, h⟩ := line_inj p_obj p_obj (by rfl) h
  obtain ⟨-, e, h⟩ := line_inj p_text p_text (by rfl) h
  have e1 : a.ws.length = b.ws.length := Int.ofNat_inj.1 (List.cons.inj e).1
  obtain ⟨ews, h⟩ := words_inj e1 wa.ws wb.ws h
  obtain ⟨-, e, h⟩ := line_inj p_data p_data (by rfl) h
  have e2 : a.ds.length = b.ds.length := Int.ofNat_inj.1 (List.cons.inj e).1
  rw [← e2] at h
  obtain ⟨eds, h⟩ := data_inj (m := a.ds.length / 8) (by omega) (by omega) wa.ds wb.ds h
  obtain ⟨-, e, h⟩ := line_inj p_syms p_syms (by rfl) h
  have e3 : a.ss.length = b.ss.length := Int.ofNat_inj.1 (List.cons.inj e).1
  obtain ⟨ess, h⟩ := syms_inj e3 na nb h
  obtain ⟨-, e, h⟩ := line_inj p_rels p_rels (by rfl) h
  have e4 : a.rs.length = b.rs.length := Int.ofNat_inj.1 (List.cons.inj e).1
  obtain ⟨ers, h⟩ := rels_inj e4 h
  obtain ⟨a0, a1, a2, a3⟩ := a
  obtain ⟨b0, b1, b2, b3⟩ := b
  simp only at ews eds ess ers
  rw [ews, eds, ess, ers]
theorem plain_name {s : ByteArray} (h : OM.nameB s = true) : Plain s.data.toList := fun c hc => by
  unfold OM.nameB OM.okFrom at h
  rw [List.drop_zero] at h
  simp only [Bool.and_eq_true] at h
  have h2 := List.all_eq_true.1 h.2 c hc
  rw [OM.okI_iff] at h2
  constructor
  · intro e
    subst e
    exact absurd h2 (by decide)
  · intro e
    subst e
    exact absurd h2 (by decide)
end OInj
end Go.Proofs.YtieehjkmfmkfjaaGreatDoor
