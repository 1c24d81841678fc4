/-
  An object, plainly: its words, bytes, symbols and relocations, where they lie in memory, and its text. No condition.
-/
import Derived.Test.YtelapdeejedkgaaGreatDoorObjC
import Derived.Test.YtelapdeejedkgaaGreatDoorObjD
namespace Go.Proofs.YtelapdeejedkgaaGreatDoor
open Go.RowKit
set_option linter.unusedVariables false
set_option linter.unusedSimpArgs false
namespace OO
open OJ OL OC
structure SymV where
  name : ByteArray
  sect : Int
  val : Int
  frame : Int
  glob : Bool
structure RelV where
  sect : Int
  place : Int
  kind : Int
  sym : Int
  add : Int
structure ObjV where
  ws : List Int
  ds : List Int
  ss : List SymV
  rs : List RelV
def I64 (n : Int) : Prop := -9223372036854775808 ≤ n ∧ n ≤ 9223372036854775807
structure SymV.Wf (s : SymV) : Prop where
  name : s.name.size ≤ maxLen
  sect : I64 s.sect
  val : I64 s.val
  frame : I64 s.frame
structure RelV.Wf (r : RelV) : Prop where
  sect : I64 r.sect
  place : I64 r.place
  kind : I64 r.kind
  sym : I64 r.sym
  add : I64 r.add
structure ObjV.Wf (o : ObjV) : Prop where
  ws : ∀ x ∈ o.ws, 0 ≤ x ∧ x ≤ 4294967295
  ds : Bytes o.ds
  ss : ∀ s ∈ o.ss, s.Wf
  rs : ∀ r ∈ o.rs, r.Wf
/-- not too much to be gone through -/
structure ObjV.Lim (o : ObjV) : Prop where
  ws : o.ws.length ≤ 65536
  ds : o.ds.length ≤ 65536
  ss : o.ss.length ≤ 65536
  rs : o.rs.length ≤ 65536
  names : ∀ s ∈ o.ss, s.name.size ≤ 65536
/-- a slice below n₀ whose place has F, if there is something in it -/
def Sl (n₀ : Nat) (v : Value) (n : Nat) (F : Nat → Nat → Prop) : Prop :=
  ∃ p c, v = .slice p n c ∧ (0 < n → ∃ b o, p = some ⟨b, o, none⟩ ∧ b < n₀ ∧ n ≤ c ∧ c ≤ maxLen ∧ F b o)
theorem Sl.mono {n₀ n₁ : Nat} {v : Value} {n : Nat} {F G : Nat → Nat → Prop} (h : Sl n₀ v n F) (hn : n₀ ≤ n₁) (hF : ∀ b o, b < n₀ → F b o → G b o) : Sl n₁ v n G := by
  obtain ⟨p, c, rfl, hh⟩ := h
  refine ⟨p, c, rfl, fun h0 => ?_⟩
  obtain ⟨b, o, e, hb, h1, h2, h3⟩ := hh h0
  exact ⟨b, o, e, Nat.lt_of_lt_of_le hb hn, h1, h2, hF b o hb h3⟩
structure SymAt (w : World) (b o : Nat) (s : SymV) : Prop where
  c0 : w.cell? ⟨b, o, none⟩ = some (.string s.name)
  c1 : w.cell? ⟨b, o + 1, none⟩ = some (.int .i64 s.sect)
  c2 : w.cell? ⟨b, o + 2, none⟩ = some (.int .i64 s.val)
  c3 : w.cell? ⟨b, o + 3, none⟩ = some (.int .i64 s.frame)
  c4 : w.cell? ⟨b, o + 4, none⟩ = some (.bool s.glob)
structure RelAt (w : World) (b o : Nat) (r : RelV) : Prop where
  c0 : w.cell? ⟨b, o, none⟩ = some (.int .i64 r.sect)
  c1 : w.cell? ⟨b, o + 1, none⟩ = some (.int .i64 r.place)
  c2 : w.cell? ⟨b, o + 2, none⟩ = some (.int .i64 r.kind)
  c3 : w.cell? ⟨b, o + 3, none⟩ = some (.int .i64 r.sym)
  c4 : w.cell? ⟨b, o + 4, none⟩ = some (.int .i64 r.add)
def Nums8 (k : IntKind) (n₀ : Nat) (w : World) (v : Value) (xs : List Int) : Prop := Sl n₀ v xs.length fun b o => Row k w b o xs
def Syms (n₀ : Nat) (w : World) (v : Value) (ss : List SymV) : Prop := Sl n₀ v ss.length fun b o => ∀ j s, ss[j]? = some s → SymAt w b (o + j * 5) s
def Rels (n₀ : Nat) (w : World) (v : Value) (rs : List RelV) : Prop := Sl n₀ v rs.length fun b o => ∀ j r, rs[j]? = some r → RelAt w b (o + j * 5) r
structure ObjAt (n₀ : Nat) (w : World) (v0 v1 v2 v3 : Value) (o : ObjV) : Prop where
  ws : Nums8 .u32 n₀ w v0 o.ws
  ds : Nums8 .u8 n₀ w v1 o.ds
  ss : Syms n₀ w v2 o.ss
  rs : Rels n₀ w v3 o.rs
section
variable {n₀ : Nat} {w w' : World}
theorem row_below {k : IntKind} {b o : Nat} {xs : List Int} (h : Row k w b o xs) (hb : Below n₀ w w') (hlt : b < n₀) : Row k w' b o xs := fun j x hj => (hb.cell (p := ⟨b, o + j, none⟩) hlt).trans (h j x hj)
theorem SymAt.below {b o : Nat} {s : SymV} (h : SymAt w b o s) (hb : Below n₀ w w') (hlt : b < n₀) : SymAt w' b o s :=
  ⟨(hb.cell (p := ⟨b, o, none⟩) hlt).trans h.c0, (hb.cell (p := ⟨b, o + 1, none⟩) hlt).trans h.c1, (hb.cell (p := ⟨b, o + 2, none⟩) hlt).trans h.c2, (hb.cell (p := ⟨b, o + 3, none⟩) hlt).trans h.c3, (hb.cell (p := ⟨b, o + 4, none⟩) hlt).trans h.c4⟩
theorem RelAt.below {b o : Nat} {s : RelV} (h : RelAt w b o s) (hb : Below n₀ w w') (hlt : b < n₀) : RelAt w' b o s :=
  ⟨(hb.cell (p := ⟨b, o, none⟩) hlt).trans h.c0, (hb.cell (p := ⟨b, o + 1, none⟩) hlt).trans h.c1, (hb.cell (p := ⟨b, o + 2, none⟩) hlt).trans h.c2, (hb.cell (p := ⟨b, o + 3, none⟩) hlt).trans h.c3, (hb.cell (p := ⟨b, o + 4, none⟩) hlt).trans h.c4⟩
theorem ObjAt.below {v0 v1 v2 v3 : Value} {o : ObjV} (h : ObjAt n₀ w v0 v1 v2 v3 o) (hb : Below n₀ w w') : ObjAt n₀ w' v0 v1 v2 v3 o :=
  ⟨h.ws.mono (Nat.le_refl _) fun b o hlt hr => row_below hr hb hlt, h.ds.mono (Nat.le_refl _) fun b o hlt hr => row_below hr hb hlt,
   h.ss.mono (Nat.le_refl _) fun b o hlt hr j s hj => (hr j s hj).below hb hlt, h.rs.mono (Nat.le_refl _) fun b o hlt hr j s hj => (hr j s hj).below hb hlt⟩
theorem ObjAt.up {n₁ : Nat} {v0 v1 v2 v3 : Value} {o : ObjV} (h : ObjAt n₀ w v0 v1 v2 v3 o) (hn : n₀ ≤ n₁) : ObjAt n₁ w v0 v1 v2 v3 o :=
  ⟨h.ws.mono hn fun b o hlt hr => hr, h.ds.mono hn fun b o hlt hr => hr, h.ss.mono hn fun b o hlt hr => hr, h.rs.mono hn fun b o hlt hr => hr⟩
end
/-! ### the text -/
def piece8 (ds : List Int) (k : Nat) : List Int := (ds.drop (8 * k)).take 8
def wordsL (ws : List Int) : List UInt8 := ws.flatMap fun x => lineL (RX.hexL 8 x.toNat) []
def dataL (ds : List Int) (ks : List Nat) : List UInt8 := ks.flatMap fun k => lineL (RX.hexL 16 (numB (piece8 ds k))) []
def bitI (b : Bool) : Int := if b then 1 else 0
def symL (s : SymV) : List UInt8 := lineL s.name.data.toList [s.sect, s.val, s.frame, bitI s.glob]
def relL (r : RelV) : List UInt8 := lineL (Lib.itoa r.sect) [r.place, r.kind, r.sym, r.add]
def symsL (ss : List SymV) : List UInt8 := ss.flatMap symL
def relsL (rs : List RelV) : List UInt8 := rs.flatMap relL
def t1 (o : ObjV) : List UInt8 := lineL [111, 98, 106, 101, 99, 116] [] ++ lineL [116, 101, 120, 116] [(o.ws.length : Int)]
def t2 (o : ObjV) : List UInt8 := lineL [100, 97, 116, 97] [(o.ds.length : Int)]
def t3 (o : ObjV) : List UInt8 := lineL [115, 121, 109, 115] [(o.ss.length : Int)]
def t4 (o : ObjV) : List UInt8 := lineL [114, 101, 108, 115] [(o.rs.length : Int)]
def t5 : List UInt8 := lineL [101, 110, 100] []
def objL (o : ObjV) : List UInt8 := t1 o ++ wordsL o.ws ++ t2 o ++ dataL o.ds (List.range (o.ds.length / 8)) ++ t3 o ++ symsL o.ss ++ t4 o ++ relsL o.rs ++ t5
theorem lineL_len (s : List UInt8) (ns : List Int) (hn : ∀ n ∈ ns, I64 n) : (lineL s ns).length ≤ s.length + 22 * ns.length + 1 := by
  have := numsL_len ns hn
  unfold lineL
  simp only [List.length_append, List.length_cons, List.length_nil]
  omega
theorem flat_len {α : Type} (l : List α) (f : α → List UInt8) (k : Nat) (h : ∀ a ∈ l, (f a).length ≤ k) : (l.flatMap f).length ≤ k * l.length := by
  induction l with
  | nil => simp
  | cons a l ih =>
    rw [List.flatMap_cons, List.length_append, List.length_cons, Nat.mul_succ]
    have h1 := h a (by simp)
    have h2 := ih fun b hb => h b (by simp [hb])
    omega
theorem bitI_i64 (b : Bool) : I64 (bitI b) := by cases b <;> (unfold bitI I64; simp)
theorem words_len (ws : List Int) : (wordsL ws).length ≤ 9 * ws.length := flat_len _ _ _ fun a _ => by
  have := lineL_len (RX.hexL 8 a.toNat) [] (by simp)
  rw [RX.hexL_length] at this
  simpa using this
theorem data_len (ds : List Int) (ks : List Nat) : (dataL ds ks).length ≤ 17 * ks.length := flat_len _ _ _ fun a _ => by
  have := lineL_len (RX.hexL 16 (numB (piece8 ds a))) [] (by simp)
  rw [RX.hexL_length] at this
  simpa using this
theorem syms_len (ss : List SymV) (hw : ∀ s ∈ ss, s.Wf) (hn : ∀ s ∈ ss, s.name.size ≤ 65536) : (symsL ss).length ≤ 65700 * ss.length := flat_len _ _ _ fun s hs => by
  have hw := hw s hs
  have := lineL_len s.name.data.toList [s.sect, s.val, s.frame, bitI s.glob] (by
    intro n hn
    simp only [List.mem_cons, List.not_mem_nil, or_false] at hn
    rcases hn with rfl | rfl | rfl | rfl
    · exact hw.sect
    · exact hw.val
    · exact hw.frame
    · exact bitI_i64 _)
  have h2 := hn s hs
  have hz : s.name.data.size = s.name.size := rfl
  simp only [Array.length_toList, List.length_cons, List.length_nil] at this
  unfold symL
  omega
theorem rels_len (rs : List RelV) (hw : ∀ s ∈ rs, s.Wf) : (relsL rs).length ≤ 120 * rs.length := flat_len _ _ _ fun r hr => by
  have hw := hw r hr
  have := lineL_len (Lib.itoa r.sect) [r.place, r.kind, r.sym, r.add] (by
    intro n hn
    simp only [List.mem_cons, List.not_mem_nil, or_false] at hn
    rcases hn with rfl | rfl | rfl | rfl
    · exact hw.place
    · exact hw.kind
    · exact hw.sym
    · exact hw.add)
  have h2 := Lib.itoa_length_le r.sect hw.sect.1 hw.sect.2
  simp only [List.length_cons, List.length_nil] at this
  unfold relL
  omega
theorem piece8_len {ds : List Int} {m k : Nat} (h : ds.length = 8 * m) (hk : k < m) : (piece8 ds k).length = 8 := by
  unfold piece8
  rw [List.length_take, List.length_drop]
  omega
theorem piece8_bytes {ds : List Int} (h : Bytes ds) (k : Nat) : Bytes (piece8 ds k) := fun x hx => h x (List.mem_of_mem_drop (List.mem_of_mem_take hx))
theorem piece8_row {k : Nat} {w : World} {b o : Nat} {ds : List Int} (h : Row .u8 w b o ds) : Row .u8 w b (o + 8 * k) (piece8 ds k) := fun j x hj => by
  unfold piece8 at hj
  rw [List.getElem?_take] at hj
  split at hj
  · rw [List.getElem?_drop] at hj
    rw [Nat.add_assoc]
    exact h _ _ hj
  · cases hj
theorem piece8_lt {ds : List Int} (h : Bytes ds) {m k : Nat} (hl : ds.length = 8 * m) (hk : k < m) : numB (piece8 ds k) < 18446744073709551616 := by
  have := numB_lt (piece8 ds k) (piece8_bytes h k) 8 (by rw [piece8_len hl hk]; exact Nat.le_refl _)
  rw [List.take_of_length_le (by rw [piece8_len hl hk]; exact Nat.le_refl _)] at this
  exact this
end OO
end Go.Proofs.YtelapdeejedkgaaGreatDoor
