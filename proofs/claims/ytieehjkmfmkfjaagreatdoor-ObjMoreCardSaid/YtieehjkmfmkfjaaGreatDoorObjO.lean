/-
  An object, plainly: its words, bytes, symbols and relocations, where they lie in memory, and its text. No condition.
-/
import Derived.Test.YtieehjkmfmkfjaaGreatDoorObjR
import Derived.Test.YtieehjkmfmkfjaaGreatDoorObjC
import Derived.Test.YtieehjkmfmkfjaaGreatDoorObjD
namespace Go.Proofs.YtieehjkmfmkfjaaGreatDoor
open Go.RowKit
set_option linter.unusedVariables false
set_option linter.unusedSimpArgs false
namespace OO
open OJ OL OC
/-! ### the text -/
def piece8 (ds : List Int) (k : Nat) : List Int := (ds.drop (8 * k)).take 8
def wordsL (ws : List Int) : List UInt8 := ws.flatMap fun x => lineL (RX.hexL 8 x.toNat) []
def dataL (ds : List Int) (ks : List Nat) : List UInt8 := ks.flatMap fun k => lineL (RX.hexL 16 (numB (piece8 ds k))) []
def bitI (b : Bool) : Int := if b then 1 else 0
def symL (s : SymV) : List UInt8 := lineL s.name.data.toList [s.sect, s.val, s.frame, bitI s.glob]
def relL (r : RelV) : List UInt8 := lineL (Lib.itoa r.sect) [r.place, r.kind, r.sym, r.add]
def symsL (ss : List SymV) : List UInt8 := ss.flatMap symL
def relsL (rs : List RelV) : List UInt8 := rs.flatMap relL
def t1 (o : ObjV) : List UInt8 := lineL [111, 98, 106, 101, 99, 116] [] ++ lineL [116, 101, 120, 116] [(o.ws.length : Int)]
def t2 (o : ObjV) : List UInt8 := lineL [100, 97, 116, 97] [(o.ds.length : Int)]
def t3 (o : ObjV) : List UInt8 := lineL [115, 121, 109, 115] [(o.ss.length : Int)]
def t4 (o : ObjV) : List UInt8 := lineL [114, 101, 108, 115] [(o.rs.length : Int)]
def t5 : List UInt8 := lineL [101, 110, 100] []
def objL (o : ObjV) : List UInt8 := t1 o ++ wordsL o.ws ++ t2 o ++ dataL o.ds (List.range (o.ds.length / 8)) ++ t3 o ++ symsL o.ss ++ t4 o ++ relsL o.rs ++ t5
theorem lineL_len (s : List UInt8) (ns : List Int) (hn : ∀ n ∈ ns, I64 n) : (lineL s ns).length ≤ s.length + 22 * ns.length + 1 := by
  have := numsL_len ns hn
  unfold lineL
  simp only [List.length_append, List.length_cons, List.length_nil]
  omega
theorem flat_len {α : Type} (l : List α) (f : α → List UInt8) (k : Nat) (h : ∀ a ∈ l, (f a).length ≤ k) : (l.flatMap f).length ≤ k * l.length := by
  induction l with
  | nil => simp
  | cons a l ih =>
    rw [List.flatMap_cons, List.length_append, List.length_cons, Nat.mul_succ]
    have h1 := h a (by simp)
    have h2 := ih fun b hb => h b (by simp [hb])
    omega
theorem bitI_i64 (b : Bool) : I64 (bitI b) := by cases b <;> (unfold bitI I64; simp)
theorem words_len (ws : List Int) : (wordsL ws).length ≤ 9 * ws.length := flat_len _ _ _ fun a _ => by
  have := lineL_len (RX.hexL 8 a.toNat) [] (by simp)
  rw [RX.hexL_length] at this
  simpa using this
theorem data_len (ds : List Int) (ks : List Nat) : (dataL ds ks).length ≤ 17 * ks.length := flat_len _ _ _ fun a _ => by
  have := lineL_len (RX.hexL 16 (numB (piece8 ds a))) [] (by simp)
  rw [RX.hexL_length] at this
  simpa using this
theorem syms_len (ss : List SymV) (hw : ∀ s ∈ ss, s.Wf) (hn : ∀ s ∈ ss, s.name.size ≤ 65536) : (symsL ss).length ≤ 65700 * ss.length := flat_len _ _ _ fun s hs => by
  have hw := hw s hs
  have := lineL_len s.name.data.toList [s.sect, s.val, s.frame, bitI s.glob] (by
    intro n hn
    simp only [List.mem_cons, List.not_mem_nil, or_false] at hn
    rcases hn with rfl | rfl | rfl | rfl
    · exact hw.sect
    · exact hw.val
    · exact hw.frame
    · exact bitI_i64 _)
  have h2 := hn s hs
  have hz : s.name.data.size = s.name.size := rfl
  simp only [Array.length_toList, List.length_cons, List.length_nil] at this
  unfold symL
  omega
theorem rels_len (rs : List RelV) (hw : ∀ s ∈ rs, s.Wf) : (relsL rs).length ≤ 120 * rs.length := flat_len _ _ _ fun r hr => by
  have hw := hw r hr
  have := lineL_len (Lib.itoa r.sect) [r.place, r.kind, r.sym, r.add] (by
    intro n hn
    simp only [List.mem_cons, List.not_mem_nil, or_false] at hn
    rcases hn with rfl | rfl | rfl | rfl
    · exact hw.place
    · exact hw.kind
    · exact hw.sym
    · exact hw.add)
  have h2 := Lib.itoa_length_le r.sect hw.sect.1 hw.sect.2
  simp only [List.length_cons, List.length_nil] at this
  unfold relL
  omega
theorem piece8_len {ds : List Int} {m k : Nat} (h : ds.length = 8 * m) (hk : k < m) : (piece8 ds k).length = 8 := by
  unfold piece8
  rw [List.length_take, List.length_drop]
  omega
theorem piece8_bytes {ds : List Int} (h : Bytes ds) (k : Nat) : Bytes (piece8 ds k) := fun x hx => h x (List.mem_of_mem_drop (List.mem_of_mem_take hx))
theorem piece8_row {k : Nat} {w : World} {b o : Nat} {ds : List Int} (h : Row .u8 w b o ds) : Row .u8 w b (o + 8 * k) (piece8 ds k) := fun j x hj => by
  unfold piece8 at hj
  rw [List.getElem?_take] at hj
  split at hj
  · rw [List.getElem?_drop] at hj
    rw [Nat.add_assoc]
    exact h _ _ hj
  · cases hj
theorem piece8_lt {ds : List Int} (h : Bytes ds) {m k : Nat} (hl : ds.length = 8 * m) (hk : k < m) : numB (piece8 ds k) < 18446744073709551616 := by
  have := numB_lt (piece8 ds k) (piece8_bytes h k) 8 (by rw [piece8_len hl hk]; exact Nat.le_refl _)
  rw [List.take_of_length_le (by rw [piece8_len hl hk]; exact Nat.le_refl _)] at this
  exact this
end OO
end Go.Proofs.YtieehjkmfmkfjaaGreatDoor
