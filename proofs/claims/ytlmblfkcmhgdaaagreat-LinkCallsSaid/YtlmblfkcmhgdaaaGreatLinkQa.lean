/-
  Rows of bytes, plainly: words and bytes put into them, and read. No condition.
  Words of the image, read and put: contracts. Condition: the image's bytes lie in a block of their own.
  The words ahead of all objects: a contract. No condition.
  The closure that catches what is too far: contracts, where something is thrown and where nothing is. Condition: the two boxes lie apart.
  What a target is, plainly: a symbol that is defined and bears the name. It speaks of no program.
  Images of objects, plainly: words and bytes put into a row, relocations carried out one by one. No condition.
  What good objects' relocations and main lead to, plainly: within the image. It speaks of no program.
-/
import Derived.Test.YtlmblfkcmhgdaaaGreatObjQa
import Derived.Laws.CopyOwn
import Derived.Test.YtlmblfkcmhgdaaaGreatRows
import Derived.RegionTactic
import Derived.BigRegion
import Derived.BigQuiet
import Derived.Test.YtlmblfkcmhgdaaaGreatCodeQe
import Derived.Deep.AppendLies
import Derived.Defers
import Derived.Recover
import Derived.Laws.Pointers
import Derived.Test.YtlmblfkcmhgdaaaGreatResQb
import Derived.Test.YtlmblfkcmhgdaaaGreatLayQa
import Derived.Test.YtlmblfkcmhgdaaaGreatPatQa
namespace Go.Proofs.YtlmblfkcmhgdaaaGreat
open Go.RowKit
set_option linter.unusedVariables false
set_option linter.unusedSimpArgs false
namespace KB
open OO OJ
/-- the lowest bytes of a word, from a on -/
def putB (bs : List Int) (a : Nat) (x : Int) : Nat → List Int
  | 0 => bs
  | n + 1 => (putB bs a x n).set (a + n) (x / 256 ^ n % 256)
def put4 (bs : List Int) (a : Nat) (x : Int) : List Int := putB bs a x 4
def putW (bs : List Int) (a : Nat) (xs : List Int) : Nat → List Int
  | 0 => bs
  | j + 1 => put4 (putW bs a xs j) (a + 4 * j) (xs.getD j 0)
def numTo (bs : List Int) (a : Nat) : Nat → Int
  | 0 => 0
  | k + 1 => numTo bs a k + bs.getD (a + k) 0 * 256 ^ k
def word (bs : List Int) (a : Nat) : Int := numTo bs a 4
theorem putB_length (bs : List Int) (a : Nat) (x : Int) : ∀ n, (putB bs a x n).length = bs.length
  | 0 => rfl
  | n + 1 => by rw [putB, List.length_set, putB_length bs a x n]
theorem put4_length (bs : List Int) (a : Nat) (x : Int) : (put4 bs a x).length = bs.length := putB_length bs a x 4
theorem putW_length (bs : List Int) (a : Nat) (xs : List Int) : ∀ j, (putW bs a xs j).length = bs.length
  | 0 => rfl
  | j + 1 => by rw [putW, put4_length, putW_length bs a xs j]
theorem bytes_set {bs : List Int} (h : OJ.Bytes bs) (i : Nat) {x : Int} (hx : 0 ≤ x ∧ x ≤ 255) : OJ.Bytes (bs.set i x) := by
  intro y hy
  rcases List.mem_or_eq_of_mem_set hy with hy | rfl
  · exact h y hy
  · exact hx
theorem putB_bytes {bs : List Int} (h : OJ.Bytes bs) (a : Nat) (x : Int) : ∀ n, OJ.Bytes (putB bs a x n)
  | 0 => h
  | n + 1 => bytes_set (putB_bytes h a x n) _ (by omega)
theorem put4_bytes {bs : List Int} (h : OJ.Bytes bs) (a : Nat) (x : Int) : OJ.Bytes (put4 bs a x) := putB_bytes h a x 4
theorem putW_bytes {bs : List Int} (h : OJ.Bytes bs) (a : Nat) (xs : List Int) : ∀ j, OJ.Bytes (putW bs a xs j)
  | 0 => h
  | j + 1 => put4_bytes (putW_bytes h a xs j) _ _
theorem getD_bd {bs : List Int} (h : OJ.Bytes bs) (k : Nat) : 0 ≤ bs.getD k 0 ∧ bs.getD k 0 ≤ 255 := by
  rw [List.getD_eq_getElem?_getD]
  cases e : bs[k]? with
  | none => simp
  | some x => exact h x (List.mem_of_getElem? e)
theorem numTo_bd {bs : List Int} (h : OJ.Bytes bs) (a : Nat) : ∀ k, 0 ≤ numTo bs a k ∧ numTo bs a k < 256 ^ k
  | 0 => by simp [numTo]
  | k + 1 => by
    have h1 := numTo_bd h a k
    have h2 := getD_bd h (a + k)
    rw [numTo, Int.pow_succ]
    obtain ⟨p, hp⟩ : ∃ p : Int, p = 256 ^ k := ⟨_, rfl⟩
    rw [← hp] at h1 ⊢
    have h3 : bs.getD (a + k) 0 * p ≤ 255 * p := Int.mul_le_mul_of_nonneg_right h2.2 (by omega)
    have h4 : 0 ≤ bs.getD (a + k) 0 * p := Int.mul_nonneg h2.1 (by omega)
    omega
theorem word_bd {bs : List Int} (h : OJ.Bytes bs) (a : Nat) : 0 ≤ word bs a ∧ word bs a < 4294967296 := by
  have := numTo_bd h a 4
  rwa [show ((256 : Int) ^ 4) = 4294967296 by decide] at this
def zeros (n : Nat) : List Int := List.replicate n 0
theorem zeros_bytes (n : Nat) : OJ.Bytes (zeros n) := by
  intro x hx
  obtain rfl := List.eq_of_mem_replicate hx
  omega
theorem splice_bytes {bs : List Int} (h : OJ.Bytes bs) (a : Nat) {ds : List Int} (hd : OJ.Bytes ds) : OJ.Bytes (splice bs a ds) := by
  intro x hx
  unfold splice at hx
  rcases List.mem_append.1 hx with hx | hx
  · exact h x (List.mem_of_mem_take hx)
  · rcases List.mem_append.1 hx with hx | hx
    · exact hd x hx
    · exact h x (List.mem_of_mem_drop hx)
/-! ### what stands where -/
theorem putB_get (bs : List Int) (a : Nat) (x : Int) (p : Nat) : ∀ n, a + n ≤ bs.length → (putB bs a x n)[p]? = if a ≤ p ∧ p < a + n then some (x / 256 ^ (p - a) % 256) else bs[p]?
  | 0, _ => by rw [if_neg (by omega)]; rfl
  | n + 1, h => by
    rw [putB, List.getElem?_set]
    have ih := putB_get bs a x p n (by omega)
    by_cases e : a + n = p
    · subst e
      rw [if_pos rfl, if_pos (by rw [putB_length]; omega), if_pos (by omega), show a + n - a = n by omega]
    · rw [if_neg e, ih]
      by_cases e2 : a ≤ p ∧ p < a + n
      · rw [if_pos e2, if_pos (by omega)]
      · rw [if_neg e2, if_neg (by omega)]
theorem put4_get (bs : List Int) (a : Nat) (x : Int) (p : Nat) (h : a + 4 ≤ bs.length) : (put4 bs a x)[p]? = if a ≤ p ∧ p < a + 4 then some (x / 256 ^ (p - a) % 256) else bs[p]? := putB_get bs a x p 4 h
theorem put4_far {bs : List Int} {a : Nat} {x : Int} {p : Nat} (h : p < a ∨ a + 4 ≤ p) : (put4 bs a x)[p]? = bs[p]? := by
  have key : ∀ n, n ≤ 4 → (putB bs a x n)[p]? = bs[p]? := by
    intro n
    induction n with
    | zero => intro _; rfl
    | succ n ih =>
      intro hn
      rw [putB, List.getElem?_set, if_neg (by omega), ih (by omega)]
  exact key 4 (Nat.le_refl _)
theorem putW_get (bs : List Int) (a : Nat) (xs : List Int) (p : Nat) : ∀ j, a + 4 * j ≤ bs.length → (putW bs a xs j)[p]? = if a ≤ p ∧ p < a + 4 * j then some (xs.getD ((p - a) / 4) 0 / 256 ^ ((p - a) % 4) % 256) else bs[p]?
  | 0, _ => by rw [if_neg (by omega)]; rfl
  | j + 1, h => by
    have ih := putW_get bs a xs p j (by omega)
    rw [putW, put4_get _ _ _ _ (by rw [putW_length]; omega), ih]
    by_cases e : a + 4 * j ≤ p ∧ p < a + 4 * j + 4
    · rw [if_pos e, if_pos (by omega), show (p - a) / 4 = j by omega, show (p - a) % 4 = p - (a + 4 * j) by omega]
    · rw [if_neg e]
      by_cases e2 : a ≤ p ∧ p < a + 4 * j
      · rw [if_pos e2, if_pos (by omega)]
      · rw [if_neg e2, if_neg (by omega)]
theorem splice_get (bs : List Int) (a : Nat) (ds : List Int) (p : Nat) (h : a + ds.length ≤ bs.length) : (splice bs a ds)[p]? = if a ≤ p ∧ p < a + ds.length then ds[p - a]? else bs[p]? := by
  have hl : (bs.take a).length = a := by rw [List.length_take]; omega
  unfold splice
  by_cases e1 : p < a
  · rw [List.getElem?_append_left (by omega), List.getElem?_take, if_pos e1, if_neg (by omega)]
  · rw [List.getElem?_append_right (by omega), hl]
    by_cases e2 : p < a + ds.length
    · rw [List.getElem?_append_left (by omega), if_pos (by omega)]
    · rw [List.getElem?_append_right (by omega), List.getElem?_drop, if_neg (by omega)]
      congr 1
      omega
theorem num_get {bs : List Int} {a : Nat} {x : Int} (hx : 0 ≤ x ∧ x < 4294967296) (h : ∀ k, k < 4 → bs.getD (a + k) 0 = x / 256 ^ k % 256) : word bs a = x := by
  have h0 := h 0 (by omega)
  have h1 := h 1 (by omega)
  have h2 := h 2 (by omega)
  have h3 := h 3 (by omega)
  unfold word
  simp only [numTo, h0, h1, h2, h3]
  simp only [show ((256 : Int) ^ 0) = 1 from rfl, show ((256 : Int) ^ 1) = 256 from rfl, show ((256 : Int) ^ 2) = 65536 from rfl, show ((256 : Int) ^ 3) = 16777216 from rfl]
  omega
/-! ### in memory -/
def img (bs : List Int) : List Value := bs.map (.int .u8)
theorem img_length (bs : List Int) : (img bs).length = bs.length := by simp [img]
theorem img_set (bs : List Int) (i : Nat) (x : Int) : (img bs).toArray.setIfInBounds i (.int .u8 x) = (img (bs.set i x)).toArray := by
  unfold img
  rw [List.setIfInBounds_toArray, List.map_set]
theorem img_splice (bs : List Int) (a : Nat) (ds : List Int) : splice (img bs) a (img ds) = img (splice bs a ds) := by
  unfold splice img
  simp [List.map_take, List.map_drop]
theorem img_get {w : World} {g : Nat} {bs : List Int} {T : TypeId} (h : w.heap[g]? = some (.cells (img bs).toArray T (0, 0))) (i : Nat) (hi : i < bs.length) : w.cell? ⟨g, i, none⟩ = some (.int .u8 (bs.getD i 0)) := by
  refine (cell_of_row w g i _ _ _ h).trans ?_
  simp [img, List.getD_eq_getElem?_getD, hi]
end KB
end Go.Proofs.YtlmblfkcmhgdaaaGreat
namespace Go.Proofs.YtlmblfkcmhgdaaaGreat
open Go.RowKit
set_option linter.unusedVariables false
set_option linter.unusedSimpArgs false
namespace KC
open OO OJ KB
abbrev TU : TypeId := 5
theorem u32_mod (n : Int) : IntKind.u32.wrap n = n % 4294967296 := by simp [IntKind.wrap, IntKind.bits, IntKind.signed]
theorem u32_or_nat (a b : Nat) (ha : a < 4294967296) (hb : b < 4294967296) : bits .or .u32 (a : Int) (b : Int) = ((a ||| b : Nat) : Int) := by
  have e : ∀ c : Nat, c < 4294967296 → (BitVec.ofInt 32 (c : Int)).toNat = c := by
    intro c hc
    rw [BitVec.toNat_ofInt]
    omega
  show IntKind.u32.wrap ((BitVec.ofInt 32 (a : Int) ||| BitVec.ofInt 32 (b : Int)).toNat : Int) = _
  rw [BitVec.toNat_or, e a ha, e b hb]
  have h : a ||| b < 2 ^ 32 := Nat.or_lt_two_pow ha hb
  have h' : a ||| b < 4294967296 := h
  rw [u32_mod]
  omega
theorem pow256 (k : Nat) : (256 : Nat) ^ k = 2 ^ (8 * k) := by rw [Nat.pow_mul]
theorem or_num {k : Nat} (hk : k ≤ 3) (p b : Nat) (hp : p < 256 ^ k) (hb : b ≤ 255) : bits .or .u32 (p : Int) ((b * 256 ^ k : Nat) : Int) = ((p + b * 256 ^ k : Nat) : Int) := by
  have h1 : (256 : Nat) ^ k ≤ 256 ^ 3 := Nat.pow_le_pow_right (by omega) hk
  have h2 : b * 256 ^ k ≤ 255 * 256 ^ 3 := Nat.mul_le_mul hb h1
  have h3 := Nat.two_pow_add_eq_or_of_lt (i := 8 * k) (b := p) (by rw [← pow256]; exact hp) b
  rw [u32_or_nat p _ (by omega) (by omega), Nat.or_comm, Nat.mul_comm b, pow256, ← h3, Nat.add_comm]
theorem num_or {bs : List Int} (h : OJ.Bytes bs) (a k : Nat) (hk : k ≤ 3) : bits .or .u32 (numTo bs a k) (IntKind.u32.wrap (bs.getD (a + k) 0 * 2 ^ (k * 8))) = numTo bs a (k + 1) := by
  have hb := numTo_bd h a k
  have hg := getD_bd h (a + k)
  show _ = numTo bs a k + bs.getD (a + k) 0 * 256 ^ k
  generalize numTo bs a k = p at *
  generalize bs.getD (a + k) 0 = b at *
  obtain ⟨P, rfl⟩ : ∃ P : Nat, p = P := ⟨p.toNat, by omega⟩
  obtain ⟨B, rfl⟩ : ∃ B : Nat, b = B := ⟨b.toNat, by omega⟩
  have hp : P < 256 ^ k := by
    have h3 : (P : Int) < ((256 ^ k : Nat) : Int) := by rw [Int.natCast_pow]; exact hb.2
    exact Int.ofNat_lt.1 h3
  have hB' : B ≤ 255 := by omega
  have e1 : ((2 : Int) ^ (k * 8)) = ((256 ^ k : Nat) : Int) := by rw [pow256, Int.natCast_pow, Nat.mul_comm]; rfl
  have h1 : (256 : Nat) ^ k ≤ 256 ^ 3 := Nat.pow_le_pow_right (by omega) hk
  have h2 : B * 256 ^ k ≤ 255 * 256 ^ 3 := Nat.mul_le_mul hB' h1
  have hn := or_num hk P B hp hB'
  have e2 : IntKind.u32.wrap ((B : Int) * 2 ^ (k * 8)) = ((B * 256 ^ k : Nat) : Int) := by
    rw [u32_mod, e1, ← Int.natCast_mul]
    omega
  rw [e2, hn, Int.natCast_add, Int.natCast_mul, Int.natCast_pow]
  rfl
set_option maxRecDepth 100000 in
set_option maxHeartbeats 2000000 in
theorem word_ {w : World} {bp g N : Nat} {bs : List Int} (a : Nat) (c5 : w.cell? ⟨bp, 5, none⟩ = some (.slice (some ⟨g, 0, none⟩) N N)) (hg : w.heap[g]? = some (.cells (img bs).toArray TU (0, 0))) (hN : bs.length = N) (hM : N ≤ 2097152) (ha : a + 4 ≤ N) (hb : OJ.Bytes bs) :
    Calls Tryz.prog 102 #[.pointer (some ⟨bp, 0, none⟩), .int .u32 a] w fun e w' => e = .returned (.int .u32 (word bs a)) ∧ w = w' := by
  have HC := Lib.hid (fun k (hk : k < 4) => img_get hg (a + k) (by omega))
  have HB := Lib.hid hb
  clear hg hb
  go_enter Tryz.func102, Tryz.ntmps102
  go_wp2
  go_loop [5, 17] (fun v i => ∃ k : Nat, k ≤ 4 ∧ i = .int .i64 k ∧ v = .int .u32 (numTo bs a k)) (fun _ i => 4 - (intOf i).toNat)
  case atStart => exact ⟨0, Nat.zero_le _, rfl, rfl⟩
  case round =>
    obtain ⟨k, hk, rfl, rfl⟩ := hrel
    by_cases hlt : k < 4
    · have hcell := HC.out k hlt
      have hb := getD_bd HB.out (a + k)
      have HN := Lib.hid (show bits .or .u32 (numTo bs a k) (bs[a + k]?.getD 0 % 4294967296 * 2 ^ (k * 8) % 4294967296) = numTo bs a (k + 1) from by
        have := num_or HB.out a k (by omega)
        rw [u32_mod, List.getD_eq_getElem?_getD] at this
        rw [List.getD_eq_getElem?_getD] at hb
        rw [show bs[a + k]?.getD 0 % 4294967296 = bs[a + k]?.getD 0 from by omega]
        exact this)
      go_wp2
      go_round
      case rel => exact ⟨k + 1, by omega, by go_num, by rw [HN.out]⟩
      case measure => simp [intOf]; omega
    · have : k = 4 := by omega
      subst this
      go_wp2
      go_ret
      exact ⟨rfl, rfl⟩
/-- only that block has turned -/
structure Put (g : Nat) (w w' : World) : Prop where
  os : w'.os = w.os
  tape : w'.tape = w.tape
  out : w'.output = w.output
  sz : w'.heap.size = w.heap.size
  oth : ∀ k, k ≠ g → w'.heap[k]? = w.heap[k]?
theorem Put.refl (g : Nat) (w : World) : Put g w w := ⟨rfl, rfl, rfl, rfl, fun _ _ => rfl⟩
theorem Put.trans {g : Nat} {u v w : World} (h : Put g u v) (k : Put g v w) : Put g u w := ⟨k.os.trans h.os, k.tape.trans h.tape, k.out.trans h.out, k.sz.trans h.sz, fun i hi => (k.oth i hi).trans (h.oth i hi)⟩
theorem Put.set (g : Nat) (w : World) (o : Nat) (v : Value) : Put g w (w.setCell ⟨g, o, none⟩ v) := ⟨rfl, rfl, rfl, by simp [World.setCell], fun k hk => Below.heap_setCell _ _ _ _ hk⟩
theorem Put.drew {g : Nat} {v w : World} (h : Put g v w) : Put g v w.drew := ⟨h.os, h.tape, h.out, h.sz, h.oth⟩
theorem Put.below {g n : Nat} {v w : World} (h : Put g v w) (hn : n ≤ g) : Below n v w := ⟨h.os, h.tape, h.out, Nat.le_of_eq h.sz.symm, fun k hk => h.oth k (by omega)⟩
theorem Put.cell {g b o : Nat} {v w : World} (h : Put g v w) (hb : b ≠ g) : w.cell? ⟨b, o, none⟩ = v.cell? ⟨b, o, none⟩ := World.cell?_of_block (w := v) (h.oth b hb)
theorem pow28 (n : Nat) : ((2 : Int) ^ (n * 8)) = 256 ^ n := by rw [Nat.mul_comm, Int.pow_mul]; rfl
theorem putB_next (bs : List Int) (a : Nat) (x : Int) (n : Nat) : (putB bs a x n).set (a + n) (x / 256 ^ n % 256) = putB bs a x (n + 1) := rfl
theorem hset {w : World} {g i : Nat} {cs : Array Value} {t : TypeId} (hg : w.heap[g]? = some (.cells cs t (0, 0))) (v : Value) : (w.setCell ⟨g, i, none⟩ v).heap[g]? = some (.cells (cs.setIfInBounds i v) t (0, 0)) := heap_setCell_same w g i cs t v hg
theorem img_put {w : World} {g i : Nat} {bs : List Int} {t : TypeId} (hg : w.heap[g]? = some (.cells (img bs).toArray t (0, 0))) (x : Int) : (w.setCell ⟨g, i, none⟩ (.int .u8 x)).heap[g]? = some (.cells (img (bs.set i x)).toArray t (0, 0)) := by
  rw [hset hg, img_set]
set_option maxRecDepth 100000 in
set_option maxHeartbeats 4000000 in
theorem putWords_ {w : World} {bp g N : Nat} {bs xs : List Int} {p : Option Addr} {c : Nat} (a : Nat) (hbg : bp ≠ g) (c5 : w.cell? ⟨bp, 5, none⟩ = some (.slice (some ⟨g, 0, none⟩) N N)) (hg : w.heap[g]? = some (.cells (img bs).toArray TU (0, 0))) (hN : bs.length = N) (hM : N ≤ 2097152) (ha : a + 4 * xs.length ≤ N)
    (hx : 0 < xs.length → ∃ b o, p = some ⟨b, o, none⟩ ∧ b ≠ g ∧ Row .u32 w b o xs) (hw : ∀ x ∈ xs, 0 ≤ x ∧ x ≤ 4294967295) :
    Calls Tryz.prog 69 #[.pointer (some ⟨bp, 0, none⟩), .int .i64 a, .slice p xs.length c] w fun e w' => e = .returned (.tuple #[]) ∧ w'.heap[g]? = some (.cells (img (putW bs a xs xs.length)).toArray TU (0, 0)) ∧ Put g w w' := by
  have HX := Lib.hid hx
  have HW := Lib.hid hw
  have HG := Lib.hid hg
  have C5 := Lib.hid c5
  clear hx hw hg c5
  go_enter Tryz.func69, Tryz.ntmps69
  go_wp2
  go_loopw [1, 11] (fun v i wr => ∃ k : Nat, k ≤ xs.length ∧ i = .int .i64 k ∧ v = .int .i64 ((a + 4 * k : Nat) : Int) ∧ Hid (wr.heap[g]? = some (.cells (img (putW bs a xs k)).toArray TU (0, 0))) ∧ Hid (Put g w wr)) (fun _ i _ => xs.length - (intOf i).toNat)
  case atStart => exact ⟨0, Nat.zero_le _, rfl, rfl, HG, Lib.hid (Put.refl _ _)⟩
  case round =>
    obtain ⟨k, hk, rfl, rfl, HG1, HP⟩ := hrel
    by_cases hlt : k < xs.length
    · obtain ⟨b, o, rfl, hb, hr⟩ := HX.out (by omega)
      have hcell := (HP.out.cell (o := o + k) hb).trans (hr k _ (List.getElem?_eq_getElem hlt))
      have hxw := HW.out _ (List.getElem_mem hlt)
      have HD := Lib.hid (show xs.getD k 0 = xs[k] by simp [List.getD_eq_getElem?_getD, hlt])
      clear hr
      generalize xs[k] = x at *
      obtain ⟨A, hA⟩ : ∃ A, A = a + 4 * k := ⟨_, rfl⟩
      have HA := Lib.hid hA
      have hAN : A + 4 ≤ N := by omega
      rw [← hA]
      have hL := putW_length bs a xs k
      obtain ⟨B, hB⟩ : ∃ B, B = putW bs a xs k := ⟨_, rfl⟩
      have HBB := Lib.hid hB
      rw [← hB] at HG1 hL
      clear hA hB
      obtain ⟨wo, rfl⟩ : ∃ wo : World, wo = wr := ⟨_, rfl⟩
      go_wp2
      go_loopw [15] (fun i wr => ∃ n : Nat, n ≤ 4 ∧ i = .int .i64 n ∧ Hid (wr.heap[g]? = some (.cells (img (putB B A x n)).toArray TU (0, 0))) ∧ Hid (Put g w wr)) (fun i _ => 4 - (intOf i).toNat)
      case atStart => exact ⟨0, Nat.zero_le _, rfl, HG1, HP⟩
      case round =>
        obtain ⟨n, hn, rfl, HG2, HP2⟩ := hrel
        have c5 := (HP2.out.cell (o := 5) hbg).trans C5.out
        by_cases hlt4 : n < 4
        · have g0 : wr.cell? ⟨g, A + n, none⟩ = some (.int .u8 ((putB B A x n).getD (A + n) 0)) := img_get HG2.out _ (by rw [putB_length, hL]; omega)
          have f0 : wr.frozen? ⟨g, A + n, none⟩ = false := Lib.frozen_of_heap HG2.out _
          go_wp2
          have HE := Lib.hid (show x / 2 ^ (n * 8) % 256 = x / 256 ^ n % 256 by rw [pow28])
          go_region
          go_wp2
          go_roundw
          case rel =>
            refine ⟨n + 1, by omega, by go_num, Lib.hid ?_, Lib.hid ((HP2.out.trans (Put.set g wr (A + n) _)).drew)⟩
            rw [HE.out]
            exact img_put HG2.out _
          case measure => simp [intOf]; omega
        · obtain rfl : n = 4 := by omega
          go_wp2
          refine ⟨⟨k + 1, by omega, by go_num, by rw [HA.out]; go_num, Lib.hid ?_, HP2⟩, by simp [intOf]; omega⟩
          rw [putW, HD.out, ← HBB.out, ← HA.out]
          exact HG2.out
    · obtain rfl : k = xs.length := by omega
      go_wp2
      go_end0
      exact ⟨rfl, HG1.out, HP.out⟩
end KC
end Go.Proofs.YtlmblfkcmhgdaaaGreat
namespace Go.Proofs.YtlmblfkcmhgdaaaGreat
open Go.RowKit
set_option linter.unusedVariables false
set_option linter.unusedSimpArgs false
namespace KS
open OO OJ KB KC
def u32s (l : List Int) : List Value := l.map (Value.int .u32)
theorem u32_info : (Tryz.prog.info? 46).map (fun i => (i.zero, i.size, i.bytes)) = some (some (.int .u32 0), 1, 4) := by kernel_rfl
abbrev Ins := Int × Int × Int × Int × Int
def insL : List Ins := [(40, 1, 0, 0, 0), (18, 17, 0, 0, 3), (42, 0, 0, 0, 0)]
def wordOf (i : Ins) : Int := CE.encW i.1 i.2.1 i.2.2.1 i.2.2.2.1 i.2.2.2.2
theorem good_ins : ∀ i ∈ insL, (Lit.int .i64 i.1).wf = true := by
  intro i hi
  simp only [insL, List.mem_cons, List.not_mem_nil, or_false] at hi
  rcases hi with rfl | rfl | rfl <;> decide
theorem grown_of {w w' : World} (h : Below w.heap.size w w') : w.grownBy w' none := ⟨h.os, h.tape, h.output, h.size, fun i hi _ => h.block i hi⟩
theorem take_map {l : List Ins} {k : Nat} {x : Ins} (h : l[k]? = some x) : (l.take (k + 1)).map wordOf = (l.take k).map wordOf ++ [wordOf x] := by
  rw [List.take_add_one, h]; simp
abbrev IB : Obj := .cells #[.int .i64 40, .int .i64 1, .int .i64 0, .int .i64 0, .int .i64 0, .int .i64 18, .int .i64 17, .int .i64 0, .int .i64 0, .int .i64 3, .int .i64 42, .int .i64 0, .int .i64 0, .int .i64 0, .int .i64 0] 54
theorem is_ib (w : World) : ∀ (k : Nat) (a b c d e : Int), insL[k]? = some (a, b, c, d, e) →
    (w.alloc IB).cell? ⟨w.heap.size, k * 5, none⟩ = some (.int .i64 a) ∧ (w.alloc IB).cell? ⟨w.heap.size, k * 5 + 1, none⟩ = some (.int .i64 b) ∧ (w.alloc IB).cell? ⟨w.heap.size, k * 5 + 2, none⟩ = some (.int .i64 c) ∧ (w.alloc IB).cell? ⟨w.heap.size, k * 5 + 3, none⟩ = some (.int .i64 d) ∧ (w.alloc IB).cell? ⟨w.heap.size, k * 5 + 4, none⟩ = some (.int .i64 e) := by
  intro k a b c d e hk
  have c := fun j => cell_of_row _ w.heap.size j _ _ _ (heap_alloc_new w IB)
  match k, hk with
  | 0, hk => cases hk; exact ⟨c 0, c 1, c 2, c 3, c 4⟩
  | 1, hk => cases hk; exact ⟨c 5, c 6, c 7, c 8, c 9⟩
  | 2, hk => cases hk; exact ⟨c 10, c 11, c 12, c 13, c 14⟩
  | (k + 3), hk => simp [insL] at hk
set_option maxRecDepth 100000 in
set_option maxHeartbeats 4000000 in
theorem start_ (w : World) : Calls Tryz.prog 70 #[] w fun e w' => ∃ g c, e = .returned (.slice (some ⟨g, 0, none⟩) 3 c) ∧ w.heap.size ≤ g ∧ g < w'.heap.size ∧ Row .u32 w' g 0 (insL.map wordOf) ∧ Below w.heap.size w w' := by
  obtain ⟨i0, hi, hz0, hz1, hz2⟩ := info_parts u32_info
  have HC := Lib.hid (is_ib w)
  have HGO := Lib.hid good_ins
  go_enter Tryz.func70, Tryz.ntmps70
  go_wp2
  go_loopw [1, 11] (fun s3 i wr => ∃ k : Nat, k ≤ 3 ∧ i = .int .i64 k ∧ wr.ownsRow (w.heap.size + 1) 46 1 s3 k (u32s ((insL.take k).map wordOf)) ∧ Below (w.heap.size + 1) (w.alloc IB) wr) (fun _ i _ => 3 - (intOf i).toNat)
  case atStart => exact ⟨0, Nat.zero_le _, rfl, World.ownsRow_nil _ _ _ _, Below.refl _ _⟩
  case round =>
    obtain ⟨k, hk, rfl, hown, hbel⟩ := hrel
    have hzz := hbel.size
    rw [World.size_alloc] at hzz
    by_cases hlt : k < 3
    · obtain ⟨⟨a, b, c, d, e⟩, hx1⟩ : ∃ x, insL[k]? = some x := ⟨insL[k]'(by simpa [insL] using hlt), List.getElem?_eq_getElem _⟩
      obtain ⟨p0, p1, p2, p3, p4⟩ := HC.out k a b c d e hx1
      have q0 := (hbel.cell (p := ⟨w.heap.size, k * 5, none⟩) (Nat.lt_succ_self _)).trans p0
      have q1 := (hbel.cell (p := ⟨w.heap.size, k * 5 + 1, none⟩) (Nat.lt_succ_self _)).trans p1
      have q2 := (hbel.cell (p := ⟨w.heap.size, k * 5 + 2, none⟩) (Nat.lt_succ_self _)).trans p2
      have q3 := (hbel.cell (p := ⟨w.heap.size, k * 5 + 3, none⟩) (Nat.lt_succ_self _)).trans p3
      have q4 := (hbel.cell (p := ⟨w.heap.size, k * 5 + 4, none⟩) (Nat.lt_succ_self _)).trans p4
      clear p0 p1 p2 p3 p4
      have g1 := HGO.out _ (List.mem_of_getElem? hx1)
      have ce := fun w => CE.encode_ a b c d e g1 w
      unfold CW.iv at ce
      have HT := Lib.hid (take_map hx1)
      have HW := Lib.hid (show wordOf (a, b, c, d, e) = CE.encW a b c d e from rfl)
      clear hx1 g1
      generalize CE.encW a b c d e = W at *
      generalize CE.encE a b c d e = E at *
      go_wp2_with (first
        | (go_at_call 100; (with_reducible refine (ce _).mono ?_); rintro e w1 ⟨rfl, hb1⟩; have hbl := (hbel.alloc hzz _).trans (hb1.mono (by simp only [World.size_alloc]; omega)); have ho1 : w1.ownsRow (w.heap.size + 1) 46 1 u1 k (u32s ((insL.take k).map wordOf)) := ((hown.alloc _).kept (grown_of hb1) (by cases hv : u1.ownBlock <;> simp)); have hs1 := hbl.size; rw [World.size_alloc] at hs1; have HB := Lib.hid hbl; have HHO := Lib.hid ho1; have HW1 := Lib.hid hown; clear hbl ho1 hb1 hown hbel)
        | (at_builtin; refine wpList_append_lies _ rfl _ _ 25 rfl (w.heap.size + 1) 46 i0 (.int .u32 0) 1 4 Tryz.underlying25 hi hz0 hz1 hz2 rfl (by decide) _ _ _ rfl (HHO.out.alloc _) ⟨w1.heap.size, 0, none⟩ 1 1 [.int .u32 W] rfl rfl (World.news_of_block (cs := #[.int .u32 W]) (t := 46) (fr := (0, 0)) (heap_alloc_new w1 _)) (by simp [Value.oneCell']) (by decide) (by unfold maxLen; omega) (by omega) (by simp only [World.size_alloc]; omega) (w1.heap.size + 1) (by simp only [World.size_alloc]) ?_; intro gg cap w2 hown1 hgrow1 hat1 hlt1; have HO := Lib.hid hown1; have HG := Lib.hid hgrow1; clear hown1 hgrow1 hat1))
      refine ⟨⟨k + 1, by omega, by go_num, ?_, ?_⟩, by simp [intOf]; omega⟩
      · rw [HT.out, HW.out]
        have e : u32s ((insL.take k).map wordOf ++ [W]) = u32s ((insL.take k).map wordOf) ++ [.int .u32 W] := by simp [u32s]
        rw [e]
        exact HO.out
      · exact (HB.out.alloc hs1 _).grown HG.out (by simp only [World.size_alloc]; omega) (fun g hg => (HW1.out.lt g hg).1)
    · have hkn : k = 3 := by omega
      subst hkn
      go_wp2
      go_ret
      have hbw : Below w.heap.size w wr := ((Below.refl w.heap.size w).alloc (Nat.le_refl _) IB).trans (hbel.mono (Nat.le_succ _))
      have h2 := hown.2
      rcases h2 with ⟨-, h0⟩ | ⟨g, cap, cur, rfl, hgb, hgh, -⟩
      · omega
      · refine ⟨g, cap, rfl, by omega, (Array.getElem?_eq_some_iff.1 hgh).1, fun j x hj => ?_, hbw⟩
        rw [Nat.zero_add]
        have h3 := (hown.cells (g := g) rfl) j (.int .u32 x) (by
          rw [show insL.take 3 = insL from rfl]
          unfold u32s
          rw [List.getElem?_map, hj]; rfl)
        rwa [show (⟨g, 0, none⟩ : Addr).add j = ⟨g, j, none⟩ by rw [add_plain, Nat.zero_add]] at h3
end KS
end Go.Proofs.YtlmblfkcmhgdaaaGreat
namespace Go.Proofs.YtlmblfkcmhgdaaaGreat
open Go.RowKit
set_option linter.unusedVariables false
set_option linter.unusedSimpArgs false
namespace KD
abbrev T80 : TypeId := 80
abbrev T34 : TypeId := 34
def zeroP : Array Value := #[.slice none 0 0, .int .i64 0, .int .i64 0, .slice none 0 0, .slice none 0 0, .slice none 0 0]
structure Turned (bp be : Nat) (code : Int) (w w' : World) : Prop where
  p : w'.heap[bp]? = some (.cells zeroP T80 (0, 0))
  e : w'.heap[be]? = some (.cells #[.int .i64 code] T34 (0, 0))
  sz : w'.heap.size = w.heap.size
  os : w'.os = w.os
  tape : w'.tape = w.tape
  out : w'.output = w.output
  oth : ∀ k, k ≠ bp → k ≠ be → w'.heap[k]? = w.heap[k]?
def Caught (bp be : Nat) (code : Int) (w : World) (e : Exit) (a : Act) (w' : World) : Prop := e = .normal ∧ a.defers = [] ∧ Turned bp be code w w'
theorem oth_set (w : World) (g o : Nat) (v : Value) (k : Nat) (h : k ≠ g) : (w.setCell ⟨g, o, none⟩ v).heap[k]? = w.heap[k]? := Below.heap_setCell _ _ _ _ h
theorem turned_set {bp be : Nat} {code : Int} {w : World} {v0 v1 v2 v3 v4 v5 x : Value} (hne : bp ≠ be) (h0 : w.heap[bp]? = some (.cells #[v0, v1, v2, v3, v4, v5] T80 (0, 0))) (h1 : w.heap[be]? = some (.cells #[x] T34 (0, 0))) :
    Turned bp be code w (((((((w.setCell ⟨bp, 0, none⟩ (.slice none 0 0)).setCell ⟨bp, 1, none⟩ (.int .i64 0)).setCell ⟨bp, 2, none⟩ (.int .i64 0)).setCell ⟨bp, 3, none⟩ (.slice none 0 0)).setCell ⟨bp, 4, none⟩ (.slice none 0 0)).setCell ⟨bp, 5, none⟩ (.slice none 0 0)).setCell ⟨be, 0, none⟩ (.int .i64 code)) := by
  have hb := ((((((((Below.refl 0 w).setCell (p := ⟨bp, 0, none⟩) (Nat.zero_le _) (.slice none 0 0)).setCell (p := ⟨bp, 1, none⟩) (Nat.zero_le _) (.int .i64 0)).setCell (p := ⟨bp, 2, none⟩) (Nat.zero_le _) (.int .i64 0)).setCell (p := ⟨bp, 3, none⟩) (Nat.zero_le _) (.slice none 0 0)).setCell (p := ⟨bp, 4, none⟩) (Nat.zero_le _) (.slice none 0 0)).setCell (p := ⟨bp, 5, none⟩) (Nat.zero_le _) (.slice none 0 0)).setCell (p := ⟨be, 0, none⟩) (Nat.zero_le _) (.int .i64 code))
  refine ⟨?_, ?_, by simp only [World.size_setCell], hb.os, hb.tape, hb.output, fun k hk1 hk2 => ?_⟩
  · rw [oth_set _ _ _ _ _ hne]
    have a0 := heap_setCell_same _ bp 0 _ _ (.slice none 0 0) h0
    have a1 := heap_setCell_same _ bp 1 _ _ (.int .i64 0) a0
    have a2 := heap_setCell_same _ bp 2 _ _ (.int .i64 0) a1
    have a3 := heap_setCell_same _ bp 3 _ _ (.slice none 0 0) a2
    have a4 := heap_setCell_same _ bp 4 _ _ (.slice none 0 0) a3
    have a5 := heap_setCell_same _ bp 5 _ _ (.slice none 0 0) a4
    simpa [zeroP] using a5
  · have key : ∀ W : World, W.heap[be]? = some (.cells #[x] T34 (0, 0)) → (W.setCell ⟨be, 0, none⟩ (.int .i64 code)).heap[be]? = some (.cells #[.int .i64 code] T34 (0, 0)) := fun W hW => by
      have := heap_setCell_same W be 0 _ _ (.int .i64 code) hW
      simpa using this
    refine key _ ?_
    rw [oth_set _ _ _ _ _ (Ne.symm hne), oth_set _ _ _ _ _ (Ne.symm hne), oth_set _ _ _ _ _ (Ne.symm hne), oth_set _ _ _ _ _ (Ne.symm hne), oth_set _ _ _ _ _ (Ne.symm hne), oth_set _ _ _ _ _ (Ne.symm hne)]
    exact h1
  · rw [oth_set _ _ _ _ _ hk2, oth_set _ _ _ _ _ hk1, oth_set _ _ _ _ _ hk1, oth_set _ _ _ _ _ hk1, oth_set _ _ _ _ _ hk1, oth_set _ _ _ _ _ hk1, oth_set _ _ _ _ _ hk1]
set_option maxRecDepth 100000 in
set_option maxHeartbeats 2000000 in
theorem catch_panicking (bp be : Nat) (code : Int) (older : List PanicEntry) (w : World) (hne : bp ≠ be) (v0 v1 v2 v3 v4 v5 x : Value) (h0 : w.heap[bp]? = some (.cells #[v0, v1, v2, v3, v4, v5] T80 (0, 0))) (h1 : w.heap[be]? = some (.cells #[x] T34 (0, 0))) :
    CallsD Tryz.prog 42 #[.pointer (some ⟨bp, 0, none⟩), .pointer (some ⟨be, 0, none⟩)] (.panicking ({ v := .iface 119 (.int .i64 code), recovered := false } :: older)) w fun e u' w' =>
      e = .returned (.tuple #[]) ∧ u' = .panicking ({ v := .iface 119 (.int .i64 code), recovered := true } :: older) ∧ Turned bp be code w w' := by
  refine callsD_of_wpS Tryz.func42 rfl fun c₀ cs hu => ?_
  apply wpS_seq
  apply wpS_region
  simp [wpOpsS, go_sem, recoverD, hu, Tryz.ntmps42, Exit.thenS]
  refine wpS_of_wp (wp_mono (Q := Caught bp be code w) ?_ ?_)
  · show Code.wp _ _ _ { tmps := #[.pointer (some ⟨bp, 0, none⟩), .pointer (some ⟨be, 0, none⟩), undef, undef, undef, .iface 119 (.int .i64 code), undef, undef, undef, undef, undef, undef, undef], defers := [] } _
    clear hu
    have hta : ∀ w, (Instr.typeAssert (.iface 119 (.int .i64 code)) 20 119 true).run Tryz.prog w = .ok (.tuple #[.int .i64 code, .bool true]) w := fun _ => by kernel_rfl
    have c0 : w.cell? ⟨bp, 0, none⟩ = some v0 := Lib.cell_of_heap h0 0
    have c1 : w.cell? ⟨bp, 1, none⟩ = some v1 := Lib.cell_of_heap h0 1
    have c2 : w.cell? ⟨bp, 2, none⟩ = some v2 := Lib.cell_of_heap h0 2
    have c3 : w.cell? ⟨bp, 3, none⟩ = some v3 := Lib.cell_of_heap h0 3
    have c4 : w.cell? ⟨bp, 4, none⟩ = some v4 := Lib.cell_of_heap h0 4
    have c5 : w.cell? ⟨bp, 5, none⟩ = some v5 := Lib.cell_of_heap h0 5
    have c6 : w.cell? ⟨be, 0, none⟩ = some x := Lib.cell_of_heap h1 0
    have f0 : w.frozen? ⟨bp, 0, none⟩ = false := Lib.frozen_of_heap h0 _
    have f1 : w.frozen? ⟨bp, 1, none⟩ = false := Lib.frozen_of_heap h0 _
    have f2 : w.frozen? ⟨bp, 2, none⟩ = false := Lib.frozen_of_heap h0 _
    have f3 : w.frozen? ⟨bp, 3, none⟩ = false := Lib.frozen_of_heap h0 _
    have f4 : w.frozen? ⟨bp, 4, none⟩ = false := Lib.frozen_of_heap h0 _
    have f5 : w.frozen? ⟨bp, 5, none⟩ = false := Lib.frozen_of_heap h0 _
    have f6 : w.frozen? ⟨be, 0, none⟩ = false := Lib.frozen_of_heap h1 _
    have H0 := Lib.hid h0
    have H1 := Lib.hid h1
    clear h0 h1
    go_wp2
    exact ⟨rfl, rfl, turned_set hne H0.out H1.out⟩
  · rintro e a w' ⟨rfl, hd, hr⟩
    simp [bodyPostS, results, Tryz.results42, hd]
    exact hr
set_option maxRecDepth 100000 in
set_option maxHeartbeats 1000000 in
theorem catch_idle (bp be : Nat) (w : World) :
    CallsD Tryz.prog 42 #[.pointer (some ⟨bp, 0, none⟩), .pointer (some ⟨be, 0, none⟩)] .returning w fun e u' w' => e = .returned (.tuple #[]) ∧ u' = .returning ∧ w' = w := by
  refine callsD_of_wpS Tryz.func42 rfl fun c₀ cs hu => ?_
  apply wpS_seq
  apply wpS_region
  simp [wpOpsS, go_sem, recoverD, hu, Tryz.ntmps42, Exit.thenS]
  refine wpS_of_wp (wp_mono (Q := fun e a w' => e = .normal ∧ a.defers = [] ∧ w' = w) ?_ ?_)
  · show Code.wp _ _ _ { tmps := #[.pointer (some ⟨bp, 0, none⟩), .pointer (some ⟨be, 0, none⟩), undef, undef, undef, .nilIface, undef, undef, undef, undef, undef, undef, undef], defers := [] } _
    clear hu
    go_wp2
  · rintro e a w' ⟨rfl, hd, rfl⟩
    cases c₀
    simp_all [bodyPostS, results, Tryz.results42]
end KD
end Go.Proofs.YtlmblfkcmhgdaaaGreat
namespace Go.Proofs.YtlmblfkcmhgdaaaGreat
open Go.RowKit Go.Maps
set_option linter.unusedVariables false
set_option linter.unusedSimpArgs false
namespace KZ
open OO OJ RsM RsP RsS RsT RsY RsQ RsB OCk
theorem code_cases (objs : List ObjV) : resCode objs = 0 ∨ resCode objs = 2 ∨ resCode objs = 3 ∨ resCode objs = 4 := by
  unfold resCode
  split
  · exact .inr (.inl rfl)
  · split
    · exact .inr (.inr (.inr rfl))
    · split
      · exact .inr (.inr (.inl rfl))
      · exact .inl rfl
theorem code_ok {objs : List ObjV} (h : resCode objs = 0) : ¬ 0 ≤ noneFrom objs 0 ∧ againL (flat objs) = [] ∧ ∀ x ∈ flat objs, RsT.bad (flat objs) x = false := by
  unfold resCode at h
  by_cases h0 : 0 ≤ noneFrom objs 0
  · rw [if_pos h0] at h; cases h
  · rw [if_neg h0] at h
    refine ⟨h0, ?_⟩
    cases hag : againL (flat objs) with
    | cons x l => rw [hag] at h; cases h
    | nil =>
      rw [hag] at h
      cases hf : (flat objs).find? (RsT.bad (flat objs)) with
      | some x => rw [hf] at h; cases h
      | none =>
        refine ⟨rfl, fun x hx => ?_⟩
        have := List.find?_eq_none.1 hf x hx
        simpa using this
theorem tgL_ne {objs : List ObjV} (h : resCode objs ≠ 0) : tgL objs = [] := by unfold tgL; rw [if_neg h]
theorem tgL_ok {objs : List ObjV} (h : resCode objs = 0) : (tgL objs).length = objs.length := by unfold tgL; rw [if_pos h]; simp
/-- the row of an object -/
theorem row_ok {objs : List ObjV} (h : resCode objs = 0) {i : Nat} {o : ObjV} (ho : objs[i]? = some o) : ∃ r, (tgL objs)[i]? = some r ∧ r.length = o.ss.length ∧
    ∀ k s, o.ss[k]? = some s → ∃ (ti tk : Nat) (o' : ObjV) (d : SymV), r[k]? = some ((ti : Int), (tk : Int)) ∧ objs[ti]? = some o' ∧ o'.ss[tk]? = some d ∧ d.name = s.name ∧ d.sect ≠ 0 ∧ (s.sect = 0 → d.glob = true) ∧ (s.sect ≠ 0 → ti = i ∧ tk = k) := by
  have hi : i < objs.length := (List.getElem?_eq_some_iff.1 ho).1
  obtain ⟨-, -, hb⟩ := code_ok h
  refine ⟨RsT.rowAt (flat objs) (flat objs) i, ?_, ?_, ?_⟩
  · unfold tgL
    rw [if_pos h, List.getElem?_map, List.getElem?_range hi]; rfl
  · rw [rowAt_row hi, List.length_map, row_length, ssAt_eq hi]
    rw [List.getElem?_eq_getElem hi] at ho
    cases ho; rfl
  · intro k s hs
    have hk : k < o.ss.length := (List.getElem?_eq_some_iff.1 hs).1
    have hss : ssAt objs i = o.ss := by
      rw [ssAt_eq hi]
      rw [List.getElem?_eq_getElem hi] at ho
      cases ho; rfl
    have hrow : (row objs i)[k]? = some ⟨i, k, s⟩ := by
      unfold row
      rw [List.getElem?_map, List.getElem?_range (by rw [hss]; exact hk)]
      simp only [Option.map_some, Option.some.injEq]
      rw [hss, List.getD_eq_getElem?_getD, hs]; rfl
    have hmem : (⟨i, k, s⟩ : Ent) ∈ flat objs := by
      unfold flat flatTo
      exact List.mem_flatMap.2 ⟨i, List.mem_range.2 hi, List.mem_of_getElem? hrow⟩
    have hbad := hb _ hmem
    rw [rowAt_row hi, List.getElem?_map, hrow]
    simp only [Option.map_some]
    unfold RsT.bad at hbad
    unfold tgs
    unfold tgI at hbad ⊢
    by_cases hz : s.sect = 0
    · rw [if_pos hz] at hbad
      cases hl : RsP.look (flat objs) s.name with
      | none => rw [hl] at hbad; cases hbad
      | some y =>
        have hy := look_some hl
        obtain ⟨oo, h1, h2⟩ := mem_flat hy.1
        refine ⟨y.i, y.k, oo, y.s, ?_, h1, h2, hy.2.2, ?_, fun _ => ?_, fun hne => absurd hz hne⟩
        · rw [if_pos hz]
        · have hd := hy.2.1
          unfold defs at hd
          simp only [Bool.and_eq_true, Bool.not_eq_true', beq_eq_false_iff_ne] at hd
          exact hd.2
        · have hd := hy.2.1
          unfold defs at hd
          simp only [Bool.and_eq_true] at hd
          exact hd.1
    · refine ⟨i, k, o, s, ?_, ho, hs, rfl, hz, fun e => absurd e hz, fun _ => ⟨rfl, rfl⟩⟩
      rw [if_neg hz]
end KZ
end Go.Proofs.YtlmblfkcmhgdaaaGreat
namespace Go.Proofs.YtlmblfkcmhgdaaaGreat
open Go.RowKit
set_option linter.unusedVariables false
set_option linter.unusedSimpArgs false
namespace KM
open OO OJ RsM LM LP PM RsB RsY KB
/-! ### texts and data where they stand -/
def szL (objs : List ObjV) : Sz := objs.map fun o => (o.ws.length, o.ds.length)
def obAt (objs : List ObjV) (i : Nat) : ObjV := objs.getD i noObj
def putO (objs : List ObjV) (i : Nat) (bs : List Int) : List Int :=
  splice (putW bs (textAt (szL objs) i) (obAt objs i).ws (obAt objs i).ws.length) (dataAt (szL objs) i) (obAt objs i).ds
def layTo (objs : List ObjV) (bs : List Int) : Nat → List Int
  | 0 => bs
  | i + 1 => putO objs i (layTo objs bs i)
/-- the three words ahead of all -/
def startL : List Int := [CE.encW 40 1 0 0 0, CE.encW 18 17 0 0 3, CE.encW 42 0 0 0 0]
def laid (objs : List ObjV) : List Int := layTo objs (putW (zeros (dend (szL objs))) 0 startL 3) objs.length
/-! ### relocations -/
def adrOf (objs : List ObjV) (i k : Int) : Int := adr (textAt (szL objs) i.toNat : Nat) (dataAt (szL objs) i.toNat : Nat) ((obAt objs i.toNat).ss.getD k.toNat noSym).sect ((obAt objs i.toNat).ss.getD k.toNat noSym).val
def noRel : RelV := ⟨0, 0, 0, 0, 0⟩
def relV (objs : List ObjV) (i k : Nat) : RelV := (obAt objs i).rs.getD k noRel
def tgt (objs : List ObjV) (i : Nat) (s : Int) : Int × Int := ((tgL objs).getD i []).getD s.toNat (0, 0)
def valOf (objs : List ObjV) (i k : Nat) : Int := (adrOf objs (tgt objs i (relV objs i k).sym).1 (tgt objs i (relV objs i k).sym).2 + (relV objs i k).add) % 4294967296
def whereOf (objs : List ObjV) (i k : Nat) : Int := adr (textAt (szL objs) i : Nat) (dataAt (szL objs) i : Nat) (relV objs i k).sect (relV objs i k).place
abbrev St := List Int × Int
/-- one relocation, of this kind, value and place -/
def stp (bs : List Int) (kd v p : Int) : St :=
  if pE kd (word bs p.toNat) v p = 0 then (put4 bs p.toNat (pW kd (word bs p.toNat) v p), 0) else (bs, pE kd (word bs p.toNat) v p)
def relTo (objs : List ObjV) (i : Nat) (s : St) : Nat → St
  | 0 => s
  | k + 1 => if (relTo objs i s k).2 = 0 then stp (relTo objs i s k).1 (relV objs i k).kind (valOf objs i k) (whereOf objs i k) else relTo objs i s k
def allTo (objs : List ObjV) (s : St) : Nat → St
  | 0 => s
  | i + 1 => relTo objs i (allTo objs s i) (obAt objs i).rs.length
def start0 (objs : List ObjV) : St := stp (laid objs) 4 (adrOf objs (mainOut objs).1 (mainOut objs).2.1) 0
def linkS (objs : List ObjV) : St := if (start0 objs).2 = 0 then allTo objs (start0 objs) objs.length else start0 objs
/-- the image's bytes, and the error -/
def linkOut (objs : List ObjV) : St :=
  if (mainOut objs).2.2 ≠ 0 then ([], (mainOut objs).2.2) else if LM.ok (szL objs) = false then ([], 6) else if (linkS objs).2 = 0 then linkS objs else ([], (linkS objs).2)
theorem relTo_bad {objs : List ObjV} {i : Nat} {s : St} {k : Nat} (h : (relTo objs i s k).2 ≠ 0) : ∀ n, k ≤ n → relTo objs i s n = relTo objs i s k := by
  intro n hn
  induction n with
  | zero => obtain rfl : k = 0 := by omega
            rfl
  | succ n ih =>
    by_cases e : k = n + 1
    · subst e; rfl
    · have h1 := ih (by omega)
      rw [relTo, h1, if_neg h]
theorem allTo_bad {objs : List ObjV} {s : St} {i : Nat} (h : (allTo objs s i).2 ≠ 0) : ∀ n, i ≤ n → allTo objs s n = allTo objs s i := by
  intro n hn
  induction n with
  | zero => obtain rfl : i = 0 := by omega
            rfl
  | succ n ih =>
    by_cases e : i = n + 1
    · subst e; rfl
    · have h1 := ih (by omega)
      rw [allTo, h1, relTo_bad (k := 0) (by exact h) _ (Nat.zero_le _)]; rfl
/-- a relocation that is too far is the end -/
theorem far_at {objs : List ObjV} {s : St} {i k : Nat} (hi : i < objs.length) (hk : k < (obAt objs i).rs.length) {bs : List Int} (h : relTo objs i (allTo objs s i) k = (bs, 0))
    (he : (stp bs (relV objs i k).kind (valOf objs i k) (whereOf objs i k)).2 ≠ 0) : allTo objs s objs.length = stp bs (relV objs i k).kind (valOf objs i k) (whereOf objs i k) := by
  have e1 : relTo objs i (allTo objs s i) (k + 1) = stp bs (relV objs i k).kind (valOf objs i k) (whereOf objs i k) := by rw [relTo, h, if_pos rfl]
  have e2 : allTo objs s (i + 1) = stp bs (relV objs i k).kind (valOf objs i k) (whereOf objs i k) := by
    rw [allTo, relTo_bad (k := k + 1) (by rw [e1]; exact he) _ (by omega), e1]
  rw [allTo_bad (i := i + 1) (by rw [e2]; exact he) _ (by omega), e2]
theorem stp_length (bs : List Int) (kd v p : Int) : (stp bs kd v p).1.length = bs.length := by
  unfold stp; split
  · exact put4_length _ _ _
  · rfl
theorem stp_bytes {bs : List Int} (h : OJ.Bytes bs) (kd v p : Int) : OJ.Bytes (stp bs kd v p).1 := by
  unfold stp; split
  · exact put4_bytes h _ _
  · exact h
theorem obAt_wf {objs : List ObjV} (h : ∀ o ∈ objs, o.Wf) (i : Nat) : (obAt objs i).Wf := by
  unfold obAt
  rw [List.getD_eq_getElem?_getD]
  cases e : objs[i]? with
  | none => exact ⟨by simp [noObj], by intro x hx; simp [noObj] at hx, by simp [noObj], by simp [noObj]⟩
  | some o => exact h o (List.mem_of_getElem? e)
theorem obAt_eq {objs : List ObjV} {i : Nat} (h : i < objs.length) : obAt objs i = objs[i] := by
  unfold obAt; rw [List.getD_eq_getElem?_getD, List.getElem?_eq_getElem h]; rfl
theorem szL_length (objs : List ObjV) : (szL objs).length = objs.length := by simp [szL]
theorem szL_get {objs : List ObjV} {i : Nat} (h : i < objs.length) : (szL objs)[i]'(by rw [szL_length]; exact h) = ((obAt objs i).ws.length, (obAt objs i).ds.length) := by
  rw [obAt_eq h]; simp [szL]
theorem text_in {objs : List ObjV} {i : Nat} (h : i < objs.length) : textAt (szL objs) i + 4 * (obAt objs i).ws.length ≤ dend (szL objs) := by
  have h1 := textAt_succ (l := szL objs) (j := i) (by rw [szL_length]; exact h)
  rw [szL_get h] at h1
  have h2 := (textAt_le (szL objs) (i + 1)).2
  have h3 := tend_le (szL objs)
  simp only at h1
  omega
theorem data_in {objs : List ObjV} {i : Nat} (h : i < objs.length) : dataAt (szL objs) i + (obAt objs i).ds.length ≤ dend (szL objs) := by
  have h1 := dataAt_succ (l := szL objs) (j := i) (by rw [szL_length]; exact h)
  rw [szL_get h] at h1
  have h2 := (dataAt_le (szL objs) (i + 1)).2
  simp only at h1
  omega
theorem layTo_len {objs : List ObjV} {bs : List Int} (hb : bs.length = dend (szL objs)) : ∀ i, i ≤ objs.length → (layTo objs bs i).length = dend (szL objs)
  | 0, _ => hb
  | i + 1, h => by
    have h1 := layTo_len hb i (by omega)
    have h2 := data_in (objs := objs) (i := i) (by omega)
    rw [layTo]
    unfold putO
    rw [length_splice _ _ _ (by rw [putW_length, h1]; exact h2), putW_length, h1]
theorem layTo_bytes {objs : List ObjV} (hw : ∀ o ∈ objs, o.Wf) {bs : List Int} (hb : OJ.Bytes bs) : ∀ i, OJ.Bytes (layTo objs bs i)
  | 0 => hb
  | i + 1 => splice_bytes (putW_bytes (layTo_bytes hw hb i) _ _ _) _ (obAt_wf hw i).ds
theorem laid_len (objs : List ObjV) : (laid objs).length = dend (szL objs) := layTo_len (by rw [putW_length]; simp [zeros]) _ (Nat.le_refl _)
theorem laid_bytes {objs : List ObjV} (hw : ∀ o ∈ objs, o.Wf) : OJ.Bytes (laid objs) := layTo_bytes hw (putW_bytes (zeros_bytes _) _ _ _) _
end KM
end Go.Proofs.YtlmblfkcmhgdaaaGreat
namespace Go.Proofs.YtlmblfkcmhgdaaaGreat
open Go.RowKit
set_option linter.unusedVariables false
set_option linter.unusedSimpArgs false
namespace KN
open OO OJ RsM RsP RsS RsT RsY LM LP PM RsB KB KM OCk ORl OPt RsQ
theorem chk_mem {objs : List ObjV} (h : resCode objs = 0) : ∀ o ∈ objs, chk o = true := by
  have h0 := (KZ.code_ok h).1
  unfold noneFrom at h0
  intro o ho
  cases hf : (objs.drop 0).findIdx? (fun o => !chk o) with
  | some i => rw [hf] at h0; simp only at h0; omega
  | none =>
    have := List.findIdx?_eq_none_iff.1 hf o (by simpa using ho)
    simpa using this
theorem chk_at {objs : List ObjV} (h : resCode objs = 0) {i : Nat} (hi : i < objs.length) : chk (obAt objs i) = true := by
  rw [obAt_eq hi]; exact chk_mem h _ (List.getElem_mem hi)
theorem rel_ok {o : ObjV} (h : chk o = true) {k : Nat} (hk : k < o.rs.length) : relOk o.ws o.ds.length o.ss.length (o.rs.getD k noRel) = true := by
  unfold chk at h
  simp only [Bool.and_eq_true] at h
  have h2 := List.all_eq_true.1 h.2.2 k (List.mem_range.2 hk)
  unfold relAt at h2
  rw [List.getElem?_eq_getElem hk] at h2
  simp only [Bool.and_eq_true] at h2
  rw [List.getD_eq_getElem?_getD, List.getElem?_eq_getElem hk]
  exact h2.2
theorem rel_sym {ws : List Int} {nd ns : Nat} {r : RelV} (h : relOk ws nd ns r = true) : 0 ≤ r.sym ∧ r.sym < ns := by
  unfold relOk at h
  simp only [Bool.and_eq_true, decide_eq_true_eq] at h
  omega
theorem rel_place {ws : List Int} {nd ns : Nat} {r : RelV} (h : relOk ws nd ns r = true) : (r.sect = 1 ∧ 0 ≤ r.place ∧ r.place < ws.length ∧ patB r.kind (ws.getD r.place.toNat 0) = true) ∨ (r.sect = 2 ∧ r.kind = 6 ∧ 0 ≤ r.place ∧ r.place + 4 ≤ nd) := by
  unfold relOk at h
  simp only [Bool.and_eq_true, decide_eq_true_eq] at h
  obtain ⟨-, -, h⟩ := h
  by_cases h1 : r.sect = 1
  · rw [if_pos h1] at h
    simp only [Bool.and_eq_true, decide_eq_true_eq] at h
    exact .inl ⟨h1, h.1.1, by omega, h.2⟩
  · rw [if_neg h1] at h
    by_cases h2 : r.sect = 2
    · rw [if_pos h2] at h
      simp only [Bool.and_eq_true, decide_eq_true_eq] at h
      exact .inr ⟨h2, h.1, h.2.1.1, by omega⟩
    · rw [if_neg h2] at h; cases h
/-- the place, as a number -/
def whereN (objs : List ObjV) (i k : Nat) : Nat := if (relV objs i k).sect = 1 then textAt (szL objs) i + 4 * (relV objs i k).place.toNat else dataAt (szL objs) i + (relV objs i k).place.toNat
theorem where_in {objs : List ObjV} (h : resCode objs = 0) (hM : dend (szL objs) ≤ 2097152) {i k : Nat} (hi : i < objs.length) (hk : k < (obAt objs i).rs.length) : whereOf objs i k = (whereN objs i k : Nat) ∧ whereN objs i k + 4 ≤ dend (szL objs) := by
  have hr := rel_place (rel_ok (chk_at h hi) hk)
  have h1 := text_in hi
  have h2 := data_in hi
  have hz := tend_le (szL objs)
  show whereOf objs i k = _ ∧ _
  unfold whereOf whereN adr
  have e : relV objs i k = (obAt objs i).rs.getD k noRel := rfl
  rw [← e] at hr
  generalize relV objs i k = r at *
  rcases hr with ⟨s1, p0, p1, -⟩ | ⟨s2, -, p0, p1⟩
  · rw [if_pos s1, if_pos s1]
    omega
  · rw [if_neg (by omega), if_pos s2, if_neg (by omega)]
    omega
theorem tgt_at {objs : List ObjV} (h : resCode objs = 0) {i : Nat} (hi : i < objs.length) {s : Int} (h0 : 0 ≤ s) (h1 : s < (obAt objs i).ss.length) :
    ∃ (ti tk : Nat) (o' : ObjV) (d : SymV) (r : List (Int × Int)), tgt objs i s = ((ti : Int), (tk : Int)) ∧ objs[ti]? = some o' ∧ o'.ss[tk]? = some d ∧ (tgL objs)[i]? = some r ∧ r.length = (obAt objs i).ss.length ∧ r[s.toNat]? = some ((ti : Int), (tk : Int)) ∧ d.sect ≠ 0 := by
  obtain ⟨r, e1, e2, e3⟩ := KZ.row_ok h (o := obAt objs i) (by rw [obAt_eq hi]; exact List.getElem?_eq_getElem hi)
  obtain ⟨ti, tk, o', d, a1, a2, a3, -, a5, -⟩ := e3 s.toNat ((obAt objs i).ss[s.toNat]'(by omega)) (List.getElem?_eq_getElem _)
  refine ⟨ti, tk, o', d, r, ?_, a2, a3, e1, e2, a1, a5⟩
  unfold tgt
  rw [List.getD_eq_getElem?_getD (l := tgL objs), e1]
  simp only [Option.getD_some]
  rw [List.getD_eq_getElem?_getD, a1]; rfl
theorem main_at {objs : List ObjV} {mi mk : Int} (h : mainOut objs = (mi, mk, 0)) : resCode objs = 0 ∧ ∃ (a b : Nat) (o' : ObjV) (d : SymV), mi = a ∧ mk = b ∧ objs[a]? = some o' ∧ o'.ss[b]? = some d ∧ d.sect = 1 := by
  unfold mainOut at h
  by_cases h0 : resCode objs = 0
  · rw [if_neg (by simpa using h0)] at h
    refine ⟨h0, ?_⟩
    cases hl : RsP.look (flat objs) mainB with
    | none => rw [hl] at h; simp at h
    | some y =>
      rw [hl] at h
      simp only at h
      by_cases hs : y.s.sect = 1
      · rw [if_pos hs] at h
        simp only [Prod.mk.injEq, and_true] at h
        obtain ⟨oo, a1, a2⟩ := mem_flat (look_some hl).1
        exact ⟨y.i, y.k, oo, y.s, h.1.symm, h.2.symm, a1, a2, hs⟩
      · rw [if_neg hs] at h; simp at h
  · rw [if_pos h0] at h
    simp only [Prod.mk.injEq] at h
    exact absurd h.2.2 h0
theorem stp_yes {bs : List Int} {kd v : Int} {p : Nat} (h : pE kd (word bs p) v p = 0) : stp bs kd v p = (put4 bs p (pW kd (word bs p) v p), 0) := by
  unfold stp; simp only [Int.toNat_natCast]; rw [if_pos h]
theorem stp_no {bs : List Int} {kd v : Int} {p : Nat} (h : pE kd (word bs p) v p ≠ 0) : stp bs kd v p = (bs, pE kd (word bs p) v p) := by
  unfold stp; simp only [Int.toNat_natCast]; rw [if_neg h]
end KN
end Go.Proofs.YtlmblfkcmhgdaaaGreat
