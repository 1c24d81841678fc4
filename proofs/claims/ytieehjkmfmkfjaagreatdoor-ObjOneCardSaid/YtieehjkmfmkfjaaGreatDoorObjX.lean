/-
  Slices compared, and objects: the program's Same and the document's: contracts: each tells whether they are the same. No condition but that they lie in memory.
-/
import Derived.Test.YtieehjkmfmkfjaaGreatDoorObjO
import Derived.Laws.StructEq
import Derived.Deep.QuietTactic
import Derived.BigQuiet
namespace Go.Proofs.YtieehjkmfmkfjaaGreatDoor
open Go.RowKit
set_option linter.unusedVariables false
set_option linter.unusedSimpArgs false
namespace OX
open OO OJ OL
theorem ret_bool {a b : Bool} (h : a = b) : Ending.returned (.bool a) = .returned (.bool b) := by rw [h]
/-- are two lists the same, one by one? -/
def same {α : Type} (eq : α → α → Bool) : List α → List α → Bool
  | [], [] => true
  | x :: xs, y :: ys => eq x y && same eq xs ys
  | _, _ => false
theorem same_step {α : Type} (eq : α → α → Bool) (xs ys : List α) (k : Nat) (h : k < xs.length) (h' : k < ys.length) : same eq (xs.drop k) (ys.drop k) = (eq xs[k] ys[k] && same eq (xs.drop (k + 1)) (ys.drop (k + 1))) := by
  rw [List.drop_eq_getElem_cons h, List.drop_eq_getElem_cons h']
  rfl
theorem same_end {α : Type} (eq : α → α → Bool) (xs ys : List α) (h : xs.length = ys.length) : same eq (xs.drop xs.length) (ys.drop xs.length) = true := by
  rw [List.drop_length, h, List.drop_length]
  rfl
theorem same_no {α : Type} {eq : α → α → Bool} : ∀ {xs ys : List α}, ¬ xs.length = ys.length → same eq xs ys = false
  | [], [], h => absurd rfl h
  | [], _ :: _, _ => rfl
  | _ :: _, [], _ => rfl
  | x :: xs, y :: ys, h => by
    show (eq x y && same eq xs ys) = false
    rw [same_no (xs := xs) (ys := ys) (fun e => h (by rw [List.length_cons, List.length_cons, e]))]
    exact Bool.and_false _
theorem same_refl {α : Type} {eq : α → α → Bool} (h : ∀ x, eq x x = true) : ∀ xs : List α, same eq xs xs = true
  | [] => rfl
  | x :: xs => by
    show (eq x x && same eq xs xs) = true
    rw [h, same_refl h xs]; rfl
theorem same_eq {α : Type} {eq : α → α → Bool} (h : ∀ x y, eq x y = true → x = y) : ∀ {xs ys : List α}, same eq xs ys = true → xs = ys
  | [], [], _ => rfl
  | [], _ :: _, e => by cases e
  | _ :: _, [], e => by cases e
  | x :: xs, y :: ys, e => by
    have e' : (eq x y && same eq xs ys) = true := e
    simp only [Bool.and_eq_true] at e'
    rw [h x y e'.1, same_eq h e'.2]
def intB (x y : Int) : Bool := x == y
def symB (s t : SymV) : Bool := s.name.toList == t.name.toList && (s.sect == t.sect && (s.val == t.val && (s.frame == t.frame && s.glob == t.glob)))
def relB (s t : RelV) : Bool := s.sect == t.sect && (s.place == t.place && (s.kind == t.kind && (s.sym == t.sym && s.add == t.add)))
theorem intB_refl (x : Int) : intB x x = true := by unfold intB; simp
theorem symB_refl (s : SymV) : symB s s = true := by unfold symB; simp
theorem relB_refl (s : RelV) : relB s s = true := by unfold relB; simp
def Quiet (w w' : World) : Prop := ∃ n, w' = w.drewN n
theorem Quiet.below {w w' : World} (h : Quiet w w') : Below w.heap.size w w' := by
  obtain ⟨n, rfl⟩ := h
  exact ⟨rfl, rfl, rfl, Nat.le_refl _, fun _ _ => rfl⟩
theorem sym_neq (s t : SymV) (w : World) : (binOp .neq 45 (.agg #[.string s.name, .int .i64 s.sect, .int .i64 s.val, .int .i64 s.frame, .bool s.glob]) (.agg #[.string t.name, .int .i64 t.sect, .int .i64 t.val, .int .i64 t.frame, .bool t.glob])).run Tryz.prog w = .ok (.bool (!symB s t)) w := by
  have hS : Tryz.prog.underlying 45 = some (.struct (Tryz.prog.fieldsOf 45)) := by kernel_rfl
  have u3 := Tryz.underlying3
  have u9 := Tryz.underlying9
  have u4 := Tryz.underlying4
  rw [run_neq_struct, show (10000 : Nat) = 9999 + 1 from rfl, run_equalIn_agg w 9999 _ _ _ hS (by kernel_rfl)]
  simp only [Program.fieldsOf, Tryz.underlying45]
  go_simp
  unfold symB
  by_cases h0 : s.name.toList = t.name.toList <;> by_cases h1 : s.sect = t.sect <;> by_cases h2 : s.val = t.val <;> by_cases h3 : s.frame = t.frame <;> by_cases h4 : s.glob = t.glob <;> simp [h0, h1, h2, h3, h4]
theorem rel_neq (s t : RelV) (w : World) : (binOp .neq 56 (.agg #[.int .i64 s.sect, .int .i64 s.place, .int .i64 s.kind, .int .i64 s.sym, .int .i64 s.add]) (.agg #[.int .i64 t.sect, .int .i64 t.place, .int .i64 t.kind, .int .i64 t.sym, .int .i64 t.add])).run Tryz.prog w = .ok (.bool (!relB s t)) w := by
  have hS : Tryz.prog.underlying 56 = some (.struct (Tryz.prog.fieldsOf 56)) := by kernel_rfl
  have u3 := Tryz.underlying3
  rw [run_neq_struct, show (10000 : Nat) = 9999 + 1 from rfl, run_equalIn_agg w 9999 _ _ _ hS (by kernel_rfl)]
  simp only [Program.fieldsOf, Tryz.underlying56]
  go_simp
  unfold relB
  by_cases h0 : s.sect = t.sect <;> by_cases h1 : s.place = t.place <;> by_cases h2 : s.kind = t.kind <;> by_cases h3 : s.sym = t.sym <;> by_cases h4 : s.add = t.add <;> simp [h0, h1, h2, h3, h4]
set_option maxRecDepth 100000 in
set_option maxHeartbeats 4000000 in
theorem eq_words {n₀ : Nat} {w : World} {v v' : Value} {xs ys : List Int} (hx : Nums8 .u32 n₀ w v xs) (hy : Nums8 .u32 n₀ w v' ys) :
    Calls Tryz.prog 34 #[v, v'] w fun e w' => e = .returned (.bool (same intB xs ys)) ∧ Quiet w w' := by
  obtain ⟨p, c, rfl, gx⟩ := hx
  obtain ⟨p', c', rfl, gy⟩ := hy
  by_cases hl : xs.length = ys.length
  · have HX := Lib.hid gx
    have HY := Lib.hid gy
    have HE := Lib.hid (same_end intB xs ys hl)
    have HL := Lib.hid hl
    rw [← hl]
    have hb1 : xs.length ≤ maxLen := by
      by_cases h0 : 0 < xs.length
      · obtain ⟨b, o, -, -, h1, h2, -⟩ := gx h0; exact Nat.le_trans h1 h2
      · omega
    unfold maxLen at hb1
    clear hl gx gy
    go_enter Tryz.func34, Tryz.ntmps34
    go_wp2
    go_loopw [13] (fun i wr => ∃ k : Nat, k ≤ xs.length ∧ i = .int .i64 k ∧ same intB xs ys = same intB (xs.drop k) (ys.drop k) ∧ ∃ n, wr = w.drewN n) (fun i _ => xs.length - (intOf i).toNat)
    case atStart => exact ⟨0, Nat.zero_le _, rfl, rfl, 0, rfl⟩
    case round =>
      obtain ⟨k, hk, rfl, hq, n, rfl⟩ := hrel
      have HQ := Lib.hid hq
      clear hq
      by_cases hlt : k < xs.length
      · have hlt' : k < ys.length := by have := HL.out; omega
        obtain ⟨b, o, rfl, -, -, -, hr⟩ := HX.out (by omega)
        obtain ⟨b', o', rfl, -, -, -, hr'⟩ := HY.out (by omega)
        have c1 : w.cell? ⟨b, o + k, none⟩ = some (.int .u32 xs[k]) := hr k _ (List.getElem?_eq_getElem hlt)
        have c2 : w.cell? ⟨b', o' + k, none⟩ = some (.int .u32 ys[k]) := hr' k _ (List.getElem?_eq_getElem hlt')
        have HS := Lib.hid (same_step intB xs ys k hlt hlt')
        clear hr hr'
        generalize xs[k] = x at *
        generalize ys[k] = y at *
        have hn1 : (0 : Int) ≤ (k : Int) := by omega
        by_cases he : x = y
        · subst he
          have HX2 := Lib.hid (intB_refl x)
          go_upto_region 6 with (fail)
          go_quiet (fail)
          go_wp2
          exact ⟨⟨k + 1, by omega, by go_num, by rw [HQ.out, HS.out, HX2.out]; rfl, _, rfl⟩, by simp [intOf]; omega⟩
        · have HX2 := Lib.hid (show intB x y = false by unfold intB; simpa using he)
          have h1 : (x == y) = false := by simpa using he
          have h2 : (x != y) = true := by simpa using he
          go_upto_region 6 with (fail)
          go_quiet (fail)
          go_wp2
          go_ret
          exact ⟨ret_bool (by rw [HQ.out, HS.out, HX2.out]; rfl), _, World.drewN_drewN _ _ _⟩
      · obtain rfl : k = xs.length := by omega
        go_wp2
        go_ret
        exact ⟨ret_bool (by rw [HQ.out, HE.out]), n, rfl⟩
  · rw [same_no hl]
    have hb1 : xs.length ≤ maxLen := by
      by_cases h0 : 0 < xs.length
      · obtain ⟨b, o, -, -, h1, h2, -⟩ := gx h0; exact Nat.le_trans h1 h2
      · omega
    have hb2 : ys.length ≤ maxLen := by
      by_cases h0 : 0 < ys.length
      · obtain ⟨b, o, -, -, h1, h2, -⟩ := gy h0; exact Nat.le_trans h1 h2
      · omega
    unfold maxLen at hb1 hb2
    clear gx gy
    have hne : ((xs.length : Int) == (ys.length : Int)) = false := by simpa using (by omega : ¬ (xs.length : Int) = ys.length)
    have hne2 : ((xs.length : Int) != (ys.length : Int)) = true := by simpa using (by omega : ¬ (xs.length : Int) = ys.length)
    have hne3 : (xs.length == ys.length) = false := by simpa using hl
    go_enter Tryz.func34, Tryz.ntmps34
    go_wp2
    go_ret
    exact ⟨rfl, 0, rfl⟩
set_option maxRecDepth 100000 in
set_option maxHeartbeats 4000000 in
theorem eq_syms {n₀ : Nat} {w : World} {v v' : Value} {xs ys : List SymV} (hx : Syms n₀ w v xs) (hy : Syms n₀ w v' ys) :
    Calls Tryz.prog 36 #[v, v'] w fun e w' => e = .returned (.bool (same symB xs ys)) ∧ Quiet w w' := by
  obtain ⟨p, c, rfl, gx⟩ := hx
  obtain ⟨p', c', rfl, gy⟩ := hy
  by_cases hl : xs.length = ys.length
  · have HX := Lib.hid gx
    have HY := Lib.hid gy
    have HE := Lib.hid (same_end symB xs ys hl)
    have HL := Lib.hid hl
    rw [← hl]
    have hb1 : xs.length ≤ maxLen := by
      by_cases h0 : 0 < xs.length
      · obtain ⟨b, o, -, -, h1, h2, -⟩ := gx h0; exact Nat.le_trans h1 h2
      · omega
    unfold maxLen at hb1
    clear hl gx gy
    go_enter Tryz.func36, Tryz.ntmps36
    go_wp2
    go_loopw [13] (fun i wr => ∃ k : Nat, k ≤ xs.length ∧ i = .int .i64 k ∧ same symB xs ys = same symB (xs.drop k) (ys.drop k) ∧ ∃ n, wr = w.drewN n) (fun i _ => xs.length - (intOf i).toNat)
    case atStart => exact ⟨0, Nat.zero_le _, rfl, rfl, 0, rfl⟩
    case round =>
      obtain ⟨k, hk, rfl, hq, n, rfl⟩ := hrel
      have HQ := Lib.hid hq
      clear hq
      by_cases hlt : k < xs.length
      · have hlt' : k < ys.length := by have := HL.out; omega
        obtain ⟨b, o, rfl, -, -, -, hr⟩ := HX.out (by omega)
        obtain ⟨b', o', rfl, -, -, -, hr'⟩ := HY.out (by omega)
        obtain ⟨a0, a1, a2, a3, a4⟩ := hr k _ (List.getElem?_eq_getElem hlt)
        obtain ⟨d0, d1, d2, d3, d4⟩ := hr' k _ (List.getElem?_eq_getElem hlt')
        have HS := Lib.hid (same_step symB xs ys k hlt hlt')
        clear hr hr'
        generalize xs[k] = x at *
        generalize ys[k] = y at *
        have hn1 : (0 : Int) ≤ (k : Int) := by omega
        have hneq := sym_neq x y
        cases he : symB x y with
        | true =>
          rw [he] at hneq
          have HE2 := Lib.hid he
          clear he
          go_upto_region 6 with (fail)
          go_quiet (fail)
          go_wp2
          exact ⟨⟨k + 1, by omega, by go_num, by rw [HQ.out, HS.out, HE2.out]; rfl, _, rfl⟩, by simp [intOf]; omega⟩
        | false =>
          rw [he] at hneq
          have HE2 := Lib.hid he
          clear he
          go_upto_region 6 with (fail)
          go_quiet (fail)
          go_wp2
          go_ret
          exact ⟨ret_bool (by rw [HQ.out, HS.out, HE2.out]; rfl), _, World.drewN_drewN _ _ _⟩
      · obtain rfl : k = xs.length := by omega
        go_wp2
        go_ret
        exact ⟨ret_bool (by rw [HQ.out, HE.out]), n, rfl⟩
  · rw [same_no hl]
    have hb1 : xs.length ≤ maxLen := by
      by_cases h0 : 0 < xs.length
      · obtain ⟨b, o, -, -, h1, h2, -⟩ := gx h0; exact Nat.le_trans h1 h2
      · omega
    have hb2 : ys.length ≤ maxLen := by
      by_cases h0 : 0 < ys.length
      · obtain ⟨b, o, -, -, h1, h2, -⟩ := gy h0; exact Nat.le_trans h1 h2
      · omega
    unfold maxLen at hb1 hb2
    clear gx gy
    have hne : ((xs.length : Int) == (ys.length : Int)) = false := by simpa using (by omega : ¬ (xs.length : Int) = ys.length)
    have hne2 : ((xs.length : Int) != (ys.length : Int)) = true := by simpa using (by omega : ¬ (xs.length : Int) = ys.length)
    have hne3 : (xs.length == ys.length) = false := by simpa using hl
    go_enter Tryz.func36, Tryz.ntmps36
    go_wp2
    go_ret
    exact ⟨rfl, 0, rfl⟩
set_option maxRecDepth 100000 in
set_option maxHeartbeats 4000000 in
theorem eq_bytes {n₀ : Nat} {w : World} {v v' : Value} {xs ys : List Int} (hx : Nums8 .u8 n₀ w v xs) (hy : Nums8 .u8 n₀ w v' ys) :
    Calls Tryz.prog 35 #[v, v'] w fun e w' => e = .returned (.bool (same intB xs ys)) ∧ Quiet w w' := by
  obtain ⟨p, c, rfl, gx⟩ := hx
  obtain ⟨p', c', rfl, gy⟩ := hy
  by_cases hl : xs.length = ys.length
  · have HX := Lib.hid gx
    have HY := Lib.hid gy
    have HE := Lib.hid (same_end intB xs ys hl)
    have HL := Lib.hid hl
    rw [← hl]
    have hb1 : xs.length ≤ maxLen := by
      by_cases h0 : 0 < xs.length
      · obtain ⟨b, o, -, -, h1, h2, -⟩ := gx h0; exact Nat.le_trans h1 h2
      · omega
    unfold maxLen at hb1
    clear hl gx gy
    go_enter Tryz.func35, Tryz.ntmps35
    go_wp2
    go_loopw [13] (fun i wr => ∃ k : Nat, k ≤ xs.length ∧ i = .int .i64 k ∧ same intB xs ys = same intB (xs.drop k) (ys.drop k) ∧ ∃ n, wr = w.drewN n) (fun i _ => xs.length - (intOf i).toNat)
    case atStart => exact ⟨0, Nat.zero_le _, rfl, rfl, 0, rfl⟩
    case round =>
      obtain ⟨k, hk, rfl, hq, n, rfl⟩ := hrel
      have HQ := Lib.hid hq
      clear hq
      by_cases hlt : k < xs.length
      · have hlt' : k < ys.length := by have := HL.out; omega
        obtain ⟨b, o, rfl, -, -, -, hr⟩ := HX.out (by omega)
        obtain ⟨b', o', rfl, -, -, -, hr'⟩ := HY.out (by omega)
        have c1 : w.cell? ⟨b, o + k, none⟩ = some (.int .u8 xs[k]) := hr k _ (List.getElem?_eq_getElem hlt)
        have c2 : w.cell? ⟨b', o' + k, none⟩ = some (.int .u8 ys[k]) := hr' k _ (List.getElem?_eq_getElem hlt')
        have HS := Lib.hid (same_step intB xs ys k hlt hlt')
        clear hr hr'
        generalize xs[k] = x at *
        generalize ys[k] = y at *
        have hn1 : (0 : Int) ≤ (k : Int) := by omega
        by_cases he : x = y
        · subst he
          have HX2 := Lib.hid (intB_refl x)
          go_upto_region 6 with (fail)
          go_quiet (fail)
          go_wp2
          exact ⟨⟨k + 1, by omega, by go_num, by rw [HQ.out, HS.out, HX2.out]; rfl, _, rfl⟩, by simp [intOf]; omega⟩
        · have HX2 := Lib.hid (show intB x y = false by unfold intB; simpa using he)
          have h1 : (x == y) = false := by simpa using he
          have h2 : (x != y) = true := by simpa using he
          go_upto_region 6 with (fail)
          go_quiet (fail)
          go_wp2
          go_ret
          exact ⟨ret_bool (by rw [HQ.out, HS.out, HX2.out]; rfl), _, World.drewN_drewN _ _ _⟩
      · obtain rfl : k = xs.length := by omega
        go_wp2
        go_ret
        exact ⟨ret_bool (by rw [HQ.out, HE.out]), n, rfl⟩
  · rw [same_no hl]
    have hb1 : xs.length ≤ maxLen := by
      by_cases h0 : 0 < xs.length
      · obtain ⟨b, o, -, -, h1, h2, -⟩ := gx h0; exact Nat.le_trans h1 h2
      · omega
    have hb2 : ys.length ≤ maxLen := by
      by_cases h0 : 0 < ys.length
      · obtain ⟨b, o, -, -, h1, h2, -⟩ := gy h0; exact Nat.le_trans h1 h2
      · omega
    unfold maxLen at hb1 hb2
    clear gx gy
    have hne : ((xs.length : Int) == (ys.length : Int)) = false := by simpa using (by omega : ¬ (xs.length : Int) = ys.length)
    have hne2 : ((xs.length : Int) != (ys.length : Int)) = true := by simpa using (by omega : ¬ (xs.length : Int) = ys.length)
    have hne3 : (xs.length == ys.length) = false := by simpa using hl
    go_enter Tryz.func35, Tryz.ntmps35
    go_wp2
    go_ret
    exact ⟨rfl, 0, rfl⟩
set_option maxRecDepth 100000 in
set_option maxHeartbeats 4000000 in
theorem words_ {n₀ : Nat} {w : World} {v v' : Value} {xs ys : List Int} (hx : Nums8 .u32 n₀ w v xs) (hy : Nums8 .u32 n₀ w v' ys) :
    Calls Tryz.prog 28 #[v, v'] w fun e w' => e = .returned (.bool (same intB xs ys)) ∧ Quiet w w' := by
  obtain ⟨p, c, rfl, gx⟩ := hx
  obtain ⟨p', c', rfl, gy⟩ := hy
  by_cases hl : xs.length = ys.length
  · have HX := Lib.hid gx
    have HY := Lib.hid gy
    have HE := Lib.hid (same_end intB xs ys hl)
    have HL := Lib.hid hl
    rw [← hl]
    have hb1 : xs.length ≤ maxLen := by
      by_cases h0 : 0 < xs.length
      · obtain ⟨b, o, -, -, h1, h2, -⟩ := gx h0; exact Nat.le_trans h1 h2
      · omega
    unfold maxLen at hb1
    clear hl gx gy
    go_enter Tryz.func28, Tryz.ntmps28
    go_wp2
    go_loopw [13] (fun i wr => ∃ k : Nat, k ≤ xs.length ∧ i = .int .i64 k ∧ same intB xs ys = same intB (xs.drop k) (ys.drop k) ∧ ∃ n, wr = w.drewN n) (fun i _ => xs.length - (intOf i).toNat)
    case atStart => exact ⟨0, Nat.zero_le _, rfl, rfl, 0, rfl⟩
    case round =>
      obtain ⟨k, hk, rfl, hq, n, rfl⟩ := hrel
      have HQ := Lib.hid hq
      clear hq
      by_cases hlt : k < xs.length
      · have hlt' : k < ys.length := by have := HL.out; omega
        obtain ⟨b, o, rfl, -, -, -, hr⟩ := HX.out (by omega)
        obtain ⟨b', o', rfl, -, -, -, hr'⟩ := HY.out (by omega)
        have c1 : w.cell? ⟨b, o + k, none⟩ = some (.int .u32 xs[k]) := hr k _ (List.getElem?_eq_getElem hlt)
        have c2 : w.cell? ⟨b', o' + k, none⟩ = some (.int .u32 ys[k]) := hr' k _ (List.getElem?_eq_getElem hlt')
        have HS := Lib.hid (same_step intB xs ys k hlt hlt')
        clear hr hr'
        generalize xs[k] = x at *
        generalize ys[k] = y at *
        have hn1 : (0 : Int) ≤ (k : Int) := by omega
        by_cases he : x = y
        · subst he
          have HX2 := Lib.hid (intB_refl x)
          go_upto_region 6 with (fail)
          go_quiet (fail)
          go_wp2
          exact ⟨⟨k + 1, by omega, by go_num, by rw [HQ.out, HS.out, HX2.out]; rfl, _, rfl⟩, by simp [intOf]; omega⟩
        · have HX2 := Lib.hid (show intB x y = false by unfold intB; simpa using he)
          have h1 : (x == y) = false := by simpa using he
          have h2 : (x != y) = true := by simpa using he
          go_upto_region 6 with (fail)
          go_quiet (fail)
          go_wp2
          go_ret
          exact ⟨ret_bool (by rw [HQ.out, HS.out, HX2.out]; rfl), _, World.drewN_drewN _ _ _⟩
      · obtain rfl : k = xs.length := by omega
        go_wp2
        go_ret
        exact ⟨ret_bool (by rw [HQ.out, HE.out]), n, rfl⟩
  · rw [same_no hl]
    have hb1 : xs.length ≤ maxLen := by
      by_cases h0 : 0 < xs.length
      · obtain ⟨b, o, -, -, h1, h2, -⟩ := gx h0; exact Nat.le_trans h1 h2
      · omega
    have hb2 : ys.length ≤ maxLen := by
      by_cases h0 : 0 < ys.length
      · obtain ⟨b, o, -, -, h1, h2, -⟩ := gy h0; exact Nat.le_trans h1 h2
      · omega
    unfold maxLen at hb1 hb2
    clear gx gy
    have hne : ((xs.length : Int) == (ys.length : Int)) = false := by simpa using (by omega : ¬ (xs.length : Int) = ys.length)
    have hne2 : ((xs.length : Int) != (ys.length : Int)) = true := by simpa using (by omega : ¬ (xs.length : Int) = ys.length)
    have hne3 : (xs.length == ys.length) = false := by simpa using hl
    go_enter Tryz.func28, Tryz.ntmps28
    go_wp2
    go_ret
    exact ⟨rfl, 0, rfl⟩
set_option maxRecDepth 100000 in
set_option maxHeartbeats 4000000 in
theorem eq_rels {n₀ : Nat} {w : World} {v v' : Value} {xs ys : List RelV} (hx : Rels n₀ w v xs) (hy : Rels n₀ w v' ys) :
    Calls Tryz.prog 37 #[v, v'] w fun e w' => e = .returned (.bool (same relB xs ys)) ∧ Quiet w w' := by
  obtain ⟨p, c, rfl, gx⟩ := hx
  obtain ⟨p', c', rfl, gy⟩ := hy
  by_cases hl : xs.length = ys.length
  · have HX := Lib.hid gx
    have HY := Lib.hid gy
    have HE := Lib.hid (same_end relB xs ys hl)
    have HL := Lib.hid hl
    rw [← hl]
    have hb1 : xs.length ≤ maxLen := by
      by_cases h0 : 0 < xs.length
      · obtain ⟨b, o, -, -, h1, h2, -⟩ := gx h0; exact Nat.le_trans h1 h2
      · omega
    unfold maxLen at hb1
    clear hl gx gy
    go_enter Tryz.func37, Tryz.ntmps37
    go_wp2
    go_loopw [13] (fun i wr => ∃ k : Nat, k ≤ xs.length ∧ i = .int .i64 k ∧ same relB xs ys = same relB (xs.drop k) (ys.drop k) ∧ ∃ n, wr = w.drewN n) (fun i _ => xs.length - (intOf i).toNat)
    case atStart => exact ⟨0, Nat.zero_le _, rfl, rfl, 0, rfl⟩
    case round =>
      obtain ⟨k, hk, rfl, hq, n, rfl⟩ := hrel
      have HQ := Lib.hid hq
      clear hq
      by_cases hlt : k < xs.length
      · have hlt' : k < ys.length := by have := HL.out; omega
        obtain ⟨b, o, rfl, -, -, -, hr⟩ := HX.out (by omega)
        obtain ⟨b', o', rfl, -, -, -, hr'⟩ := HY.out (by omega)
        obtain ⟨a0, a1, a2, a3, a4⟩ := hr k _ (List.getElem?_eq_getElem hlt)
        obtain ⟨d0, d1, d2, d3, d4⟩ := hr' k _ (List.getElem?_eq_getElem hlt')
        have HS := Lib.hid (same_step relB xs ys k hlt hlt')
        clear hr hr'
        generalize xs[k] = x at *
        generalize ys[k] = y at *
        have hn1 : (0 : Int) ≤ (k : Int) := by omega
        have hneq := rel_neq x y
        cases he : relB x y with
        | true =>
          rw [he] at hneq
          have HE2 := Lib.hid he
          clear he
          go_upto_region 6 with (fail)
          go_quiet (fail)
          go_wp2
          exact ⟨⟨k + 1, by omega, by go_num, by rw [HQ.out, HS.out, HE2.out]; rfl, _, rfl⟩, by simp [intOf]; omega⟩
        | false =>
          rw [he] at hneq
          have HE2 := Lib.hid he
          clear he
          go_upto_region 6 with (fail)
          go_quiet (fail)
          go_wp2
          go_ret
          exact ⟨ret_bool (by rw [HQ.out, HS.out, HE2.out]; rfl), _, World.drewN_drewN _ _ _⟩
      · obtain rfl : k = xs.length := by omega
        go_wp2
        go_ret
        exact ⟨ret_bool (by rw [HQ.out, HE.out]), n, rfl⟩
  · rw [same_no hl]
    have hb1 : xs.length ≤ maxLen := by
      by_cases h0 : 0 < xs.length
      · obtain ⟨b, o, -, -, h1, h2, -⟩ := gx h0; exact Nat.le_trans h1 h2
      · omega
    have hb2 : ys.length ≤ maxLen := by
      by_cases h0 : 0 < ys.length
      · obtain ⟨b, o, -, -, h1, h2, -⟩ := gy h0; exact Nat.le_trans h1 h2
      · omega
    unfold maxLen at hb1 hb2
    clear gx gy
    have hne : ((xs.length : Int) == (ys.length : Int)) = false := by simpa using (by omega : ¬ (xs.length : Int) = ys.length)
    have hne2 : ((xs.length : Int) != (ys.length : Int)) = true := by simpa using (by omega : ¬ (xs.length : Int) = ys.length)
    have hne3 : (xs.length == ys.length) = false := by simpa using hl
    go_enter Tryz.func37, Tryz.ntmps37
    go_wp2
    go_ret
    exact ⟨rfl, 0, rfl⟩
end OX
end Go.Proofs.YtieehjkmfmkfjaaGreatDoor
