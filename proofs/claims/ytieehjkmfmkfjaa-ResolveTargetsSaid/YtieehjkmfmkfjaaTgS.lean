/-
  The document's Same: a contract. Conditions: the objects lie in memory, and their numbers are of their kinds.
-/
import Derived.Test.YtieehjkmfmkfjaaObjG
import Derived.Laws.StructEq
import Derived.Deep.QuietTactic
import Derived.BigQuiet
import Derived.Laws.BytesArg
import Derived.Laws.BytesString
namespace Go.Proofs.Ytieehjkmfmkfjaa
open Go.RowKit
set_option linter.unusedVariables false
set_option linter.unusedSimpArgs false
namespace OX
open OO OJ
abbrev TO : TypeId := 30
theorem ret_bool {a b : Bool} (h : a = b) : Ending.returned (.bool a) = .returned (.bool b) := by rw [h]
/-- are two lists the same, one by one? -/
def same {α : Type} (eq : α → α → Bool) : List α → List α → Bool
  | [], [] => true
  | x :: xs, y :: ys => eq x y && same eq xs ys
  | _, _ => false
theorem same_step {α : Type} (eq : α → α → Bool) (xs ys : List α) (k : Nat) (h : k < xs.length) (h' : k < ys.length) : same eq (xs.drop k) (ys.drop k) = (eq xs[k] ys[k] && same eq (xs.drop (k + 1)) (ys.drop (k + 1))) := by
  rw [List.drop_eq_getElem_cons h, List.drop_eq_getElem_cons h']
  rfl
theorem same_end {α : Type} (eq : α → α → Bool) (xs ys : List α) (h : xs.length = ys.length) : same eq (xs.drop xs.length) (ys.drop xs.length) = true := by
  rw [List.drop_length, h, List.drop_length]
  rfl
theorem same_no {α : Type} {eq : α → α → Bool} : ∀ {xs ys : List α}, ¬ xs.length = ys.length → same eq xs ys = false
  | [], [], h => absurd rfl h
  | [], _ :: _, _ => rfl
  | _ :: _, [], _ => rfl
  | x :: xs, y :: ys, h => by
    show (eq x y && same eq xs ys) = false
    rw [same_no (xs := xs) (ys := ys) (fun e => h (by rw [List.length_cons, List.length_cons, e]))]
    exact Bool.and_false _
theorem same_refl {α : Type} {eq : α → α → Bool} (h : ∀ x, eq x x = true) : ∀ xs : List α, same eq xs xs = true
  | [] => rfl
  | x :: xs => by
    show (eq x x && same eq xs xs) = true
    rw [h, same_refl h xs]; rfl
theorem same_eq {α : Type} {eq : α → α → Bool} (h : ∀ x y, eq x y = true → x = y) : ∀ {xs ys : List α}, same eq xs ys = true → xs = ys
  | [], [], _ => rfl
  | [], _ :: _, e => by cases e
  | _ :: _, [], e => by cases e
  | x :: xs, y :: ys, e => by
    have e' : (eq x y && same eq xs ys) = true := e
    simp only [Bool.and_eq_true] at e'
    rw [h x y e'.1, same_eq h e'.2]
def intB (x y : Int) : Bool := x == y
def symB (s t : SymV) : Bool := s.name.toList == t.name.toList && (s.sect == t.sect && (s.val == t.val && (s.frame == t.frame && s.glob == t.glob)))
def relB (s t : RelV) : Bool := s.sect == t.sect && (s.place == t.place && (s.kind == t.kind && (s.sym == t.sym && s.add == t.add)))
theorem intB_refl (x : Int) : intB x x = true := by unfold intB; simp
theorem symB_refl (s : SymV) : symB s s = true := by unfold symB; simp
theorem relB_refl (s : RelV) : relB s s = true := by unfold relB; simp
def Quiet (w w' : World) : Prop := ∃ n, w' = w.drewN n
theorem Quiet.below {w w' : World} (h : Quiet w w') : Below w.heap.size w w' := by
  obtain ⟨n, rfl⟩ := h
  exact ⟨rfl, rfl, rfl, Nat.le_refl _, fun _ _ => rfl⟩
theorem sym_neq (s t : SymV) (w : World) : (binOp .neq 52 (.agg #[.string s.name, .int .i64 s.sect, .int .i64 s.val, .int .i64 s.frame, .bool s.glob]) (.agg #[.string t.name, .int .i64 t.sect, .int .i64 t.val, .int .i64 t.frame, .bool t.glob])).run Try.prog w = .ok (.bool (!symB s t)) w := by
  have hS : Try.prog.underlying 52 = some (.struct (Try.prog.fieldsOf 52)) := by kernel_rfl
  have u3 := Try.underlying3
  have u9 := Try.underlying9
  have u4 := Try.underlying4
  rw [run_neq_struct, show (10000 : Nat) = 9999 + 1 from rfl, run_equalIn_agg w 9999 _ _ _ hS (by kernel_rfl)]
  simp only [Program.fieldsOf, Try.underlying52]
  go_simp
  unfold symB
  by_cases h0 : s.name.toList = t.name.toList <;> by_cases h1 : s.sect = t.sect <;> by_cases h2 : s.val = t.val <;> by_cases h3 : s.frame = t.frame <;> by_cases h4 : s.glob = t.glob <;> simp [h0, h1, h2, h3, h4]
theorem rel_neq (s t : RelV) (w : World) : (binOp .neq 77 (.agg #[.int .i64 s.sect, .int .i64 s.place, .int .i64 s.kind, .int .i64 s.sym, .int .i64 s.add]) (.agg #[.int .i64 t.sect, .int .i64 t.place, .int .i64 t.kind, .int .i64 t.sym, .int .i64 t.add])).run Try.prog w = .ok (.bool (!relB s t)) w := by
  have hS : Try.prog.underlying 77 = some (.struct (Try.prog.fieldsOf 77)) := by kernel_rfl
  have u3 := Try.underlying3
  rw [run_neq_struct, show (10000 : Nat) = 9999 + 1 from rfl, run_equalIn_agg w 9999 _ _ _ hS (by kernel_rfl)]
  simp only [Program.fieldsOf, Try.underlying77]
  go_simp
  unfold relB
  by_cases h0 : s.sect = t.sect <;> by_cases h1 : s.place = t.place <;> by_cases h2 : s.kind = t.kind <;> by_cases h3 : s.sym = t.sym <;> by_cases h4 : s.add = t.add <;> simp [h0, h1, h2, h3, h4]
set_option maxRecDepth 100000 in
set_option maxHeartbeats 4000000 in
theorem words_ {n₀ : Nat} {w : World} {v v' : Value} {xs ys : List Int} (hx : Nums8 .u32 n₀ w v xs) (hy : Nums8 .u32 n₀ w v' ys) :
    Calls Try.prog 33 #[v, v'] w fun e w' => e = .returned (.bool (same intB xs ys)) ∧ Quiet w w' := by
  obtain ⟨p, c, rfl, gx⟩ := hx
  obtain ⟨p', c', rfl, gy⟩ := hy
  by_cases hl : xs.length = ys.length
  · have HX := Lib.hid gx
    have HY := Lib.hid gy
    have HE := Lib.hid (same_end intB xs ys hl)
    have HL := Lib.hid hl
    rw [← hl]
    have hb1 : xs.length ≤ maxLen := by
      by_cases h0 : 0 < xs.length
      · obtain ⟨b, o, -, -, h1, h2, -⟩ := gx h0; exact Nat.le_trans h1 h2
      · omega
    unfold maxLen at hb1
    clear hl gx gy
    go_enter Try.func33, Try.ntmps33
    go_wp2
    go_loopw [13] (fun i wr => ∃ k : Nat, k ≤ xs.length ∧ i = .int .i64 k ∧ same intB xs ys = same intB (xs.drop k) (ys.drop k) ∧ ∃ n, wr = w.drewN n) (fun i _ => xs.length - (intOf i).toNat)
    case atStart => exact ⟨0, Nat.zero_le _, rfl, rfl, 0, rfl⟩
    case round =>
      obtain ⟨k, hk, rfl, hq, n, rfl⟩ := hrel
      have HQ := Lib.hid hq
      clear hq
      by_cases hlt : k < xs.length
      · have hlt' : k < ys.length := by have := HL.out; omega
        obtain ⟨b, o, rfl, -, -, -, hr⟩ := HX.out (by omega)
        obtain ⟨b', o', rfl, -, -, -, hr'⟩ := HY.out (by omega)
        have c1 : w.cell? ⟨b, o + k, none⟩ = some (.int .u32 xs[k]) := hr k _ (List.getElem?_eq_getElem hlt)
        have c2 : w.cell? ⟨b', o' + k, none⟩ = some (.int .u32 ys[k]) := hr' k _ (List.getElem?_eq_getElem hlt')
        have HS := Lib.hid (same_step intB xs ys k hlt hlt')
        clear hr hr'
        generalize xs[k] = x at *
        generalize ys[k] = y at *
        have hn1 : (0 : Int) ≤ (k : Int) := by omega
        by_cases he : x = y
        · subst he
          have HX2 := Lib.hid (intB_refl x)
          go_upto_region 6 with (fail)
          go_quiet (fail)
          go_wp2
          exact ⟨⟨k + 1, by omega, by go_num, by rw [HQ.out, HS.out, HX2.out]; rfl, _, rfl⟩, by simp [intOf]; omega⟩
        · have HX2 := Lib.hid (show intB x y = false by unfold intB; simpa using he)
          have h1 : (x == y) = false := by simpa using he
          have h2 : (x != y) = true := by simpa using he
          go_upto_region 6 with (fail)
          go_quiet (fail)
          go_wp2
          go_ret
          exact ⟨ret_bool (by rw [HQ.out, HS.out, HX2.out]; rfl), _, World.drewN_drewN _ _ _⟩
      · obtain rfl : k = xs.length := by omega
        go_wp2
        go_ret
        exact ⟨ret_bool (by rw [HQ.out, HE.out]), n, rfl⟩
  · rw [same_no hl]
    have hb1 : xs.length ≤ maxLen := by
      by_cases h0 : 0 < xs.length
      · obtain ⟨b, o, -, -, h1, h2, -⟩ := gx h0; exact Nat.le_trans h1 h2
      · omega
    have hb2 : ys.length ≤ maxLen := by
      by_cases h0 : 0 < ys.length
      · obtain ⟨b, o, -, -, h1, h2, -⟩ := gy h0; exact Nat.le_trans h1 h2
      · omega
    unfold maxLen at hb1 hb2
    clear gx gy
    have hne : ((xs.length : Int) == (ys.length : Int)) = false := by simpa using (by omega : ¬ (xs.length : Int) = ys.length)
    have hne2 : ((xs.length : Int) != (ys.length : Int)) = true := by simpa using (by omega : ¬ (xs.length : Int) = ys.length)
    have hne3 : (xs.length == ys.length) = false := by simpa using hl
    go_enter Try.func33, Try.ntmps33
    go_wp2
    go_ret
    exact ⟨rfl, 0, rfl⟩
def sameO (a b : ObjV) : Bool := same intB a.ws b.ws && (same intB a.ds b.ds && (same symB a.ss b.ss && same relB a.rs b.rs))
theorem sameO_refl (a : ObjV) : sameO a a = true := by
  unfold sameO
  rw [same_refl intB_refl, same_refl intB_refl, same_refl symB_refl, same_refl relB_refl]
  rfl
theorem below_of {w W : World} (h : ∃ q, W = w.drewN q) : Below w.heap.size w W := Quiet.below h
end OX
namespace OY
open OO OJ OX
theorem conv_ {n₀ : Nat} {w : World} {v : Value} {xs : List Int} (h : Nums8 .u8 n₀ w v xs) : (convert 26 9 v).run Try.prog w = .ok (.string (strOfNums xs)) w := by
  obtain ⟨p, c, rfl, hh⟩ := h
  by_cases h0 : 0 < xs.length
  · obtain ⟨b, o, rfl, -, -, -, hr⟩ := hh h0
    exact run_convert_bytes_arg w _ _ Try.underlying26 Try.underlying5 b o _ c xs rfl (fun i hi => hr i _ (by rw [List.getD_eq_getElem?_getD, List.getElem?_eq_getElem hi]; rfl)) _ Try.underlying9
  · have e : xs = [] := List.eq_nil_of_length_eq_zero (by omega)
    subst e
    cases p with
    | none => exact run_convert_bytes_nil w _ _ Try.underlying26 Try.underlying5 _ _ _ Try.underlying9
    | some a =>
      rw [run_convert_bytes_string w _ _ 5 _ _ _ Try.underlying26 Try.underlying5 Try.underlying9]
      exact run_bytesToString w a 0 c [] (run_loadCells_list w a [] (fun j v hj => by simp at hj))
theorem byte_same {x y : Int} (hx : 0 ≤ x ∧ x ≤ 255) (hy : 0 ≤ y ∧ y ≤ 255) : (UInt8.ofNat x.toNat == UInt8.ofNat y.toNat) = intB x y := by
  unfold intB
  by_cases h : x = y
  · subst h; simp
  · have h1 : (x == y) = false := by simpa using h
    rw [h1]
    refine beq_eq_false_iff_ne.2 fun e => h ?_
    have e2 := congrArg UInt8.toNat e
    simp only [UInt8.toNat_ofNat'] at e2
    omega
theorem list_same : ∀ {xs ys : List Int}, Bytes xs → Bytes ys → ((xs.map fun n => UInt8.ofNat n.toNat) == (ys.map fun n => UInt8.ofNat n.toNat)) = same intB xs ys
  | [], [], _, _ => rfl
  | [], _ :: _, _, _ => rfl
  | _ :: _, [], _, _ => rfl
  | x :: xs, y :: ys, hx, hy => by
    rw [List.map_cons, List.map_cons, List.cons_beq_cons, byte_same (hx x (by simp)) (hy y (by simp)), list_same (fun a ha => hx a (by simp [ha])) (fun a ha => hy a (by simp [ha]))]
    rfl
theorem str_same {xs ys : List Int} (hx : Bytes xs) (hy : Bytes ys) : ((strOfNums xs).toList == (strOfNums ys).toList) = same intB xs ys := by
  rw [ByteArray.toList_eq, ByteArray.toList_eq, strOfNums_data, strOfNums_data]
  exact list_same hx hy
set_option maxRecDepth 100000 in
set_option maxHeartbeats 8000000 in
theorem RSame_ {n₀ : Nat} {w : World} {a0 a1 a2 a3 b0 b1 b2 b3 : Value} {a b : ObjV} (hn : n₀ ≤ w.heap.size) (ha : ObjAt n₀ w a0 a1 a2 a3 a) (hb : ObjAt n₀ w b0 b1 b2 b3 b) (wa : a.Wf) (wb : b.Wf) :
    Calls Try.prog 16 #[.agg #[a0, a1, a2, a3], .agg #[b0, b1, b2, b3]] w fun e w' => e = .returned (.bool (sameO a b)) ∧ Below w.heap.size w w' := by
  have hB : Below w.heap.size w ((w.alloc (.cells #[a0, a1, a2, a3] TO)).alloc (.cells #[b0, b1, b2, b3] TO)) := ((Below.refl _ _).alloc (Nat.le_refl _) _).alloc (by simp) _
  have h1 : ((w.alloc (.cells #[a0, a1, a2, a3] TO)).alloc (.cells #[b0, b1, b2, b3] TO)).heap[w.heap.size]? = some (.cells #[a0, a1, a2, a3] TO (0, 0)) := (Lib.alloc_old _ _ _ (by simp)).trans (heap_alloc_new w _)
  have h2 : ((w.alloc (.cells #[a0, a1, a2, a3] TO)).alloc (.cells #[b0, b1, b2, b3] TO)).heap[w.heap.size + 1]? = some (.cells #[b0, b1, b2, b3] TO (0, 0)) := by
    have := heap_alloc_new (w.alloc (.cells #[a0, a1, a2, a3] TO)) (.cells #[b0, b1, b2, b3] TO)
    rwa [World.size_alloc] at this
  have hA := Lib.hid (ha.below (hB.mono hn))
  have hBb := Lib.hid (hb.below (hB.mono hn))
  have hBB := Lib.hid hB
  have HWA := Lib.hid wa
  have HWB := Lib.hid wb
  have m0 := OB.lens ha
  have m1 := OB.lens hb
  obtain ⟨p0, q0, rfl, -⟩ := ha.ws
  obtain ⟨p1, q1, rfl, -⟩ := ha.ds
  obtain ⟨p2, q2, rfl, -⟩ := ha.ss
  obtain ⟨p3, q3, rfl, -⟩ := ha.rs
  obtain ⟨s0, t0, rfl, -⟩ := hb.ws
  obtain ⟨s1, t1, rfl, -⟩ := hb.ds
  obtain ⟨s2, t2, rfl, -⟩ := hb.ss
  obtain ⟨s3, t3, rfl, -⟩ := hb.rs
  unfold maxLen at m0 m1
  obtain ⟨-, -, m2, m3⟩ := m0
  obtain ⟨-, -, m4, m5⟩ := m1
  clear ha hb wa wb hB
  go_enter Try.func16, Try.ntmps16
  go_upto_region 1 with (fail)
  generalize (w.alloc (.cells #[.slice p0 a.ws.length q0, .slice p1 a.ds.length q1, .slice p2 a.ss.length q2, .slice p3 a.rs.length q3] TO)).alloc (.cells #[.slice s0 b.ws.length t0, .slice s1 b.ds.length t1, .slice s2 b.ss.length t2, .slice s3 b.rs.length t3] TO) = W at *
  have l0 := words_ hA.out.ws hBb.out.ws
  have f0 : W.cell? ⟨w.heap.size, 0, none⟩ = some (.slice p0 a.ws.length q0) := Lib.cell_of_heap h1 0
  have f1 : W.cell? ⟨w.heap.size, 1, none⟩ = some (.slice p1 a.ds.length q1) := Lib.cell_of_heap h1 1
  have f2 : W.cell? ⟨w.heap.size, 2, none⟩ = some (.slice p2 a.ss.length q2) := Lib.cell_of_heap h1 2
  have f3 : W.cell? ⟨w.heap.size, 3, none⟩ = some (.slice p3 a.rs.length q3) := Lib.cell_of_heap h1 3
  have g0 : W.cell? ⟨w.heap.size + 1, 0, none⟩ = some (.slice s0 b.ws.length t0) := Lib.cell_of_heap h2 0
  have g1 : W.cell? ⟨w.heap.size + 1, 1, none⟩ = some (.slice s1 b.ds.length t1) := Lib.cell_of_heap h2 1
  have g2 : W.cell? ⟨w.heap.size + 1, 2, none⟩ = some (.slice s2 b.ss.length t2) := Lib.cell_of_heap h2 2
  have g3 : W.cell? ⟨w.heap.size + 1, 3, none⟩ = some (.slice s3 b.rs.length t3) := Lib.cell_of_heap h2 3
  have ba := fun q => hA.out.below (w' := W.drewN q) ⟨rfl, rfl, rfl, Nat.le_refl _, fun _ _ => rfl⟩
  have bb := fun q => hBb.out.below (w' := W.drewN q) ⟨rfl, rfl, rfl, Nat.le_refl _, fun _ _ => rfl⟩
  have c1 := fun q => conv_ (ba q).ds
  have c2 := fun q => conv_ (bb q).ds
  have hs := str_same HWA.out.ds HWB.out.ds
  have hsn : (!((strOfNums a.ds).toList == (strOfNums b.ds).toList)) = !same intB a.ds b.ds := by rw [hs]
  have HAS := Lib.hid hA.out.ss
  have HBS := Lib.hid hBb.out.ss
  have HAR := Lib.hid hA.out.rs
  have HBR := Lib.hid hBb.out.rs
  have HN2 := Lib.hid (@same_no _ symB a.ss b.ss)
  have HN3 := Lib.hid (@same_no _ relB a.rs b.rs)
  clear h1 h2 ba bb
  generalize strOfNums a.ds = sa at *
  generalize strOfNums b.ds = sb at *
  cases hx0 : same intB a.ws b.ws with
  | false =>
    have HX0 := Lib.hid hx0
    rw [hx0] at l0
    clear hx0
    go_wp2_with (go_at_call 33; (with_reducible refine l0.mono ?_); rintro e w1 ⟨rfl, m0, rfl⟩)
    go_ret
    exact ⟨ret_bool (by unfold sameO; simp [HX0.out]), hBB.out.trans ⟨rfl, rfl, rfl, Nat.le_refl _, fun _ _ => rfl⟩⟩
  | true =>
    have HX0 := Lib.hid hx0
    rw [hx0] at l0
    clear hx0
    cases hx1 : same intB a.ds b.ds with
    | false =>
      have HX1 := Lib.hid hx1
      rw [hx1] at hs hsn
      clear hx1
      go_wp2_with (go_at_call 33; (with_reducible refine l0.mono ?_); rintro e w1 ⟨rfl, m0, rfl⟩)
      go_ret
      exact ⟨ret_bool (by unfold sameO; simp [HX0.out, HX1.out]), hBB.out.trans ⟨rfl, rfl, rfl, Nat.le_refl _, fun _ _ => rfl⟩⟩
    | true =>
      have HX1 := Lib.hid hx1
      rw [hx1] at hs hsn
      clear hx1
      by_cases hl2 : a.ss.length = b.ss.length
      · by_cases hl3 : a.rs.length = b.rs.length
        · have hne : ((a.rs.length : Int) == (b.rs.length : Int)) = true := by rw [hl3]; simp
          have hne2 : ((a.rs.length : Int) != (b.rs.length : Int)) = false := by rw [hl3]; simp
          have hme : ((a.ss.length : Int) == (b.ss.length : Int)) = true := by rw [hl2]; simp
          have hme2 : ((a.ss.length : Int) != (b.ss.length : Int)) = false := by rw [hl2]; simp
          have HL2 := Lib.hid hl2
          have HL3 := Lib.hid hl3
          have HE2 := Lib.hid (same_end symB a.ss b.ss hl2)
          have HE3 := Lib.hid (same_end relB a.rs b.rs hl3)
          clear hl2 hl3
          go_wp2_with (go_at_call 33; (with_reducible refine l0.mono ?_); rintro e w1 ⟨rfl, m0, rfl⟩)
          clear l0
          go_loopw [43] (fun i wr => ∃ k : Nat, k ≤ a.ss.length ∧ i = .int .i64 k ∧ same symB a.ss b.ss = same symB (a.ss.drop k) (b.ss.drop k) ∧ ∃ n, wr = W.drewN n) (fun i _ => a.ss.length - (intOf i).toNat)
          case atStart => exact ⟨0, Nat.zero_le _, rfl, rfl, _, rfl⟩
          case round =>
            obtain ⟨k, hk, rfl, hq, n, rfl⟩ := hrel
            have HQ := Lib.hid hq
            clear hq
            by_cases hlt : k < a.ss.length
            · have hlt' : k < b.ss.length := by have := HL2.out; omega
              obtain ⟨pp, cc, ee, gx⟩ := HAS.out
              cases ee
              obtain ⟨pp', cc', ee', gy⟩ := HBS.out
              cases ee'
              obtain ⟨bk, o, rfl, -, -, -, hr⟩ := gx (by omega)
              obtain ⟨bk', o', rfl, -, -, -, hr'⟩ := gy (by omega)
              obtain ⟨a0, a1, a2, a3, a4⟩ := hr k _ (List.getElem?_eq_getElem hlt)
              obtain ⟨d0, d1, d2, d3, d4⟩ := hr' k _ (List.getElem?_eq_getElem hlt')
              have HS := Lib.hid (same_step symB a.ss b.ss k hlt hlt')
              clear hr hr' gx gy
              generalize a.ss[k] = x at *
              generalize b.ss[k] = y at *
              have hn1 : (0 : Int) ≤ (k : Int) := by omega
              have hneq := sym_neq x y
              cases he : symB x y with
              | true =>
                rw [he] at hneq
                have HE := Lib.hid he
                clear he
                go_upto_region 6 with (fail)
                go_quiet (fail)
                go_wp2
                exact ⟨⟨k + 1, by omega, by go_num, by rw [HQ.out, HS.out, HE.out]; rfl, _, rfl⟩, by simp [intOf]; omega⟩
              | false =>
                rw [he] at hneq
                have HE := Lib.hid he
                clear he
                go_upto_region 6 with (fail)
                go_quiet (fail)
                go_wp2
                go_ret
                exact ⟨ret_bool (by unfold sameO; rw [HX0.out, HX1.out, HQ.out, HS.out, HE.out]; rfl), hBB.out.trans ⟨rfl, rfl, rfl, Nat.le_refl _, fun _ _ => rfl⟩⟩
            · obtain rfl : k = a.ss.length := by omega
              have HQS := Lib.hid (HQ.out.trans HE2.out)
              clear HQ hk hlt
              go_wp2
              go_loopw [61] (fun i wr => ∃ k : Nat, k ≤ a.rs.length ∧ i = .int .i64 k ∧ same relB a.rs b.rs = same relB (a.rs.drop k) (b.rs.drop k) ∧ ∃ n, wr = W.drewN n) (fun i _ => a.rs.length - (intOf i).toNat)
              case atStart => exact ⟨0, Nat.zero_le _, rfl, rfl, _, rfl⟩
              case round =>
                obtain ⟨k, hk, rfl, hq, n, rfl⟩ := hrel
                have HQ := Lib.hid hq
                clear hq
                by_cases hlt : k < a.rs.length
                · have hlt' : k < b.rs.length := by have := HL3.out; omega
                  obtain ⟨pp, cc, ee, gx⟩ := HAR.out
                  cases ee
                  obtain ⟨pp', cc', ee', gy⟩ := HBR.out
                  cases ee'
                  obtain ⟨bk, o, rfl, -, -, -, hr⟩ := gx (by omega)
                  obtain ⟨bk', o', rfl, -, -, -, hr'⟩ := gy (by omega)
                  obtain ⟨a0, a1, a2, a3, a4⟩ := hr k _ (List.getElem?_eq_getElem hlt)
                  obtain ⟨d0, d1, d2, d3, d4⟩ := hr' k _ (List.getElem?_eq_getElem hlt')
                  have HS := Lib.hid (same_step relB a.rs b.rs k hlt hlt')
                  clear hr hr' gx gy
                  generalize a.rs[k] = x at *
                  generalize b.rs[k] = y at *
                  have hn1 : (0 : Int) ≤ (k : Int) := by omega
                  have hneq := rel_neq x y
                  cases he : relB x y with
                  | true =>
                    rw [he] at hneq
                    have HE := Lib.hid he
                    clear he
                    go_upto_region 12 with (fail)
                    go_quiet (fail)
                    go_wp2
                    exact ⟨⟨k + 1, by omega, by go_num, by rw [HQ.out, HS.out, HE.out]; rfl, _, rfl⟩, by simp [intOf]; omega⟩
                  | false =>
                    rw [he] at hneq
                    have HE := Lib.hid he
                    clear he
                    go_upto_region 12 with (fail)
                    go_quiet (fail)
                    go_wp2
                    go_ret
                    exact ⟨ret_bool (by unfold sameO; rw [HX0.out, HX1.out, HQS.out, HQ.out, HS.out, HE.out]; rfl), hBB.out.trans ⟨rfl, rfl, rfl, Nat.le_refl _, fun _ _ => rfl⟩⟩
                · obtain rfl : k = a.rs.length := by omega
                  go_wp2
                  go_ret
                  exact ⟨ret_bool (by unfold sameO; rw [HX0.out, HX1.out, HQS.out, HQ.out, HE3.out]; rfl), hBB.out.trans ⟨rfl, rfl, rfl, Nat.le_refl _, fun _ _ => rfl⟩⟩
        · have HZ := Lib.hid (HN3.out hl3)
          have hne : ((a.rs.length : Int) == (b.rs.length : Int)) = false := by simpa using (by omega : ¬ (a.rs.length : Int) = b.rs.length)
          have hne2 : ((a.rs.length : Int) != (b.rs.length : Int)) = true := by simpa using (by omega : ¬ (a.rs.length : Int) = b.rs.length)
          go_wp2_with (go_at_call 33; (with_reducible refine l0.mono ?_); rintro e w1 ⟨rfl, m0, rfl⟩)
          go_ret
          exact ⟨ret_bool (by unfold sameO; simp [HX0.out, HX1.out, HZ.out]), hBB.out.trans ⟨rfl, rfl, rfl, Nat.le_refl _, fun _ _ => rfl⟩⟩
      · have HZ := Lib.hid (HN2.out hl2)
        have hne : ((a.ss.length : Int) == (b.ss.length : Int)) = false := by simpa using (by omega : ¬ (a.ss.length : Int) = b.ss.length)
        have hne2 : ((a.ss.length : Int) != (b.ss.length : Int)) = true := by simpa using (by omega : ¬ (a.ss.length : Int) = b.ss.length)
        go_wp2_with (go_at_call 33; (with_reducible refine l0.mono ?_); rintro e w1 ⟨rfl, m0, rfl⟩)
        go_ret
        exact ⟨ret_bool (by unfold sameO; simp [HX0.out, HX1.out, HZ.out]), hBB.out.trans ⟨rfl, rfl, rfl, Nat.le_refl _, fun _ _ => rfl⟩⟩
end OY
end Go.Proofs.Ytieehjkmfmkfjaa
