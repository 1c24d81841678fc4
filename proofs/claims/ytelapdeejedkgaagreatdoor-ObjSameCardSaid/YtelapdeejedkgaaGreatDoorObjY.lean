/-
  Objects compared: the document's Same: a contract. Conditions: the objects lie in memory, and their numbers are of their kinds.
-/
import Derived.Test.YtelapdeejedkgaaGreatDoorObjZ
import Derived.Test.YtelapdeejedkgaaGreatDoorObjB
import Derived.Laws.BytesArg
import Derived.Laws.BytesString
namespace Go.Proofs.YtelapdeejedkgaaGreatDoor
open Go.RowKit
set_option linter.unusedVariables false
set_option linter.unusedSimpArgs false
namespace OY
open OO OJ OL OX OZ
theorem conv_ {n₀ : Nat} {w : World} {v : Value} {xs : List Int} (h : Nums8 .u8 n₀ w v xs) : (convert 23 9 v).run Tryz.prog w = .ok (.string (strOfNums xs)) w := by
  obtain ⟨p, c, rfl, hh⟩ := h
  by_cases h0 : 0 < xs.length
  · obtain ⟨b, o, rfl, -, -, -, hr⟩ := hh h0
    exact run_convert_bytes_arg w _ _ Tryz.underlying23 Tryz.underlying5 b o _ c xs rfl (fun i hi => hr i _ (by rw [List.getD_eq_getElem?_getD, List.getElem?_eq_getElem hi]; rfl)) _ Tryz.underlying9
  · have e : xs = [] := List.eq_nil_of_length_eq_zero (by omega)
    subst e
    cases p with
    | none => exact run_convert_bytes_nil w _ _ Tryz.underlying23 Tryz.underlying5 _ _ _ Tryz.underlying9
    | some a =>
      rw [run_convert_bytes_string w _ _ 5 _ _ _ Tryz.underlying23 Tryz.underlying5 Tryz.underlying9]
      exact run_bytesToString w a 0 c [] (run_loadCells_list w a [] (fun j v hj => by simp at hj))
theorem byte_same {x y : Int} (hx : 0 ≤ x ∧ x ≤ 255) (hy : 0 ≤ y ∧ y ≤ 255) : (UInt8.ofNat x.toNat == UInt8.ofNat y.toNat) = intB x y := by
  unfold intB
  by_cases h : x = y
  · subst h; simp
  · have h1 : (x == y) = false := by simpa using h
    rw [h1]
    refine beq_eq_false_iff_ne.2 fun e => h ?_
    have e2 := congrArg UInt8.toNat e
    simp only [UInt8.toNat_ofNat'] at e2
    omega
theorem list_same : ∀ {xs ys : List Int}, Bytes xs → Bytes ys → ((xs.map fun n => UInt8.ofNat n.toNat) == (ys.map fun n => UInt8.ofNat n.toNat)) = same intB xs ys
  | [], [], _, _ => rfl
  | [], _ :: _, _, _ => rfl
  | _ :: _, [], _, _ => rfl
  | x :: xs, y :: ys, hx, hy => by
    rw [List.map_cons, List.map_cons, List.cons_beq_cons, byte_same (hx x (by simp)) (hy y (by simp)), list_same (fun a ha => hx a (by simp [ha])) (fun a ha => hy a (by simp [ha]))]
    rfl
theorem str_same {xs ys : List Int} (hx : Bytes xs) (hy : Bytes ys) : ((strOfNums xs).toList == (strOfNums ys).toList) = same intB xs ys := by
  rw [ByteArray.toList_eq, ByteArray.toList_eq, strOfNums_data, strOfNums_data]
  exact list_same hx hy
set_option maxRecDepth 100000 in
set_option maxHeartbeats 8000000 in
theorem RSame_ {n₀ : Nat} {w : World} {a0 a1 a2 a3 b0 b1 b2 b3 : Value} {a b : ObjV} (hn : n₀ ≤ w.heap.size) (ha : ObjAt n₀ w a0 a1 a2 a3 a) (hb : ObjAt n₀ w b0 b1 b2 b3 b) (wa : a.Wf) (wb : b.Wf) :
    Calls Tryz.prog 16 #[.agg #[a0, a1, a2, a3], .agg #[b0, b1, b2, b3]] w fun e w' => e = .returned (.bool (sameO a b)) ∧ Below w.heap.size w w' := by
  have hB : Below w.heap.size w ((w.alloc (.cells #[a0, a1, a2, a3] TO)).alloc (.cells #[b0, b1, b2, b3] TO)) := ((Below.refl _ _).alloc (Nat.le_refl _) _).alloc (by simp) _
  have h1 : ((w.alloc (.cells #[a0, a1, a2, a3] TO)).alloc (.cells #[b0, b1, b2, b3] TO)).heap[w.heap.size]? = some (.cells #[a0, a1, a2, a3] TO (0, 0)) := (Lib.alloc_old _ _ _ (by simp)).trans (heap_alloc_new w _)
  have h2 : ((w.alloc (.cells #[a0, a1, a2, a3] TO)).alloc (.cells #[b0, b1, b2, b3] TO)).heap[w.heap.size + 1]? = some (.cells #[b0, b1, b2, b3] TO (0, 0)) := by
    have := heap_alloc_new (w.alloc (.cells #[a0, a1, a2, a3] TO)) (.cells #[b0, b1, b2, b3] TO)
    rwa [World.size_alloc] at this
  have hA := Lib.hid (ha.below (hB.mono hn))
  have hBb := Lib.hid (hb.below (hB.mono hn))
  have hBB := Lib.hid hB
  have HWA := Lib.hid wa
  have HWB := Lib.hid wb
  have m0 := OB.lens ha
  have m1 := OB.lens hb
  obtain ⟨p0, q0, rfl, -⟩ := ha.ws
  obtain ⟨p1, q1, rfl, -⟩ := ha.ds
  obtain ⟨p2, q2, rfl, -⟩ := ha.ss
  obtain ⟨p3, q3, rfl, -⟩ := ha.rs
  obtain ⟨s0, t0, rfl, -⟩ := hb.ws
  obtain ⟨s1, t1, rfl, -⟩ := hb.ds
  obtain ⟨s2, t2, rfl, -⟩ := hb.ss
  obtain ⟨s3, t3, rfl, -⟩ := hb.rs
  unfold maxLen at m0 m1
  obtain ⟨-, -, m2, m3⟩ := m0
  obtain ⟨-, -, m4, m5⟩ := m1
  clear ha hb wa wb hB
  go_enter Tryz.func16, Tryz.ntmps16
  go_upto_region 1 with (fail)
  generalize (w.alloc (.cells #[.slice p0 a.ws.length q0, .slice p1 a.ds.length q1, .slice p2 a.ss.length q2, .slice p3 a.rs.length q3] TO)).alloc (.cells #[.slice s0 b.ws.length t0, .slice s1 b.ds.length t1, .slice s2 b.ss.length t2, .slice s3 b.rs.length t3] TO) = W at *
  have l0 := words_ hA.out.ws hBb.out.ws
  have f0 : W.cell? ⟨w.heap.size, 0, none⟩ = some (.slice p0 a.ws.length q0) := Lib.cell_of_heap h1 0
  have f1 : W.cell? ⟨w.heap.size, 1, none⟩ = some (.slice p1 a.ds.length q1) := Lib.cell_of_heap h1 1
  have f2 : W.cell? ⟨w.heap.size, 2, none⟩ = some (.slice p2 a.ss.length q2) := Lib.cell_of_heap h1 2
  have f3 : W.cell? ⟨w.heap.size, 3, none⟩ = some (.slice p3 a.rs.length q3) := Lib.cell_of_heap h1 3
  have g0 : W.cell? ⟨w.heap.size + 1, 0, none⟩ = some (.slice s0 b.ws.length t0) := Lib.cell_of_heap h2 0
  have g1 : W.cell? ⟨w.heap.size + 1, 1, none⟩ = some (.slice s1 b.ds.length t1) := Lib.cell_of_heap h2 1
  have g2 : W.cell? ⟨w.heap.size + 1, 2, none⟩ = some (.slice s2 b.ss.length t2) := Lib.cell_of_heap h2 2
  have g3 : W.cell? ⟨w.heap.size + 1, 3, none⟩ = some (.slice s3 b.rs.length t3) := Lib.cell_of_heap h2 3
  have ba := fun q => hA.out.below (w' := W.drewN q) ⟨rfl, rfl, rfl, Nat.le_refl _, fun _ _ => rfl⟩
  have bb := fun q => hBb.out.below (w' := W.drewN q) ⟨rfl, rfl, rfl, Nat.le_refl _, fun _ _ => rfl⟩
  have c1 := fun q => conv_ (ba q).ds
  have c2 := fun q => conv_ (bb q).ds
  have hs := str_same HWA.out.ds HWB.out.ds
  have hsn : (!((strOfNums a.ds).toList == (strOfNums b.ds).toList)) = !same intB a.ds b.ds := by rw [hs]
  have HAS := Lib.hid hA.out.ss
  have HBS := Lib.hid hBb.out.ss
  have HAR := Lib.hid hA.out.rs
  have HBR := Lib.hid hBb.out.rs
  have HN2 := Lib.hid (@same_no _ symB a.ss b.ss)
  have HN3 := Lib.hid (@same_no _ relB a.rs b.rs)
  clear h1 h2 ba bb
  generalize strOfNums a.ds = sa at *
  generalize strOfNums b.ds = sb at *
  cases hx0 : same intB a.ws b.ws with
  | false =>
    have HX0 := Lib.hid hx0
    rw [hx0] at l0
    clear hx0
    go_wp2_with (go_at_call 30; (with_reducible refine l0.mono ?_); rintro e w1 ⟨rfl, m0, rfl⟩)
    go_ret
    exact ⟨ret_bool (by unfold sameO; simp [HX0.out]), hBB.out.trans ⟨rfl, rfl, rfl, Nat.le_refl _, fun _ _ => rfl⟩⟩
  | true =>
    have HX0 := Lib.hid hx0
    rw [hx0] at l0
    clear hx0
    cases hx1 : same intB a.ds b.ds with
    | false =>
      have HX1 := Lib.hid hx1
      rw [hx1] at hs hsn
      clear hx1
      go_wp2_with (go_at_call 30; (with_reducible refine l0.mono ?_); rintro e w1 ⟨rfl, m0, rfl⟩)
      go_ret
      exact ⟨ret_bool (by unfold sameO; simp [HX0.out, HX1.out]), hBB.out.trans ⟨rfl, rfl, rfl, Nat.le_refl _, fun _ _ => rfl⟩⟩
    | true =>
      have HX1 := Lib.hid hx1
      rw [hx1] at hs hsn
      clear hx1
      by_cases hl2 : a.ss.length = b.ss.length
      · by_cases hl3 : a.rs.length = b.rs.length
        · have hne : ((a.rs.length : Int) == (b.rs.length : Int)) = true := by rw [hl3]; simp
          have hne2 : ((a.rs.length : Int) != (b.rs.length : Int)) = false := by rw [hl3]; simp
          have hme : ((a.ss.length : Int) == (b.ss.length : Int)) = true := by rw [hl2]; simp
          have hme2 : ((a.ss.length : Int) != (b.ss.length : Int)) = false := by rw [hl2]; simp
          have HL2 := Lib.hid hl2
          have HL3 := Lib.hid hl3
          have HE2 := Lib.hid (same_end symB a.ss b.ss hl2)
          have HE3 := Lib.hid (same_end relB a.rs b.rs hl3)
          clear hl2 hl3
          go_wp2_with (go_at_call 30; (with_reducible refine l0.mono ?_); rintro e w1 ⟨rfl, m0, rfl⟩)
          clear l0
          go_loopw [43] (fun i wr => ∃ k : Nat, k ≤ a.ss.length ∧ i = .int .i64 k ∧ same symB a.ss b.ss = same symB (a.ss.drop k) (b.ss.drop k) ∧ ∃ n, wr = W.drewN n) (fun i _ => a.ss.length - (intOf i).toNat)
          case atStart => exact ⟨0, Nat.zero_le _, rfl, rfl, _, rfl⟩
          case round =>
            obtain ⟨k, hk, rfl, hq, n, rfl⟩ := hrel
            have HQ := Lib.hid hq
            clear hq
            by_cases hlt : k < a.ss.length
            · have hlt' : k < b.ss.length := by have := HL2.out; omega
              obtain ⟨pp, cc, ee, gx⟩ := HAS.out
              cases ee
              obtain ⟨pp', cc', ee', gy⟩ := HBS.out
              cases ee'
              obtain ⟨bk, o, rfl, -, -, -, hr⟩ := gx (by omega)
              obtain ⟨bk', o', rfl, -, -, -, hr'⟩ := gy (by omega)
              obtain ⟨a0, a1, a2, a3, a4⟩ := hr k _ (List.getElem?_eq_getElem hlt)
              obtain ⟨d0, d1, d2, d3, d4⟩ := hr' k _ (List.getElem?_eq_getElem hlt')
              have HS := Lib.hid (same_step symB a.ss b.ss k hlt hlt')
              clear hr hr' gx gy
              generalize a.ss[k] = x at *
              generalize b.ss[k] = y at *
              have hn1 : (0 : Int) ≤ (k : Int) := by omega
              have hneq := sym_neq x y
              cases he : symB x y with
              | true =>
                rw [he] at hneq
                have HE := Lib.hid he
                clear he
                go_upto_region 6 with (fail)
                go_quiet (fail)
                go_wp2
                exact ⟨⟨k + 1, by omega, by go_num, by rw [HQ.out, HS.out, HE.out]; rfl, _, rfl⟩, by simp [intOf]; omega⟩
              | false =>
                rw [he] at hneq
                have HE := Lib.hid he
                clear he
                go_upto_region 6 with (fail)
                go_quiet (fail)
                go_wp2
                go_ret
                exact ⟨ret_bool (by unfold sameO; rw [HX0.out, HX1.out, HQ.out, HS.out, HE.out]; rfl), hBB.out.trans ⟨rfl, rfl, rfl, Nat.le_refl _, fun _ _ => rfl⟩⟩
            · obtain rfl : k = a.ss.length := by omega
              have HQS := Lib.hid (HQ.out.trans HE2.out)
              clear HQ hk hlt
              go_wp2
              go_loopw [61] (fun i wr => ∃ k : Nat, k ≤ a.rs.length ∧ i = .int .i64 k ∧ same relB a.rs b.rs = same relB (a.rs.drop k) (b.rs.drop k) ∧ ∃ n, wr = W.drewN n) (fun i _ => a.rs.length - (intOf i).toNat)
              case atStart => exact ⟨0, Nat.zero_le _, rfl, rfl, _, rfl⟩
              case round =>
                obtain ⟨k, hk, rfl, hq, n, rfl⟩ := hrel
                have HQ := Lib.hid hq
                clear hq
                by_cases hlt : k < a.rs.length
                · have hlt' : k < b.rs.length := by have := HL3.out; omega
                  obtain ⟨pp, cc, ee, gx⟩ := HAR.out
                  cases ee
                  obtain ⟨pp', cc', ee', gy⟩ := HBR.out
                  cases ee'
                  obtain ⟨bk, o, rfl, -, -, -, hr⟩ := gx (by omega)
                  obtain ⟨bk', o', rfl, -, -, -, hr'⟩ := gy (by omega)
                  obtain ⟨a0, a1, a2, a3, a4⟩ := hr k _ (List.getElem?_eq_getElem hlt)
                  obtain ⟨d0, d1, d2, d3, d4⟩ := hr' k _ (List.getElem?_eq_getElem hlt')
                  have HS := Lib.hid (same_step relB a.rs b.rs k hlt hlt')
                  clear hr hr' gx gy
                  generalize a.rs[k] = x at *
                  generalize b.rs[k] = y at *
                  have hn1 : (0 : Int) ≤ (k : Int) := by omega
                  have hneq := rel_neq x y
                  cases he : relB x y with
                  | true =>
                    rw [he] at hneq
                    have HE := Lib.hid he
                    clear he
                    go_upto_region 12 with (fail)
                    go_quiet (fail)
                    go_wp2
                    exact ⟨⟨k + 1, by omega, by go_num, by rw [HQ.out, HS.out, HE.out]; rfl, _, rfl⟩, by simp [intOf]; omega⟩
                  | false =>
                    rw [he] at hneq
                    have HE := Lib.hid he
                    clear he
                    go_upto_region 12 with (fail)
                    go_quiet (fail)
                    go_wp2
                    go_ret
                    exact ⟨ret_bool (by unfold sameO; rw [HX0.out, HX1.out, HQS.out, HQ.out, HS.out, HE.out]; rfl), hBB.out.trans ⟨rfl, rfl, rfl, Nat.le_refl _, fun _ _ => rfl⟩⟩
                · obtain rfl : k = a.rs.length := by omega
                  go_wp2
                  go_ret
                  exact ⟨ret_bool (by unfold sameO; rw [HX0.out, HX1.out, HQS.out, HQ.out, HE3.out]; rfl), hBB.out.trans ⟨rfl, rfl, rfl, Nat.le_refl _, fun _ _ => rfl⟩⟩
        · have HZ := Lib.hid (HN3.out hl3)
          have hne : ((a.rs.length : Int) == (b.rs.length : Int)) = false := by simpa using (by omega : ¬ (a.rs.length : Int) = b.rs.length)
          have hne2 : ((a.rs.length : Int) != (b.rs.length : Int)) = true := by simpa using (by omega : ¬ (a.rs.length : Int) = b.rs.length)
          go_wp2_with (go_at_call 30; (with_reducible refine l0.mono ?_); rintro e w1 ⟨rfl, m0, rfl⟩)
          go_ret
          exact ⟨ret_bool (by unfold sameO; simp [HX0.out, HX1.out, HZ.out]), hBB.out.trans ⟨rfl, rfl, rfl, Nat.le_refl _, fun _ _ => rfl⟩⟩
      · have HZ := Lib.hid (HN2.out hl2)
        have hne : ((a.ss.length : Int) == (b.ss.length : Int)) = false := by simpa using (by omega : ¬ (a.ss.length : Int) = b.ss.length)
        have hne2 : ((a.ss.length : Int) != (b.ss.length : Int)) = true := by simpa using (by omega : ¬ (a.ss.length : Int) = b.ss.length)
        go_wp2_with (go_at_call 30; (with_reducible refine l0.mono ?_); rintro e w1 ⟨rfl, m0, rfl⟩)
        go_ret
        exact ⟨ret_bool (by unfold sameO; simp [HX0.out, HX1.out, HZ.out]), hBB.out.trans ⟨rfl, rfl, rfl, Nat.le_refl _, fun _ _ => rfl⟩⟩
end OY
end Go.Proofs.YtelapdeejedkgaaGreatDoor
