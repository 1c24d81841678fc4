/-
  The program's writer: a line: what it begins with, and numbers in decimal with a blank ahead of each. No condition but those that are written at each.
-/
import Derived.Test.YtieehjkmfmkfjaaGreatDoorObjW
import Derived.Lib.ItoaLen
import Derived.Lib.AppendIntMem
import Derived.Deep.RegionHeld3
namespace Go.Proofs.YtieehjkmfmkfjaaGreatDoor
open Go.RowKit
set_option linter.unusedVariables false
set_option linter.unusedSimpArgs false
namespace OL
open OW
def pow : String := "internal/strconv.uint64pow10"
abbrev Tab (B : Nat) (w : World) : Prop := Lib.TabBelow Tryz.prog B w "internal/strconv.uint64pow10" .u64 Lib.pow10Tab
/-- the writer in block b holds these bytes -/
def Txt (B b : Nat) (l : List UInt8) (w : World) : Prop := Lib.IsBuilderF TW TB B b (Lib.byteCells l) w
/-- what a call of the writer's leaves as it was -/
structure Fr (B b : Nat) (w w' : World) : Prop where
  below : Below B w w'
  others : Lib.OthersKept TB (some b) w w'
theorem Fr.refl (B b : Nat) (w : World) : Fr B b w w := ⟨Below.refl _ _, Lib.OthersKept.refl _ _ _⟩
theorem Fr.trans {B b : Nat} {u v w : World} (h : Fr B b u v) (k : Fr B b v w) : Fr B b u w := ⟨h.below.trans k.below, h.others.trans k.others⟩
theorem lt_of_get {w : World} {k : Nat} {o : Obj} (h : w.heap[k]? = some o) : k < w.heap.size := (Array.getElem?_eq_some_iff.1 h).1
theorem Fr.of {B b : Nat} {w w' : World} (h : Below w.heap.size w w') (hB : B ≤ w.heap.size) : Fr B b w w' :=
  ⟨h.mono hB, fun k o hk _ _ => (h.block k (lt_of_get hk)).trans hk⟩
theorem row_below {w w' : World} {B : Nat} {e : TypeId} {v : Value} {n : Nat} {xs : List Value} (h : w.ownsRowF B e 1 v n xs) (hb : Below w.heap.size w w') : w'.ownsRowF B e 1 v n xs := by
  obtain ⟨h1, h2 | ⟨g, cap, cur, fz, hv, hbg, hg, hr⟩⟩ := h
  · exact ⟨h1, .inl h2⟩
  · exact ⟨h1, .inr ⟨g, cap, cur, fz, hv, hbg, (hb.block g (lt_of_get hg)).trans hg, hr⟩⟩
theorem builder_below {B b : Nat} {p : Value} {bs : List Value} {w w' : World} (h : Lib.BuilderAtF TW TB B b p bs w) (hb : Below w.heap.size w w') : Lib.BuilderAtF TW TB B b p bs w' := by
  obtain ⟨h1, v, h2, h3, h4⟩ := h
  exact ⟨h1, v, (hb.block b (lt_of_get h2)).trans h2, row_below h3 hb, h4⟩
theorem Txt.below {B b : Nat} {l : List UInt8} {w w' : World} (h : Txt B b l w) (hb : Below w.heap.size w w') : Txt B b l w' := by
  rcases h with h | h
  · exact .inl (builder_below h hb)
  · exact .inr (builder_below h hb)
theorem Txt.lt {B b : Nat} {l : List UInt8} {w : World} (h : Txt B b l w) : b < w.heap.size := by
  rcases h with h | h
  · exact h.lt
  · exact h.lt
theorem wr_ {B b : Nat} {l : List UInt8} {w : World} (h : Txt B b l w) (s : ByteArray) (hlen : l.length + s.size ≤ 140737488355328) (hBw : B ≤ w.heap.size) :
    Calls Tryz.prog 63 #[.pointer (some ⟨b, 0, none⟩), .string s] w fun e w' => e = .returned (.tuple #[.int .i64 s.size, .nilIface]) ∧ Txt B b (l ++ s.data.toList) w' ∧ Fr B b w w' := by
  refine (write_ B b (Lib.byteCells l) s w h (by rw [Lib.byteCells_length]; exact hlen) hBw).mono ?_
  rintro e w' ⟨rfl, h1, h2, h3⟩
  refine ⟨rfl, ?_, h2, h3⟩
  unfold Txt
  rw [Lib.byteCells_append]
  exact h1
theorem itoa_ (n : Int) (h0 : -9223372036854775808 ≤ n) (h1 : n ≤ 9223372036854775807) {B : Nat} (w : World) (ht : Tab B w) :
    Calls Tryz.prog 50 #[.int .i64 n] w fun e w' => e = .returned (.string ⟨(Lib.itoa n).toArray⟩) ∧ Below w.heap.size w w' := by
  refine (Tryz.strconv_Itoa n h0 h1 w ht.here).mono ?_
  rintro e w' ⟨rfl, k, os, rfl⟩
  exact ⟨rfl, rfl, rfl, rfl, by simp [Go.Sort.size_grow], fun j hj => by
    show (w.heap ++ os)[j]? = w.heap[j]?
    rw [Array.getElem?_append_left hj]⟩
/-- numbers behind one another -/
def numsL (ns : List Int) : List UInt8 := ns.flatMap fun n => 32 :: Lib.itoa n
def lineL (s : List UInt8) (ns : List Int) : List UInt8 := s ++ numsL ns ++ [10]
theorem numsL_snoc (ns : List Int) (k : Nat) (h : k < ns.length) : numsL (ns.take (k + 1)) = numsL (ns.take k) ++ (32 :: Lib.itoa ns[k]) := by
  unfold numsL
  rw [List.take_succ_eq_append_getElem h, List.flatMap_append]
  simp
theorem numsL_len (ns : List Int) (hn : ∀ n ∈ ns, -9223372036854775808 ≤ n ∧ n ≤ 9223372036854775807) : (numsL ns).length ≤ 22 * ns.length := by
  induction ns with
  | nil => simp [numsL]
  | cons n ns ih =>
    have h1 := Lib.itoa_length_le n (hn n (by simp)).1 (hn n (by simp)).2
    have h2 := ih fun m hm => hn m (by simp [hm])
    have e : numsL (n :: ns) = (32 :: Lib.itoa n) ++ numsL ns := rfl
    rw [e, List.length_append, List.length_cons, List.length_cons]
    omega
/-- a row of numbers in a block of its own, or none -/
def Nums (w : World) (b : Nat) (v : Value) (ns : List Int) : Prop :=
  (ns = [] ∧ v = .slice none 0 0) ∨ ∃ k T fz c, v = .slice (some ⟨k, 0, none⟩) ns.length c ∧ k ≠ b ∧ T ≠ TB ∧ w.heap[k]? = some (.cells (ns.map fun n => Value.int .i64 n).toArray T fz)
theorem Nums.kept {w w' : World} {B b : Nat} {v : Value} {ns : List Int} (h : Nums w b v ns) (hf : Fr B b w w') : Nums w' b v ns := by
  rcases h with h | ⟨k, T, fz, c, hv, hk, hT, hc⟩
  · exact .inl h
  · exact .inr ⟨k, T, fz, c, hv, hk, hT, hf.others k _ hc (by simpa using hk) (fun c' fz' e => by cases e; exact hT rfl)⟩
theorem Nums.slice {w : World} {b : Nat} {v : Value} {ns : List Int} (h : Nums w b v ns) : ∃ p c, v = .slice p ns.length c := by
  rcases h with ⟨rfl, rfl⟩ | ⟨k, T, fz, c, rfl, -⟩
  · exact ⟨_, _, rfl⟩
  · exact ⟨_, _, rfl⟩
theorem Nums.at_ {w : World} {b : Nat} {p : Option Addr} {n c : Nat} {ns : List Int} (h : Nums w b (.slice p n c) ns) (j : Nat) (hj : j < ns.length) : ∃ k, p = some ⟨k, 0, none⟩ ∧ w.cell? ⟨k, j, none⟩ = some (.int .i64 ns[j]) := by
  rcases h with ⟨rfl, -⟩ | ⟨k, T, fz, c', hv, hk, hT, hc⟩
  · simp at hj
  · cases hv
    refine ⟨k, rfl, ?_⟩
    rw [Lib.cell_of_heap hc]
    simp [hj]
set_option maxRecDepth 100000 in
set_option maxHeartbeats 4000000 in
theorem line_ {B b : Nat} {l : List UInt8} {w : World} (h : Txt B b l w) (s : ByteArray) (ns : List Int) (hn : ∀ n ∈ ns, -9223372036854775808 ≤ n ∧ n ≤ 9223372036854775807) (v : Value) (hv : Nums w b v ns) (ht : Tab B w)
    (hlen : l.length + s.size + 22 * ns.length + 1 ≤ 140737488355328) (hBw : B ≤ w.heap.size) :
    Calls Tryz.prog 45 #[.pointer (some ⟨b, 0, none⟩), .string s, v] w fun e w' => e = .returned (.tuple #[]) ∧ Txt B b (l ++ lineL s.data.toList ns) w' ∧ Fr B b w w' := by
  obtain ⟨vp, vc, rfl⟩ := hv.slice
  have c1 := wr_ h s (by omega) hBw
  have HN := Lib.hid hn
  have HV := Lib.hid hv
  have HT := Lib.hid ht
  have HL := Lib.hid (numsL_len ns hn)
  clear hn hv ht h
  go_enter Tryz.func45, Tryz.ntmps45
  go_wp2_with (go_at_call 63; (with_reducible refine c1.mono ?_); rintro e w1 ⟨rfl, h1, f1⟩; have H1 := Lib.hid h1; have F1 := Lib.hid f1; clear h1 f1 c1)
  go_loopw [15] (fun i wr => ∃ k : Nat, k ≤ ns.length ∧ i = .int .i64 k ∧ Txt B b (l ++ s.data.toList ++ numsL (ns.take k)) wr ∧ Fr B b w wr) (fun i _ => ns.length - (intOf i).toNat)
  case atStart => exact ⟨0, Nat.zero_le _, rfl, by simpa [numsL] using H1.out, F1.out⟩
  case round =>
    obtain ⟨k, hk, rfl, ht, hf⟩ := hrel
    have HX := Lib.hid ht
    have HF := Lib.hid hf
    clear ht hf
    have hBr : B ≤ wr.heap.size := Nat.le_trans hBw HF.out.below.size
    by_cases hlt : k < ns.length
    · obtain ⟨kb, rfl, hc⟩ := (HV.out.kept HF.out).at_ k hlt
      obtain ⟨hb1, hb2⟩ := HN.out ns[k] (List.getElem_mem hlt)
      have hln : (l ++ s.data.toList ++ numsL (ns.take k)).length + 22 ≤ 140737488355328 := by
        have := numsL_len (ns.take k) (fun n hn => HN.out n (List.mem_of_mem_take hn))
        simp only [List.length_append, List.length_take, Array.length_toList] at this ⊢
        have hz : s.data.size = s.size := rfl
        omega
      have c2 := wr_ HX.out ⟨#[32]⟩ (by show _ + 1 ≤ _; omega) hBr
      go_upto_region 5 with (go_at_call 63; (with_reducible refine c2.mono ?_); rintro e w2 ⟨rfl, h2, f2⟩; have H2 := Lib.hid h2; have F2 := Lib.hid f2; clear h2 f2 c2)
      have c3 := fun w ht => itoa_ (B := B) ns[k] hb1 hb2 w ht
      have c4 := fun (w4 : World) (hb : Below w2.drew.heap.size w2.drew w4) => wr_ ((show Txt B b _ w2.drew from H2.out).below hb) ⟨(Lib.itoa ns[k]).toArray⟩ (by
        have := Lib.itoa_length_le ns[k] hb1 hb2
        simp only [List.length_append] at hln ⊢
        show _ + (Lib.itoa ns[k]).toArray.size ≤ _
        rw [List.size_toArray]
        show _ + [32].length + _ ≤ _
        simp only [List.length_cons, List.length_nil]
        omega) (Nat.le_trans (Nat.le_trans hBr F2.out.below.size) hb.size)
      have C3 := Lib.hid c3
      have C4 := Lib.hid c4
      have T2 := Lib.hid (HT.out.on (Below.drew (HF.out.trans F2.out).below))
      clear c3 c4 hln hb1 hb2
      go_region_held3 (fun _ => True) (exact trivial)
        ((first
          | (go_at_call 50; (with_reducible refine (C3.out w2.drew T2.out).mono ?_); rintro e w3 ⟨rfl, hb3⟩; have HB3 := Lib.hid hb3; clear hb3)
          | (go_at_call 63; (with_reducible refine (C4.out _ HB3.out).mono ?_); rintro e w4 ⟨rfl, h4, f4⟩; have H4 := Lib.hid h4; have F4 := Lib.hid f4; clear h4 f4)))
      go_wp2
      refine ⟨⟨k + 1, by omega, by go_num, ?_, ?_⟩, by simp [intOf]; omega⟩
      · have := H4.out
        rw [numsL_snoc ns k hlt]
        simpa using this
      · exact (HF.out.trans (F2.out.trans ⟨Below.drew (Below.refl _ _), Lib.OthersKept.drew (Lib.OthersKept.refl _ _ _)⟩)).trans ((Fr.of HB3.out (Nat.le_trans hBr F2.out.below.size)).trans F4.out)
    · obtain rfl : k = ns.length := by omega
      have hln : (l ++ s.data.toList ++ numsL (ns.take ns.length)).length + 1 ≤ 140737488355328 := by
        have := HL.out
        simp only [List.length_append, List.take_length, Array.length_toList] at this ⊢
        have hz : s.data.size = s.size := rfl
        omega
      have c5 := wr_ HX.out ⟨#[10]⟩ hln hBr
      go_wp2_with (go_at_call 63; (with_reducible refine c5.mono ?_); rintro e w2 ⟨rfl, h2, f2⟩; have H2 := Lib.hid h2; have F2 := Lib.hid f2; clear h2 f2 c5)
      go_end0
      refine ⟨rfl, ?_, HF.out.trans F2.out⟩
      have := H2.out
      unfold lineL
      simpa using this
end OL
end Go.Proofs.YtieehjkmfmkfjaaGreatDoor
