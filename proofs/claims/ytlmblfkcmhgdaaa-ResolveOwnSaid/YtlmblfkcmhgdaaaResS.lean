/-
  The small parts of Resolve: isNone, IndexFunc, target: contracts. Condition: the objects lie in memory.
-/
import Derived.Test.YtlmblfkcmhgdaaaResD
import Derived.Test.YtlmblfkcmhgdaaaObjCi
import Derived.Test.YtlmblfkcmhgdaaaObjB
namespace Go.Proofs.Ytlmblfkcmhgdaaa
open Go.RowKit Go.Maps Go.WideMaps
set_option linter.unusedVariables false
set_option linter.unusedSimpArgs false
namespace RsS
open OO OJ RsM RsI RsP RsD OCk
theorem ret_int {k : IntKind} {a b : Int} (h : a = b) : Ending.returned (.int k a) = .returned (.int k b) := by rw [h]
theorem ret_bool {a b : Bool} (h : a = b) : Ending.returned (.bool a) = .returned (.bool b) := by rw [h]
set_option maxRecDepth 100000 in
set_option maxHeartbeats 4000000 in
theorem isNone_ {w : World} {n₀ : Nat} {v0 v1 v2 v3 : Value} {o : ObjV} (hn : n₀ ≤ w.heap.size) (ho : ObjAt n₀ w v0 v1 v2 v3 o) (hw : o.Wf) (hm : o.ws.length ≤ maxLen ∧ o.ds.length ≤ maxLen ∧ o.ss.length ≤ maxLen ∧ o.rs.length ≤ maxLen) :
    Calls Try.prog 10 #[.agg #[v0, v1, v2, v3]] w fun e w' => e = .returned (.bool (!chk o)) ∧ Below w.heap.size w w' := by
  have hB : Below w.heap.size w (w.alloc (.cells #[v0, v1, v2, v3] OCh.TO)) := (Below.refl _ _).alloc (Nat.le_refl _) _
  have c := OCh.Check_ (w := w.alloc (.cells #[v0, v1, v2, v3] OCh.TO)) (n₀ := n₀) (by simp; omega) (ho.below (hB.mono hn)) hw hm
  obtain ⟨p0, q0, rfl, -⟩ := ho.ws
  obtain ⟨p1, q1, rfl, -⟩ := ho.ds
  obtain ⟨p2, q2, rfl, -⟩ := ho.ss
  obtain ⟨p3, q3, rfl, -⟩ := ho.rs
  have HB := Lib.hid hB
  clear ho hw hm hB
  generalize chk o = b at *
  cases b
  all_goals
    simp only [OCh.ckI, if_true, Bool.false_eq_true, if_false] at c
    go_enter Try.func10, Try.ntmps10
    go_wp2_with (go_at_call 14; (with_reducible refine c.mono ?_); rintro e w1 ⟨rfl, hb⟩; have H1 := Lib.hid hb; clear hb)
    go_ret
    exact ⟨rfl, HB.out.trans (H1.out.mono (by simp))⟩
/-- the first that is no object, from k on -/
def noneFrom (objs : List ObjV) (k : Nat) : Int := match (objs.drop k).findIdx? (fun o => !chk o) with
  | none => -1
  | some i => ((k + i : Nat) : Int)
theorem noneFrom_end (objs : List ObjV) : noneFrom objs objs.length = -1 := by unfold noneFrom; simp
theorem noneFrom_yes {objs : List ObjV} {k : Nat} (h : k < objs.length) (hc : chk objs[k] = false) : noneFrom objs k = (k : Int) := by
  unfold noneFrom
  rw [List.drop_eq_getElem_cons h, List.findIdx?_cons, hc]
  simp
theorem noneFrom_no {objs : List ObjV} {k : Nat} (h : k < objs.length) (hc : chk objs[k] = true) : noneFrom objs k = noneFrom objs (k + 1) := by
  unfold noneFrom
  rw [List.drop_eq_getElem_cons h, List.findIdx?_cons, hc]
  simp only [Bool.not_true, Bool.false_eq_true, if_false]
  cases hf : (objs.drop (k + 1)).findIdx? (fun o => !chk o) with
  | none => rfl
  | some i => simp; omega
set_option maxRecDepth 100000 in
set_option maxHeartbeats 4000000 in
theorem index_ {w : World} {n₀ : Nat} {v : Value} {objs : List ObjV} (hn : n₀ ≤ w.heap.size) (ho : ObjsAt n₀ w v objs) (hw : ∀ o ∈ objs, o.Wf) (hm : objs.length ≤ maxLen) :
    Calls Try.prog 9 #[v, .func (.func 10) #[] #[]] w fun e w' => e = .returned (.int .i64 (noneFrom objs 0)) ∧ Below w.heap.size w w' := by
  obtain ⟨p, c, rfl, hsl⟩ := ho
  have HO := Lib.hid hsl
  have HW := Lib.hid hw
  unfold maxLen at hm
  clear hsl hw
  go_enter Try.func9, Try.ntmps9
  go_wp2
  go_loopw [8] (fun i wr => ∃ k : Nat, k ≤ objs.length ∧ i = .int .i64 k ∧ Hid (noneFrom objs 0 = noneFrom objs k) ∧ Below w.heap.size w wr) (fun i _ => objs.length - (intOf i).toNat)
  case atStart => exact ⟨0, Nat.zero_le _, rfl, Lib.hid rfl, Below.refl _ _⟩
  case round =>
    obtain ⟨k, hk, rfl, hq, hbl⟩ := hrel
    have HB := Lib.hid hbl
    by_cases hlt : k < objs.length
    · obtain ⟨b, o, rfl, hb, -, -, hall⟩ := HO.out (by omega)
      obtain ⟨v0, v1, v2, v3, k0, k1, k2, k3, hoa⟩ := (hall k _ (List.getElem?_eq_getElem hlt)).same (Same.of hbl hn) hb
      have cn := isNone_ (w := wr) (Nat.le_trans hn hbl.size) hoa (HW.out _ (List.getElem_mem hlt)) (OB.lens hoa)
      have hy := Lib.hid (fun h => noneFrom_yes hlt h)
      have hx := Lib.hid (fun h => noneFrom_no hlt h)
      obtain ⟨p0, q0, rfl, -⟩ := hoa.ws
      obtain ⟨p1, q1, rfl, -⟩ := hoa.ds
      obtain ⟨p2, q2, rfl, -⟩ := hoa.ss
      obtain ⟨p3, q3, rfl, -⟩ := hoa.rs
      clear hall hbl
      generalize chk objs[k] = cb at *
      clear hoa
      cases cb
      · go_wp2_with (go_at_call 10; (with_reducible refine cn.mono ?_); rintro e w1 ⟨rfl, hb1⟩; have H1 := Lib.hid hb1; clear hb1)
        go_ret
        exact ⟨ret_int (by rw [hq.out]; first | exact (hy.out rfl).symm | exact (hy.out trivial).symm), HB.out.trans (H1.out.mono HB.out.size)⟩
      · go_wp2_with (go_at_call 10; (with_reducible refine cn.mono ?_); rintro e w1 ⟨rfl, hb1⟩; have H1 := Lib.hid hb1; clear hb1)
        go_roundw
        case rel => exact ⟨k + 1, by omega, by go_num, Lib.hid (hq.out.trans (by first | exact hx.out rfl | exact hx.out trivial)), HB.out.trans (H1.out.mono HB.out.size)⟩
        case measure => simp [intOf]; omega
    · obtain rfl : k = objs.length := by omega
      go_wp2
      go_ret
      exact ⟨ret_int (by rw [hq.out, noneFrom_end]), HB.out⟩
theorem look_t {w : World} {ops : Array Oper} {rest : List Oper} {o : Oper} {a : Act} {Q : Exit → Act → World → Prop} (hg : o.guard = none) (m x : Operand) (hop : o.op = Op.lookup TM m x true) (b n : Nat) (D : DataW Unit)
    (hm : a.eval m = .map (some b)) (hown : w.ownsMap Try.prog 9 tgtR b n D) (k : ByteArray) (hk : k.size ≤ maxLen) (hx : a.eval x = .string k)
    (hK : ∀ i j : Int, D.atKey (nkey k) (tgtD 0 0) = tgtD i j → wpList Try.prog ops Q rest (a.put o.dst (.tuple #[.agg #[.int .i64 i, .int .i64 j], .bool (Maps.has D (nkey k))])) w) :
    wpList Try.prog ops Q (o :: rest) a w :=
  wpList_lookup_own_ok w hg m x TM hop 9 TT lawS Try.underlying46 tgtR (zeroT w) (tgtD 0 0) [] (tgtR_mk 0 0) b n D hm hown (.string k) (nkey k) hx (keyOf_string_mk Try.underlying9 hk) (fun v ps hv => by
    obtain ⟨i, j, rfl, e⟩ := tgtR_inv hv
    exact hK i j (congrArg Prod.fst e))
/-- what a symbol means -/
def tgI (L : List Ent) (x : Ent) : Int × Int × Bool := if x.s.sect = 0 then (match RsP.look L x.s.name with | some y => ((y.i : Int), (y.k : Int), true) | none => (0, 0, false)) else ((x.i : Int), (x.k : Int), true)
set_option maxRecDepth 100000 in
set_option maxHeartbeats 4000000 in
theorem target_ {w : World} {M n : Nat} {L : List Ent} (x : Ent) (hM : w.ownsMap Try.prog 9 tgtR M n (namesD L)) (hk : x.s.name.size ≤ maxLen) :
    Calls Try.prog 13 #[.map (some M), entA x, symA x.s] w fun e w' => e = .returned (.tuple #[.agg #[.int .i64 (tgI L x).1, .int .i64 (tgI L x).2.1], .bool (tgI L x).2.2]) ∧ Below w.heap.size w w' := by
  have HM := Lib.hid hM
  obtain ⟨r, hr0⟩ : ∃ r, r = tgI L x := ⟨_, rfl⟩
  rw [← hr0]
  unfold tgI at hr0
  have HT := Lib.hid hr0
  clear hr0
  by_cases hs : x.s.sect = 0
  · have hr := (HT.out).trans (if_pos hs)
    have hs0 : (x.s.sect != 0) = false := by simpa using hs
    have HR := Lib.hid (show ∀ ti tj : Int, (namesD L).atKey (nkey x.s.name) (tgtD 0 0) = tgtD ti tj → Ending.returned (.tuple #[.agg #[.int .i64 ti, .int .i64 tj], .bool (Maps.has (namesD L) (nkey x.s.name))]) = .returned (.tuple #[.agg #[.int .i64 r.1, .int .i64 r.2.1], .bool r.2.2]) from fun ti tj h => by
      obtain ⟨e1, e2⟩ := names_look L x.s.name
      rw [e2] at h
      rw [e1, hr]
      cases hl : RsP.look L x.s.name with
      | none =>
        rw [hl] at h
        obtain ⟨rfl, rfl⟩ := tgtD_inj h
        rfl
      | some y =>
        rw [hl] at h
        obtain ⟨rfl, rfl⟩ := tgtD_inj h
        rfl)
    clear hM HT hs hr
    go_enter Try.func13, Try.ntmps13
    go_wp2_with (at_lookup; refine look_t rfl _ _ rfl M _ _ rfl (((HM.out.alloc _).alloc _).alloc _) x.s.name hk rfl ?_; intro ti tj hti; have HTI := Lib.hid (HR.out ti tj hti); clear hti)
    refine bodyPost_ret (v := .tuple #[.agg #[.int .i64 ti, .int .i64 tj], .bool (Maps.has (namesD L) (nkey x.s.name))]) (by simp [results, Try.results13, go_sem]) rfl ⟨HTI.out, ?_⟩
    exact ((((Below.refl _ _).alloc (Nat.le_refl _) _).alloc (by simp only [World.size_alloc]; omega) _).alloc (by simp only [World.size_alloc]; omega) _).alloc (by simp only [World.size_alloc]; omega) _
  · have hr := (HT.out).trans (if_neg hs)
    have hs0 : (x.s.sect != 0) = true := by simpa using hs
    have HR := Lib.hid (show Ending.returned (.tuple #[.agg #[.int .i64 (x.i : Int), .int .i64 (x.k : Int)], .bool true]) = .returned (.tuple #[.agg #[.int .i64 r.1, .int .i64 r.2.1], .bool r.2.2]) by rw [hr])
    clear hM HT hs hr
    go_enter Try.func13, Try.ntmps13
    go_wp2
    refine bodyPost_ret (v := .tuple #[.agg #[.int .i64 (x.i : Int), .int .i64 (x.k : Int)], .bool true]) (by simp [results, Try.results13, go_sem]) rfl ⟨HR.out, ?_⟩
    exact (((Below.refl _ _).alloc (Nat.le_refl _) _).alloc (by simp only [World.size_alloc]; omega) _).alloc (by simp only [World.size_alloc]; omega) _
end RsS
end Go.Proofs.Ytlmblfkcmhgdaaa
