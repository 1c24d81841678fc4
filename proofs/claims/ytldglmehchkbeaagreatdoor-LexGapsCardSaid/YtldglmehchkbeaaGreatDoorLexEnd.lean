/-
  LexBq LexSt LexJo LexAw LexG LexGa, joined.
  Conditions: those that are written at each.
-/
import Derived.Test.YtldglmehchkbeaaGreatDoorLexBp
import Derived.Test.YtldglmehchkbeaaGreatDoorLexAv
import Derived.Test.YtldglmehchkbeaaGreatDoorLexS
import Derived.Deep.QuietTactic
import Derived.BigQuiet
import Derived.Test.YtldglmehchkbeaaGreatDoorLexL
import Derived.Laws.OwnMore
import Derived.Deep.OwnRows
import Derived.ChangeSlices
import Derived.WideShapes
import Derived.Deep.Slices
import Derived.Deep.Fields
import Derived.Lib.SmallJoins
import Derived.ChangeSame
import Derived.OpenShut
import Derived.WideKeyArgs
import Derived.ChangeOld
/-
  All that the laws of lex ask of the world, out of the row's list; what an error of Lex's is not. Condition: the row's list of variables.
-/
namespace Go.Proofs.YtldglmehchkbeaaGreatDoor
open Go.RowKit
set_option linter.unusedVariables false
namespace LxC
open Lx
theorem parses_ {w : World} (hT : Tbls w) (s : ByteArray) : Parses w.heap.size w s := fun a ha => parseAt_ hT _ ha
theorem toks_err : ∀ (f : Nat) (l : List UInt8) (p c : Nat) (x : Nat × Int), toks f l p c = .error x → x.2 ≠ 0
  | 0, _, _, _, _, h => by cases h
  | f + 1, l, p, c, x, h => by
    unfold toks at h
    simp only at h
    split at h
    · split at h
      · injection h with h; subst h; intro hc; cases hc
      · split at h
        · cases h
        · split at h
          · injection h with h; subst h; intro hc; cases hc
          · split at h
            · cases h
            · rename_i e he
              injection h with h
              subst h
              exact toks_err f _ _ _ _ he
    · injection h with h; subst h; intro hc; cases hc
theorem lex_err {l : List UInt8} {x : Nat × Int} (h : lex l = .error x) : x.2 ≠ 0 := by
  unfold lex at h
  split at h
  · injection h with h; subst h; intro hc; cases hc
  · exact toks_err _ _ _ _ _ h
/-- what Lex answers, of any text -/
theorem lexAny_ (s : ByteArray) (w : World) (hs : s.size ≤ maxLen) (hB : Base w.heap.size w) (hT : Tbls w) : Calls Tryz.prog 13 #[.string s] w (LexPost w (lex s.data.toList)) :=
  lex_ s w hs hB fun _ => parses_ hT s
end LxC
namespace LxV
open LxC
structure Whole (w : World) : Prop where
  base : Base w.heap.size w
  laid : LxC.Laid w
  tbls : LxC.Tbls w
theorem whole {w : World} (hs : w.ShapedOpen Tryz.prog) (h3 : Lib.VarReads Tryz.prog w "internal/strconv.float64info" Rows.laid_internal_strconv_float64info) (h4 : Lib.VarReads Tryz.prog w "internal/strconv.optimize" Rows.laid_internal_strconv_optimize)
    (h6 : Lib.VarReads Tryz.prog w "internal/strconv.float64pow10" Rows.laid_internal_strconv_float64pow10) (h9 : Lib.VarReads Tryz.prog w "strconv.ErrRange" Rows.laid_strconv_ErrRange)
    (h5 : Lib.VarReads Tryz.prog w "internal/strconv.powtab" Rows.laid_internal_strconv_powtab) (h11 : Lib.VarReads Tryz.prog w "internal/strconv.leftcheats" Rows.laid_internal_strconv_leftcheats) (h12 : Lib.VarReads Tryz.prog w "internal/strconv.pow10Tab" Rows.laid_internal_strconv_pow10Tab) : Whole w := by
  have h := laid hs h3 h4 h6 h9
  have ht := tab_of h12
  obtain ⟨x, y, -, -, hc, -⟩ := ht 0 (by omega)
  exact ⟨h.base, h.laid, ⟨h.laid, ht, cell_in hc, infos_of h3, pows_of h5, cheats_of h11, h.base.rng⟩⟩
end LxV
end Go.Proofs.YtldglmehchkbeaaGreatDoor
/-
  The law LexStands, walked. Condition: Go's own variables lie.
-/
namespace Go.Proofs.YtldglmehchkbeaaGreatDoor
open Go.RowKit
set_option linter.unusedVariables false
set_option linter.unusedSimpArgs false
namespace LxC
open Lx
theorem Base.after {w w' : World} (h : Base w.heap.size w) (hb : Below w.heap.size w w') : Base w'.heap.size w' := h.later hb hb.size (Nat.le_refl _)
/-- a token's text stands in the text at its place -/
structure TokOk (s : ByteArray) (last : Nat) (t : Tok) : Prop where
  k1 : 1 ≤ t.kind
  k5 : t.kind ≤ 5
  from_ : last ≤ t.place
  one : 1 ≤ t.text.length
  to_ : t.place + t.text.length ≤ s.size
  eq : s.extract t.place (t.place + t.text.length) = ⟨t.text.toArray⟩
theorem stands_get {s : ByteArray} : ∀ {us : List Tok} {last : Nat}, Stands s.data.toList last us → ∀ i t, us[i]? = some t → ∃ l, (i = 0 → l = last) ∧ (∀ j u, us[j]? = some u → j + 1 = i → l = u.place + u.text.length) ∧ TokOk s l t
  | [], _, _, i, t, h => by simp at h
  | x :: us, last, hs, 0, t, h => by
    simp only [List.getElem?_cons_zero, Option.some.injEq] at h
    subst h
    obtain ⟨⟨a1, a2⟩, a3, a4, a5, a6, a7⟩ := hs
    have hz : s.data.toList.length = s.size := by simp
    refine ⟨last, fun _ => rfl, fun j u _ h => by omega, a1, a2, a3, a4, by omega, ?_⟩
    apply ByteArray.ext
    rw [ByteArray.data_extract]
    apply Array.toList_inj.1
    rw [Array.toList_extract, List.extract_eq_take_drop, Nat.add_sub_cancel_left]
    exact a6
  | x :: us, last, hs, i + 1, t, h => by
    rw [List.getElem?_cons_succ] at h
    obtain ⟨-, -, -, -, -, a7⟩ := hs
    obtain ⟨l, h1, h2, h3⟩ := stands_get a7 i t h
    refine ⟨l, fun h => by omega, fun j u hj hji => ?_, h3⟩
    cases j with
    | zero =>
      simp only [List.getElem?_cons_zero, Option.some.injEq] at hj
      subst hj
      exact h1 (by omega)
    | succ j =>
      rw [List.getElem?_cons_succ] at hj
      exact h2 j u hj (by omega)
theorem stands_len {l : List UInt8} : ∀ {us : List Tok} {last : Nat}, last ≤ l.length → Stands l last us → last + us.length ≤ l.length
  | [], _, h, _ => h
  | t :: us, last, h, ⟨_, a3, a4, a5, _, a7⟩ => by
    have := stands_len a5 a7
    rw [List.length_cons]; omega
set_option maxRecDepth 100000 in
set_option maxHeartbeats 4000000 in
theorem stands_ (s : ByteArray) (w : World) (hs : s.size ≤ maxLen) (hB : Base w.heap.size w) (hT : Tbls w) :
    Calls Tryz.prog 4 #[.string s] w fun e w' => e = .returned (.bool true) ∧ Below w.heap.size w w' := by
  have c1 := awake_ w hB hT.laid
  have c1' : ∀ W : World, Below w.heap.size w W → Calls Tryz.prog 12 #[] W fun e w' => e = .returned (.bool true) ∧ Below W.heap.size W w' := fun W hW => awake_ W (hB.after hW) (hT.below hW).laid
  by_cases hbig : 8192 < s.size
  · have hd : ((s.size : Int) > 8192) := by omega
    clear hB hT
    unfold maxLen at hs
    go_enter Tryz.func4, Tryz.ntmps4
    go_wp2_with (first
      | ((with_reducible refine c1.mono ?_); rintro e w1 ⟨rfl, hb1⟩; have c2 := c1' w1 hb1; have HB1 := Lib.hid hb1; clear hb1 c1 c1')
      | ((with_reducible refine c2.mono ?_); rintro e w2 ⟨rfl, hb2⟩; have HB2 := Lib.hid hb2; clear hb2 c2))
    go_ret
    exact ⟨rfl, HB1.out.trans (HB2.out.mono HB1.out.size)⟩
  · have hd : ¬ ((s.size : Int) > 8192) := by omega
    have cl : ∀ W : World, Below w.heap.size w W → Calls Tryz.prog 13 #[.string s] W (LexPost W (lex s.data.toList)) := fun W hW => lexAny_ s W hs (hB.after hW) (hT.below hW)
    have hst := fun ts (h : lex s.data.toList = .ok ts) => stands_lex (l := s.data.toList) (by simpa using Nat.le_of_not_lt hbig) h
    have her := fun x (h : lex s.data.toList = .error x) => lex_err h
    obtain ⟨r, hr⟩ : ∃ r, r = lex s.data.toList := ⟨_, rfl⟩
    rw [← hr] at cl hst her
    clear hr hB hT c1'
    unfold maxLen at hs
    cases r with
    | error x =>
      have hx := her x rfl
      have cl' : ∀ W : World, Below w.heap.size w W → Calls Tryz.prog 13 #[.string s] W fun e w' => e = .returned (.tuple #[.slice none 0 0, .int .i64 (x.1 : Int), .int .i64 x.2]) ∧ Below W.heap.size W w' := cl
      have B0 : (x.2 != 0) = true := by rw [bne_iff_ne]; exact hx
      clear cl hst her hx
      go_enter Tryz.func4, Tryz.ntmps4
      go_wp2_with (first
        | ((with_reducible refine c1.mono ?_); rintro e w1 ⟨rfl, hb1⟩; have c2 := cl' w1 hb1; have HB1 := Lib.hid hb1; clear hb1 c1 cl')
        | ((with_reducible refine c2.mono ?_); rintro e w2 ⟨rfl, hb2⟩; have HB2 := Lib.hid hb2; clear hb2 c2))
      go_ret
      exact ⟨rfl, HB1.out.trans (HB2.out.mono HB1.out.size)⟩
    | ok ts =>
      obtain ⟨us, rfl, hS⟩ := hst ts rfl
      have cl' : ∀ W : World, Below w.heap.size w W → Calls Tryz.prog 13 #[.string s] W fun e w' => (∃ g cap : Nat, e = .returned (.tuple #[.slice (some ⟨g, 0, none⟩) (us.length + 1) cap, .int .i64 0, .int .i64 0]) ∧ us.length + 1 ≤ cap ∧ cap ≤ maxLen ∧ g < w'.heap.size ∧ ListAt w' g cap (us ++ [⟨0, [], s.data.toList.length⟩])) ∧ Below W.heap.size W w' := by
        intro W hW
        refine (cl W hW).mono ?_
        rintro e w2 ⟨v, rfl, ht, hb2⟩
        obtain ⟨g, cap, hv, hg1, hg2, hL⟩ := ht.row (by simp)
        rw [List.length_append] at hv
        subst hv
        exact ⟨⟨g, cap, rfl, by have := hL.le; simpa using this, hL.cm, hg2, hL⟩, hb2⟩
      have HS := Lib.hid (stands_get hS)
      obtain ⟨n, hn⟩ : ∃ n, n = us.length := ⟨_, rfl⟩
      rw [← hn] at cl'
      have HN := Lib.hid hn
      have hn8 : n ≤ 8192 := by have := stands_len (Nat.zero_le _) hS; rw [← hn] at this; have : s.data.toList.length = s.size := by simp
                                omega
      clear cl hst her hS hn
      go_enter Tryz.func4, Tryz.ntmps4
      go_upto_region 6 with (first
        | ((with_reducible refine c1.mono ?_); rintro e w1 ⟨rfl, hb1⟩; have c2 := cl' w1 hb1; have HB1 := Lib.hid hb1; clear hb1 c1 cl')
        | ((with_reducible refine c2.mono ?_); rintro e w2 ⟨⟨g, cap, rfl, hle, hcm, hg, hL⟩, hb2⟩; have HB2 := Lib.hid hb2; have HL := Lib.hid hL; clear hb2 c2 hL))
      have hsz : s.data.toList.length = s.size := by simp
      have hrow := HL.out.row n ⟨0, [], s.data.toList.length⟩ (by rw [HN.out, List.getElem?_append_right (Nat.le_refl _)]; simp)
      rw [hsz] at hrow
      have k0 : w2.cell? ⟨g, n * 3, none⟩ = some (.int .i64 0) := hrow 0 _ rfl
      have k1 : w2.cell? ⟨g, n * 3 + 1, none⟩ = some (.string ⟨#[]⟩) := hrow 1 _ rfl
      have k2 : w2.cell? ⟨g, n * 3 + 2, none⟩ = some (.int .i64 (s.size : Int)) := hrow 2 _ rfl
      have hld : (Instr.loadAt 31 (.pointer (some ⟨g, n * 3, none⟩))).run Tryz.prog w2 = .ok (.agg #[.int .i64 0, .string ⟨#[]⟩, .int .i64 (s.size : Int)]) w2 := load3 w2 g (n * 3) ⟨0, [], s.size⟩ hrow
      have hbd : ∀ w, (Instr.build 31 #[(2, .int .i64 (s.size : Int))]).run Tryz.prog w = .ok (.agg #[.int .i64 0, .string ⟨#[]⟩, .int .i64 (s.size : Int)]) w := fun _ => by kernel_rfl
      clear hrow hsz
      have hn9 : (n : Int) ≤ 8192 := by omega
      go_wp2
      clear k0 k1 k2 hld hbd
      go_loopg [6, 49] n (fun gg v6 v49 wz => ∃ k last : Nat, n - k ≤ gg ∧ k ≤ n ∧ v6 = .int .i64 (last : Int) ∧ v49 = .int .i64 (k : Int) ∧ Aside ((k = 0 → last = 0) ∧ ∀ j u, us[j]? = some u → j + 1 = k → last = u.place + u.text.length) ∧ Aside (Below w2.heap.size w2 wz))
      case atStart => exact ⟨0, 0, by omega, by omega, rfl, rfl, ⟨fun _ => rfl, fun j u _ h => by omega⟩, Below.refl _ _⟩
      case round =>
        obtain ⟨k, last, hgg, hk, rfl, rfl, A1, A2⟩ := hrel
        by_cases hkn : k < n
        · have hkn2 : (k : Int) < (n : Int) := by omega
          obtain ⟨t, ht⟩ : ∃ t, us[k]? = some t := ⟨us[k]'(by rw [← HN.out]; exact hkn), List.getElem?_eq_getElem _⟩
          obtain ⟨l, hl1, hl2, hok⟩ := HS.out k t ht
          have hrow := (HL.out.mono A2.out hg).row k t (by rw [List.getElem?_append_left (by rw [← HN.out]; exact hkn)]; exact ht)
          have hld : (Instr.loadAt 31 (.pointer (some ⟨g, k * 3, none⟩))).run Tryz.prog wr = .ok (.agg (cells3 t).toArray) wr := load3 wr g (k * 3) t hrow
          obtain ⟨T, hT⟩ : ∃ T : ByteArray, T = ⟨t.text.toArray⟩ := ⟨_, rfl⟩
          have hcells : (cells3 t).toArray = #[.int .i64 (t.kind : Int), .string T, .int .i64 (t.place : Int)] := by rw [hT]; rfl
          rw [hcells] at hld
          have e0 : wr.cell? ⟨g, k * 3, none⟩ = some (.int .i64 (t.kind : Int)) := hrow 0 _ rfl
          have e1 : wr.cell? ⟨g, k * 3 + 1, none⟩ = some (.string T) := by rw [hT]; exact hrow 1 _ rfl
          have e2 : wr.cell? ⟨g, k * 3 + 2, none⟩ = some (.int .i64 (t.place : Int)) := hrow 2 _ rfl
          have hTs : T.size = t.text.length := by rw [hT]; rfl
          have hlast : l = last := by
            by_cases h0 : k = 0
            · rw [hl1 h0, A1.out.1 h0]
            · obtain ⟨u, hu⟩ : ∃ u, us[k - 1]? = some u := ⟨us[k - 1]'(by rw [← HN.out]; omega), List.getElem?_eq_getElem _⟩
              rw [hl2 (k - 1) u hu (by omega), A1.out.2 (k - 1) u hu (by omega)]
          subst hlast
          have q1 : ¬ ((t.kind : Int) < 1) := by have := hok.k1; omega
          have q2 : ¬ ((t.kind : Int) > 5) := by have := hok.k5; omega
          have q3 : ¬ ((t.place : Int) < (l : Int)) := by have := hok.from_; omega
          have q3n : ¬ (t.place < l) := by have := hok.from_; omega
          have q3m : l ≤ t.place := by have := hok.from_; omega
          have q4 : ¬ (T.toList = []) := by
            rw [ByteArray.toList_eq, hT]
            intro h
            have h1 := hok.one
            have h2 : t.text = [] := h
            rw [h2] at h1; simp at h1
          have q5 : T.toList.isEmpty = false := by cases hh : T.toList with | nil => exact absurd hh q4 | cons a b => rfl
          have hto : t.place + T.size ≤ s.size := by rw [hTs]; exact hok.to_
          have q6 : ¬ ((T.size : Int) > (s.size : Int) - (t.place : Int)) := by omega
          have heq : s.extract t.place (t.place + T.size) = T := by rw [hTs, hT]; exact hok.eq
          have hsl : ∀ w, (Instr.slice 9 (.string s) (some (.int .i64 (t.place : Int))) (some (.int .i64 ((t.place : Int) + (T.size : Int)))) none).run Tryz.prog w = .ok (.string T) w := fun w => by
            have := run_slice_string (P := Tryz.prog) w 9 s .i64 .i64 (t.place : Int) ((t.place + T.size : Nat) : Int) Tryz.underlying9 (by omega) (by omega) (by omega)
            rw [show ((t.place : Int) + (T.size : Int)) = ((t.place + T.size : Nat) : Int) by push_cast; rfl, this]
            congr 2
          have A3 : Aside ((k + 1 = 0 → t.place + T.size = 0) ∧ ∀ j u, us[j]? = some u → j + 1 = k + 1 → t.place + T.size = u.place + u.text.length) := ⟨fun h => by omega, fun j u hu hj => by
            obtain rfl : j = k := by omega
            rw [ht] at hu
            cases hu
            rw [hTs]⟩
          obtain ⟨p, hp⟩ : ∃ p, p = t.place := ⟨_, rfl⟩
          obtain ⟨kd, hkd⟩ : ∃ kd, kd = t.kind := ⟨_, rfl⟩
          rw [← hp] at hld hsl A3 q3 q3n q3m q6 hto e2
          rw [← hkd] at hld q1 q2 e0
          have hps : (p : Int) ≤ 8192 := by omega
          have hTs2 : (T.size : Int) ≤ 8192 := by omega
          clear hT hcells hTs hok hl1 hl2 ht heq hp hkd hrow
          have hx := heap_alloc_new wr (.cells #[.int .i64 (kd : Int), .string T, .int .i64 (p : Int)] 31)
          have x0 : (wr.alloc (.cells #[.int .i64 (kd : Int), .string T, .int .i64 (p : Int)] 31)).cell? ⟨wr.heap.size, 0, none⟩ = some (.int .i64 (kd : Int)) := Lib.cell_of_heap hx 0
          have x1 : (wr.alloc (.cells #[.int .i64 (kd : Int), .string T, .int .i64 (p : Int)] 31)).cell? ⟨wr.heap.size, 1, none⟩ = some (.string T) := Lib.cell_of_heap hx 1
          have x2 : (wr.alloc (.cells #[.int .i64 (kd : Int), .string T, .int .i64 (p : Int)] 31)).cell? ⟨wr.heap.size, 2, none⟩ = some (.int .i64 (p : Int)) := Lib.cell_of_heap hx 2
          have A4 : Aside (∀ m, Below w2.heap.size w2 ((wr.alloc (.cells #[.int .i64 (kd : Int), .string T, .int .i64 (p : Int)] 31)).drewN m)) := fun m => below_draws (A2.out.alloc A2.out.size _) m
          clear hx
          go_wp2
          have w1' : IntKind.i64.wrap ((s.size : Int) - (p : Int)) = (s.size : Int) - (p : Int) := by rw [IntKind.wrap_i64]; omega
          have w2' : IntKind.i64.wrap ((p : Int) + (T.size : Int)) = (p : Int) + (T.size : Int) := by rw [IntKind.wrap_i64]; omega
          have q6d : decide ((s.size : Int) - (p : Int) < (T.size : Int)) = false := decide_eq_false (by omega)
          have q6e : ¬ ((s.size : Int) - (p : Int) < (T.size : Int)) := by omega
          have q6f : (T.size : Int) ≤ (s.size : Int) - (p : Int) := by omega
          go_quiet (fail)
          clear w1' w2' q6d q6e q6f
          go_wp2
          go_roundg (n - (k + 1))
          case measure => omega
          case rel => exact ⟨k + 1, p + T.size, by omega, by omega, by go_num, by go_num, A3.out, A4.out _⟩
        · have hkn2 : ¬ (k : Int) < (n : Int) := by omega
          go_wp2
          go_ret
          exact ⟨rfl, HB1.out.trans ((HB2.out.trans (A2.out.mono HB2.out.size)).mono HB1.out.size)⟩
end LxC
end Go.Proofs.YtldglmehchkbeaaGreatDoor
/-
  The law LexJoins, walked. Condition: Go's own variables lie.
-/
namespace Go.Proofs.YtldglmehchkbeaaGreatDoor
open Go.RowKit
set_option linter.unusedVariables false
set_option linter.unusedSimpArgs false
namespace LxC
open Lx
/-- a row of n tokens and the end -/
def RowAt (w' : World) (v : Value) (n : Nat) (ts : List Tok) : Prop := ∃ g cap : Nat, v = .slice (some ⟨g, 0, none⟩) (n + 1) cap ∧ n + 1 ≤ cap ∧ cap ≤ maxLen ∧ g < w'.heap.size ∧ ListAt w' g cap ts
theorem lexRow_ {s : ByteArray} {us : List Tok} {z : Tok} (n : Nat) (hn : n = us.length) (h : lex s.data.toList = .ok (us ++ [z])) (W : World) (hs : s.size ≤ maxLen) (hB : Base W.heap.size W) (hT : Tbls W) :
    Calls Tryz.prog 13 #[.string s] W fun e w' => (∃ g cap : Nat, e = .returned (.tuple #[.slice (some ⟨g, 0, none⟩) (n + 1) cap, .int .i64 0, .int .i64 0]) ∧ n + 1 ≤ cap ∧ cap ≤ maxLen ∧ g < w'.heap.size ∧ ListAt w' g cap (us ++ [z])) ∧ Below W.heap.size W w' := by
  have c := lexAny_ s W hs hB hT
  rw [h] at c
  refine c.mono ?_
  rintro e w2 ⟨v, rfl, ht, hb2⟩
  obtain ⟨g, cap, hv, hg1, hg2, hL⟩ := ht.row (by simp)
  rw [List.length_append] at hv
  subst hv
  subst hn
  exact ⟨⟨g, cap, rfl, by have := hL.le; simpa using this, hL.cm, hg2, hL⟩, hb2⟩
theorem lexBad_ {s : ByteArray} {x : Nat × Int} (h : lex s.data.toList = .error x) (W : World) (hs : s.size ≤ maxLen) (hB : Base W.heap.size W) (hT : Tbls W) :
    Calls Tryz.prog 13 #[.string s] W fun e w' => e = .returned (.tuple #[.slice none 0 0, .int .i64 (x.1 : Int), .int .i64 x.2]) ∧ Below W.heap.size W w' := by
  have c := lexAny_ s W hs hB hT
  rw [h] at c
  exact c
theorem lexSome_ (s : ByteArray) (W : World) (hs : s.size ≤ maxLen) (hB : Base W.heap.size W) (hT : Tbls W) :
    Calls Tryz.prog 13 #[.string s] W fun e w' => (∃ (v : Value) (p q : Int), e = .returned (.tuple #[v, .int .i64 p, .int .i64 q])) ∧ Below W.heap.size W w' := by
  have c := lexAny_ s W hs hB hT
  refine c.mono ?_
  intro e w2 h
  cases hr : lex s.data.toList with
  | ok ts =>
    rw [hr] at h
    obtain ⟨v, rfl, -, hb⟩ := h
    exact ⟨⟨v, 0, 0, rfl⟩, hb⟩
  | error x =>
    rw [hr] at h
    obtain ⟨rfl, hb⟩ := h
    exact ⟨⟨_, _, _, rfl⟩, hb⟩
def joined (s t : ByteArray) : ByteArray := ⟨(s.data.toList ++ 10 :: t.data.toList).toArray⟩
theorem ba_eta (s : ByteArray) : (⟨s.data.toList.toArray⟩ : ByteArray) = s := by cases s; simp
theorem addJ (s t : ByteArray) (hs : s.size ≤ 2000) (ht : t.size ≤ 2000) : (∀ w : World, (Op.stringOp .add s ⟨#[10]⟩).run Tryz.prog w = .ok (.string ⟨(s.data.toList ++ [10]).toArray⟩) w) ∧ (∀ w : World, (Op.stringOp .add ⟨(s.data.toList ++ [10]).toArray⟩ t).run Tryz.prog w = .ok (.string (joined s t)) w) := by
  have h1 : s.data.toList.length = s.size := by simp
  have h2 : t.data.toList.length = t.size := by simp
  refine ⟨fun w => ?_, fun w => ?_⟩
  · have := run_string_add_lists (P := Tryz.prog) w s.data.toList [10] (by omega) (by simp)
    rw [ba_eta] at this
    exact this
  · have := run_string_add_lists (P := Tryz.prog) w (s.data.toList ++ [10]) t.data.toList (by simp; omega) (by omega)
    rw [ba_eta] at this
    rw [this]
    unfold joined
    simp
/-- what the two texts' tokens make, plainly -/
theorem join_plain {s t : ByteArray} {us vs : List Tok} {y z : Tok} (hs : s.size ≤ 2000) (ht : t.size ≤ 2000) (h1 : lex s.data.toList = .ok (us ++ [y])) (h2 : lex t.data.toList = .ok (vs ++ [z])) :
    us.length ≤ 2500 ∧ vs.length ≤ 2500 ∧ (2500 < us.length + vs.length → ∃ a, lex (joined s t).data.toList = .error (a, 5)) ∧ (us.length + vs.length ≤ 2500 → ∃ xs e, lex (joined s t).data.toList = .ok (xs ++ [e]) ∧ xs.length = us.length + vs.length ∧ bare xs = bare us ++ bare vs) := by
  have q1 : s.data.toList.length = s.size := by simp
  have q2 : t.data.toList.length = t.size := by simp
  have hj : (joined s t).data.toList = s.data.toList ++ 10 :: t.data.toList := rfl
  rw [lex_eq _ (by omega)] at h1 h2
  obtain ⟨us', e1, T1, l1⟩ := toks_of _ _ 0 0 _ (Nat.le_refl _) (by omega) h1
  obtain ⟨vs', e2, T2, l2⟩ := toks_of _ _ 0 0 _ (Nat.le_refl _) (by omega) h2
  have e1' := List.append_inj_left' e1 rfl
  have e2' := List.append_inj_left' e2 rfl
  subst e1'
  subst e2'
  have TJ := toks_app T1 T2
  have bl : ∀ us : List Tok, (bare us).length = us.length := fun us => by unfold bare; rw [List.length_map]
  refine ⟨by omega, by omega, fun h => ?_, fun h => ?_⟩
  · rw [hj, lex_eq _ (by simp; omega)]
    exact tk_many TJ 0 0 (by omega) (by rw [List.length_append, bl, bl]; omega)
  · obtain ⟨xs, e, hx, hb, -⟩ := tk_toks TJ 0 0 (by rw [List.length_append, bl, bl]; omega)
    refine ⟨xs, ⟨0, [], e⟩, ?_, ?_, hb⟩
    · rw [hj, lex_eq _ (by simp; omega)]
      exact hx
    · rw [← bl xs, hb, List.length_append, bl, bl]
theorem bare_get {xs us : List Tok} {ys : List (Nat × List UInt8)} (h : bare xs = bare us ++ ys) {i : Nat} {t u : Tok} (hi : xs[i]? = some t) (hu : us[i]? = some u) : t.kind = u.kind ∧ t.text = u.text := by
  have h1 : (bare xs)[i]? = some (t.kind, t.text) := by unfold bare; rw [List.getElem?_map, hi]; rfl
  have hl := (List.getElem?_eq_some_iff.1 hu).1
  have h2 : (bare us)[i]? = some (u.kind, u.text) := by unfold bare; rw [List.getElem?_map, hu]; rfl
  rw [h, List.getElem?_append_left (by unfold bare; rw [List.length_map]; exact hl), h2] at h1
  injection h1 with h1
  injection h1 with ha hb
  exact ⟨ha.symm, hb.symm⟩
theorem bare_get2 {xs us vs : List Tok} (h : bare xs = bare us ++ bare vs) {i : Nat} {t u : Tok} (hle : us.length ≤ i) (hi : xs[i]? = some t) (hu : vs[i - us.length]? = some u) : t.kind = u.kind ∧ t.text = u.text := by
  have h1 : (bare xs)[i]? = some (t.kind, t.text) := by unfold bare; rw [List.getElem?_map, hi]; rfl
  have h2 : (bare vs)[i - us.length]? = some (u.kind, u.text) := by unfold bare; rw [List.getElem?_map, hu]; rfl
  have hb : (bare us).length = us.length := by unfold bare; rw [List.length_map]
  rw [h, List.getElem?_append_right (by omega), hb, h2] at h1
  injection h1 with h1
  injection h1 with ha hc
  exact ⟨ha.symm, hc.symm⟩
set_option maxRecDepth 100000 in
set_option maxHeartbeats 8000000 in
theorem joins_ (s t : ByteArray) (w : World) (hs : s.size ≤ maxLen) (ht : t.size ≤ maxLen) (hB : Base w.heap.size w) (hT : Tbls w) :
    Calls Tryz.prog 6 #[.string s, .string t] w fun e w' => e = .returned (.bool true) ∧ Below w.heap.size w w' := by
  have c1 := awake_ w hB hT.laid
  have c1' : ∀ W : World, Below w.heap.size w W → Calls Tryz.prog 12 #[] W fun e w' => e = .returned (.bool true) ∧ Below W.heap.size W w' := fun W hW => awake_ W (hB.after hW) (hT.below hW).laid
  by_cases hbig : 2000 < s.size ∨ 2000 < t.size
  · clear hB hT
    unfold maxLen at hs ht
    rcases (show 2000 < s.size ∨ (¬ 2000 < s.size ∧ 2000 < t.size) by omega) with h | ⟨h, h'⟩
    · have hd : ((s.size : Int) > 2000) := by omega
      go_enter Tryz.func6, Tryz.ntmps6
      go_wp2_with (first
        | ((with_reducible refine c1.mono ?_); rintro e w1 ⟨rfl, hb1⟩; have c2 := c1' w1 hb1; have HB1 := Lib.hid hb1; clear hb1 c1 c1')
        | ((with_reducible refine c2.mono ?_); rintro e w2 ⟨rfl, hb2⟩; have HB2 := Lib.hid hb2; clear hb2 c2))
      go_ret
      exact ⟨rfl, HB1.out.trans (HB2.out.mono HB1.out.size)⟩
    · have hd : ¬ ((s.size : Int) > 2000) := by omega
      have hd2 : ((t.size : Int) > 2000) := by omega
      go_enter Tryz.func6, Tryz.ntmps6
      go_wp2_with (first
        | ((with_reducible refine c1.mono ?_); rintro e w1 ⟨rfl, hb1⟩; have c2 := c1' w1 hb1; have HB1 := Lib.hid hb1; clear hb1 c1 c1')
        | ((with_reducible refine c2.mono ?_); rintro e w2 ⟨rfl, hb2⟩; have HB2 := Lib.hid hb2; clear hb2 c2))
      go_ret
      exact ⟨rfl, HB1.out.trans (HB2.out.mono HB1.out.size)⟩
  · have hs2 : s.size ≤ 2000 := by omega
    have ht2 : t.size ≤ 2000 := by omega
    have hd : ¬ ((s.size : Int) > 2000) := by omega
    have hd2 : ¬ ((t.size : Int) > 2000) := by omega
    have hd3 : decide ((2000 : Int) < (s.size : Int)) = false := decide_eq_false (by omega)
    have hd4 : decide ((2000 : Int) < (t.size : Int)) = false := decide_eq_false (by omega)
    clear hbig c1' hd hd2
    obtain ⟨ra, hra⟩ : ∃ r, lex s.data.toList = r := ⟨_, rfl⟩
    obtain ⟨rb, hrb⟩ : ∃ r, lex t.data.toList = r := ⟨_, rfl⟩
    have stL : ∀ {s : ByteArray} {ts : List Tok}, s.size ≤ 2000 → lex s.data.toList = .ok ts → ∃ us z, ts = us ++ [z] := fun h1 h2 => by
      obtain ⟨us, e, -⟩ := stands_lex (by simp; omega) h2
      exact ⟨us, _, e⟩
    cases ra with
    | error x =>
      have B0 : (x.2 != 0) = true := by rw [bne_iff_ne]; exact lex_err hra
      have ca := fun (W : World) (hW : Below w.heap.size w W) => lexBad_ hra W hs (hB.after hW) (hT.below hW)
      have cb := fun (W : World) (hW : Below w.heap.size w W) => lexSome_ t W ht (hB.after hW) (hT.below hW)
      clear hB hT hra hrb stL
      unfold maxLen at hs ht
      go_enter Tryz.func6, Tryz.ntmps6
      go_wp2_with (first
        | ((with_reducible refine c1.mono ?_); rintro e w1 ⟨rfl, hb1⟩; have c2 := ca w1 hb1; have HB1 := Lib.hid hb1; clear hb1 c1 ca)
        | ((with_reducible refine c2.mono ?_); rintro e w2 ⟨rfl, hb2⟩; have c3 := cb w2 (HB1.out.trans (hb2.mono HB1.out.size)); have HB2 := Lib.hid hb2; clear hb2 c2 cb)
        | ((with_reducible refine c3.mono ?_); rintro e w3 ⟨⟨v, p, q, rfl⟩, hb3⟩; have HB3 := Lib.hid hb3; clear hb3 c3))
      go_ret
      exact ⟨rfl, HB1.out.trans ((HB2.out.trans (HB3.out.mono HB2.out.size)).mono HB1.out.size)⟩
    | ok ts =>
      obtain ⟨us, y, rfl⟩ := stL hs2 hra
      obtain ⟨n, hn⟩ : ∃ n, n = us.length := ⟨_, rfl⟩
      have ca := fun (W : World) (hW : Below w.heap.size w W) => lexRow_ n hn hra W hs (hB.after hW) (hT.below hW)
      cases rb with
      | error x =>
        have B0 : (x.2 != 0) = true := by rw [bne_iff_ne]; exact lex_err hrb
        have cb := fun (W : World) (hW : Below w.heap.size w W) => lexBad_ hrb W ht (hB.after hW) (hT.below hW)
        clear hB hT hra hrb stL
        unfold maxLen at hs ht
        go_enter Tryz.func6, Tryz.ntmps6
        go_wp2_with (first
          | ((with_reducible refine c1.mono ?_); rintro e w1 ⟨rfl, hb1⟩; have c2 := ca w1 hb1; have HB1 := Lib.hid hb1; clear hb1 c1 ca)
          | ((with_reducible refine c2.mono ?_); rintro e w2 ⟨⟨g, cap, rfl, hle, hcm, hg, hL⟩, hb2⟩; have c3 := cb w2 (HB1.out.trans (hb2.mono HB1.out.size)); have HB2 := Lib.hid hb2; clear hb2 c2 cb hL)
          | ((with_reducible refine c3.mono ?_); rintro e w3 ⟨rfl, hb3⟩; have HB3 := Lib.hid hb3; clear hb3 c3))
        go_ret
        exact ⟨rfl, HB1.out.trans ((HB2.out.trans (HB3.out.mono HB2.out.size)).mono HB1.out.size)⟩
      | ok ts2 =>
        obtain ⟨vs, z, rfl⟩ := stL ht2 hrb
        obtain ⟨m, hm⟩ : ∃ m, m = vs.length := ⟨_, rfl⟩
        have cb := fun (W : World) (hW : Below w.heap.size w W) => lexRow_ m hm hrb W ht (hB.after hW) (hT.below hW)
        obtain ⟨p1, p2, p3, p4⟩ := join_plain hs2 ht2 hra hrb
        obtain ⟨ad1, ad2⟩ := addJ s t hs2 ht2
        have hjz : (joined s t).size ≤ maxLen := by
          have : (joined s t).size = (s.data.toList ++ 10 :: t.data.toList).length := rfl
          have q1 : s.data.toList.length = s.size := by simp
          have q2 : t.data.toList.length = t.size := by simp
          rw [this, List.length_append, List.length_cons, q1, q2]
          unfold maxLen; omega
        rw [← hn, ← hm] at p3 p4
        rw [← hn] at p1
        rw [← hm] at p2
        have n1 : (n : Int) ≤ 2500 := by omega
        have m1 : (m : Int) ≤ 2500 := by omega
        have HN := Lib.hid hn
        have HM := Lib.hid hm
        by_cases hnm : 2500 < n + m
        · obtain ⟨a, hla⟩ := p3 hnm
          have cc := fun (W : World) (hW : Below w.heap.size w W) => lexBad_ hla W hjz (hB.after hW) (hT.below hW)
          have hnm2 : (n : Int) + 1 + ((m : Int) + 1) - 2 > 2500 := by omega
          clear hB hT hra hrb stL hn hm p3 p4 hla hjz
          generalize joined s t = J at *
          generalize (⟨(s.data.toList ++ [10]).toArray⟩ : ByteArray) = J1 at *
          unfold maxLen at hs ht
          go_enter Tryz.func6, Tryz.ntmps6
          go_wp2_with (first
            | ((with_reducible refine c1.mono ?_); rintro e w1 ⟨rfl, hb1⟩; have c2 := ca w1 hb1; have HB1 := Lib.hid hb1; clear hb1 c1 ca)
            | ((with_reducible refine c2.mono ?_); rintro e w2 ⟨⟨g, cap, rfl, hle, hcm, hg, hL⟩, hb2⟩; have c3 := cb w2 (HB1.out.trans (hb2.mono HB1.out.size)); have HB2 := Lib.hid (HB1.out.trans (hb2.mono HB1.out.size)); clear hb2 c2 cb hL)
            | ((with_reducible refine c3.mono ?_); rintro e w3 ⟨⟨g2, cap2, rfl, hle2, hcm2, hg2, hL2⟩, hb3⟩; have c4 := cc w3 (HB2.out.trans (hb3.mono HB2.out.size)); have HB3 := Lib.hid (HB2.out.trans (hb3.mono HB2.out.size)); clear hb3 c3 hL2 cc)
            | ((with_reducible refine c4.mono ?_); rintro e w4 ⟨rfl, hb4⟩; have HB4 := Lib.hid (HB3.out.trans (hb4.mono HB3.out.size)); clear hb4 c4))
          go_ret
          exact ⟨rfl, HB4.out⟩
        · obtain ⟨xs, e0, hla, hxl, hxb⟩ := p4 (by omega)
          have cc := fun (W : World) (hW : Below w.heap.size w W) => lexRow_ (n + m) hxl.symm hla W hjz (hB.after hW) (hT.below hW)
          have hnm2 : ¬ ((n : Int) + 1 + ((m : Int) + 1) - 2 > 2500) := by omega
          have Bq : ((n : Int) + (m : Int) + 1 != (n : Int) + 1 + ((m : Int) + 1) - 1) = false := by rw [bne_eq_false_iff_eq]; omega
          have HX := Lib.hid hxb
          have HXL := Lib.hid hxl
          clear hB hT hra hrb stL hn hm p3 p4 hla hjz hxb hxl
          generalize joined s t = J at *
          generalize (⟨(s.data.toList ++ [10]).toArray⟩ : ByteArray) = J1 at *
          unfold maxLen at hs ht
          go_enter Tryz.func6, Tryz.ntmps6
          go_wp2_with (first
            | ((with_reducible refine c1.mono ?_); rintro e w1 ⟨rfl, hb1⟩; have c2 := ca w1 hb1; have HB1 := Lib.hid hb1; clear hb1 c1 ca)
            | ((with_reducible refine c2.mono ?_); rintro e w2 ⟨⟨g, cap, rfl, hle, hcm, hg, hL⟩, hb2⟩; have c3 := cb w2 (HB1.out.trans (hb2.mono HB1.out.size)); have HB2 := Lib.hid (HB1.out.trans (hb2.mono HB1.out.size)); have HL := Lib.hid hL; clear hb2 c2 cb hL)
            | ((with_reducible refine c3.mono ?_); rintro e w3 ⟨⟨g2, cap2, rfl, hle2, hcm2, hg2, hL2⟩, hb3⟩; have c4 := cc w3 (HB2.out.trans (hb3.mono HB2.out.size)); have HB3 := Lib.hid (HB2.out.trans (hb3.mono HB2.out.size)); have HL' := Lib.hid (HL.out.mono hb3 hg); have hg' := Nat.lt_of_lt_of_le hg hb3.size; have HL2 := Lib.hid hL2; clear hb3 c3 hL2 cc)
            | ((with_reducible refine c4.mono ?_); rintro e w4 ⟨⟨g3, cap3, rfl, hle3, hcm3, hg3, hL3⟩, hb4⟩; have HB4 := Lib.hid (HB3.out.trans (hb4.mono HB3.out.size)); have HLa := Lib.hid (HL'.out.mono hb4 hg'); have HLb := Lib.hid (HL2.out.mono hb4 hg2); have ga := Nat.lt_of_lt_of_le hg' hb4.size; have gb := Nat.lt_of_lt_of_le hg2 hb4.size; have HLc := Lib.hid hL3; clear hb4 c4 hL3))
          go_loopg [84] (n + m) (fun gg v84 wz => ∃ k : Nat, n + m - k ≤ gg ∧ k ≤ n + m ∧ v84 = .int .i64 (k : Int) ∧ Aside (Below w4.heap.size w4 wz))
          case atStart => exact ⟨0, by omega, by omega, rfl, Below.refl _ _⟩
          case round =>
            obtain ⟨k, hgg, hk, rfl, A2⟩ := hrel
            have hx := heap_alloc_new wr (.cells #[.int .i64 0, .string ⟨#[]⟩, .int .i64 0] 31)
            by_cases hknm : k < n + m
            · obtain ⟨c, hc⟩ : ∃ c, xs[k]? = some c := ⟨xs[k]'(by rw [HXL.out]; exact hknm), List.getElem?_eq_getElem _⟩
              have hrow := (HLc.out.mono A2.out hg3).row k c (by rw [List.getElem?_append_left (by rw [HXL.out]; exact hknm)]; exact hc)
              have c0 : wr.cell? ⟨g3, k * 3, none⟩ = some (.int .i64 (c.kind : Int)) := hrow 0 _ rfl
              have c1 : wr.cell? ⟨g3, k * 3 + 1, none⟩ = some (.string ⟨c.text.toArray⟩) := hrow 1 _ rfl
              have hknm2 : (k : Int) < (n : Int) + (m : Int) := by omega
              by_cases hkn : k < n
              · obtain ⟨u, hu⟩ : ∃ u, us[k]? = some u := ⟨us[k]'(by rw [← HN.out]; exact hkn), List.getElem?_eq_getElem _⟩
                obtain ⟨ek, et⟩ := bare_get HX.out hc hu
                have hrow2 := (HLa.out.mono (A2.out.alloc A2.out.size (.cells #[.int .i64 0, .string ⟨#[]⟩, .int .i64 0] 31)) ga).row k u (by rw [List.getElem?_append_left (by rw [← HN.out]; exact hkn)]; exact hu)
                have hld : (Instr.loadAt 31 (.pointer (some ⟨g, k * 3, none⟩))).run Tryz.prog (wr.alloc (.cells #[.int .i64 0, .string ⟨#[]⟩, .int .i64 0] 31)) = .ok (.agg (cells3 u).toArray) (wr.alloc (.cells #[.int .i64 0, .string ⟨#[]⟩, .int .i64 0] 31)) := load3 _ g (k * 3) u hrow2
                obtain ⟨T, hT⟩ : ∃ T : ByteArray, T = ⟨u.text.toArray⟩ := ⟨_, rfl⟩
                have hcells : (cells3 u).toArray = #[.int .i64 (u.kind : Int), .string T, .int .i64 (u.place : Int)] := by rw [hT]; rfl
                rw [hcells] at hld
                rw [ek] at c0
                rw [et, ← hT] at c1
                have z0 : (wr.alloc (.cells #[.int .i64 0, .string ⟨#[]⟩, .int .i64 0] 31)).cell? ⟨g, k * 3, none⟩ = some (.int .i64 (u.kind : Int)) := hrow2 0 _ rfl
                have z1 : (wr.alloc (.cells #[.int .i64 0, .string ⟨#[]⟩, .int .i64 0] 31)).cell? ⟨g, k * 3 + 1, none⟩ = some (.string T) := by rw [hT]; exact hrow2 1 _ rfl
                have z2 : (wr.alloc (.cells #[.int .i64 0, .string ⟨#[]⟩, .int .i64 0] 31)).cell? ⟨g, k * 3 + 2, none⟩ = some (.int .i64 (u.place : Int)) := hrow2 2 _ rfl
                have hkn2 : (k : Int) < (n : Int) + 1 - 1 := by omega
                obtain ⟨p, hp⟩ : ∃ p, p = u.place := ⟨_, rfl⟩
                obtain ⟨kd, hkd⟩ : ∃ kd, kd = u.kind := ⟨_, rfl⟩
                rw [← hp] at hld z2
                rw [← hkd] at hld z0 c0
                clear hx hT hcells hrow hrow2 hu hc ek et hp hkd
                have hxx := heap_alloc_new wr (.cells #[.int .i64 (kd : Int), .string T, .int .i64 (p : Int)] 31)
                have x0 : (wr.alloc (.cells #[.int .i64 (kd : Int), .string T, .int .i64 (p : Int)] 31)).cell? ⟨wr.heap.size, 0, none⟩ = some (.int .i64 (kd : Int)) := Lib.cell_of_heap hxx 0
                have x1 : (wr.alloc (.cells #[.int .i64 (kd : Int), .string T, .int .i64 (p : Int)] 31)).cell? ⟨wr.heap.size, 1, none⟩ = some (.string T) := Lib.cell_of_heap hxx 1
                have A4 : Aside (∀ m, Below w4.heap.size w4 ((wr.alloc (.cells #[.int .i64 (kd : Int), .string T, .int .i64 (p : Int)] 31)).drewN m)) := fun m => below_draws (A2.out.alloc A2.out.size _) m
                have d0 : (wr.alloc (.cells #[.int .i64 (kd : Int), .string T, .int .i64 (p : Int)] 31)).cell? ⟨g3, k * 3, none⟩ = some (.int .i64 (kd : Int)) := ((Below.refl wr.heap.size wr).alloc (Nat.le_refl _) _).cell (p := ⟨g3, k * 3, none⟩) (Nat.lt_of_lt_of_le hg3 A2.out.size) |>.trans c0
                have d1 : (wr.alloc (.cells #[.int .i64 (kd : Int), .string T, .int .i64 (p : Int)] 31)).cell? ⟨g3, k * 3 + 1, none⟩ = some (.string T) := ((Below.refl wr.heap.size wr).alloc (Nat.le_refl _) _).cell (p := ⟨g3, k * 3 + 1, none⟩) (Nat.lt_of_lt_of_le hg3 A2.out.size) |>.trans c1
                clear hxx
                go_wp2
                go_quiet (fail)
                go_wp2
                go_roundg (n + m - (k + 1))
                case measure => omega
                case rel => exact ⟨k + 1, by omega, by omega, by go_num, A4.out _⟩
              · obtain ⟨j, rfl⟩ : ∃ j, k = n + j := ⟨k - n, by omega⟩
                have hjm : j < m := by omega
                obtain ⟨u, hu⟩ : ∃ u, vs[j]? = some u := ⟨vs[j]'(by rw [← HM.out]; exact hjm), List.getElem?_eq_getElem _⟩
                obtain ⟨ek, et⟩ := bare_get2 HX.out (by rw [← HN.out]; omega) hc (by rw [← HN.out, Nat.add_sub_cancel_left]; exact hu)
                have hrow2 := (HLb.out.mono (A2.out.alloc A2.out.size (.cells #[.int .i64 0, .string ⟨#[]⟩, .int .i64 0] 31)) gb).row j u (by rw [List.getElem?_append_left (by rw [← HM.out]; exact hjm)]; exact hu)
                have hld : (Instr.loadAt 31 (.pointer (some ⟨g2, j * 3, none⟩))).run Tryz.prog (wr.alloc (.cells #[.int .i64 0, .string ⟨#[]⟩, .int .i64 0] 31)) = .ok (.agg (cells3 u).toArray) (wr.alloc (.cells #[.int .i64 0, .string ⟨#[]⟩, .int .i64 0] 31)) := load3 _ g2 (j * 3) u hrow2
                obtain ⟨T, hT⟩ : ∃ T : ByteArray, T = ⟨u.text.toArray⟩ := ⟨_, rfl⟩
                have hcells : (cells3 u).toArray = #[.int .i64 (u.kind : Int), .string T, .int .i64 (u.place : Int)] := by rw [hT]; rfl
                rw [hcells] at hld
                rw [ek] at c0
                rw [et, ← hT] at c1
                have z0 : (wr.alloc (.cells #[.int .i64 0, .string ⟨#[]⟩, .int .i64 0] 31)).cell? ⟨g2, j * 3, none⟩ = some (.int .i64 (u.kind : Int)) := hrow2 0 _ rfl
                have z1 : (wr.alloc (.cells #[.int .i64 0, .string ⟨#[]⟩, .int .i64 0] 31)).cell? ⟨g2, j * 3 + 1, none⟩ = some (.string T) := by rw [hT]; exact hrow2 1 _ rfl
                have z2 : (wr.alloc (.cells #[.int .i64 0, .string ⟨#[]⟩, .int .i64 0] 31)).cell? ⟨g2, j * 3 + 2, none⟩ = some (.int .i64 (u.place : Int)) := hrow2 2 _ rfl
                have hkn2 : ¬ ((n : Int) + (j : Int) < (n : Int) + 1 - 1) := by omega
                have hjj : (n : Int) + (j : Int) - ((n : Int) + 1) + 1 = (j : Int) := by omega
                have hknm3 : (n : Int) + (j : Int) < (n : Int) + (m : Int) := by omega
                obtain ⟨p, hp⟩ : ∃ p, p = u.place := ⟨_, rfl⟩
                obtain ⟨kd, hkd⟩ : ∃ kd, kd = u.kind := ⟨_, rfl⟩
                rw [← hp] at hld z2
                rw [← hkd] at hld z0 c0
                clear hx hT hcells hrow hrow2 hu hc ek et hp hkd hkn
                have hxx := heap_alloc_new wr (.cells #[.int .i64 (kd : Int), .string T, .int .i64 (p : Int)] 31)
                have x0 : (wr.alloc (.cells #[.int .i64 (kd : Int), .string T, .int .i64 (p : Int)] 31)).cell? ⟨wr.heap.size, 0, none⟩ = some (.int .i64 (kd : Int)) := Lib.cell_of_heap hxx 0
                have x1 : (wr.alloc (.cells #[.int .i64 (kd : Int), .string T, .int .i64 (p : Int)] 31)).cell? ⟨wr.heap.size, 1, none⟩ = some (.string T) := Lib.cell_of_heap hxx 1
                have A4 : Aside (∀ m, Below w4.heap.size w4 ((wr.alloc (.cells #[.int .i64 (kd : Int), .string T, .int .i64 (p : Int)] 31)).drewN m)) := fun m => below_draws (A2.out.alloc A2.out.size _) m
                have d0 : (wr.alloc (.cells #[.int .i64 (kd : Int), .string T, .int .i64 (p : Int)] 31)).cell? ⟨g3, (n + j) * 3, none⟩ = some (.int .i64 (kd : Int)) := ((Below.refl wr.heap.size wr).alloc (Nat.le_refl _) _).cell (p := ⟨g3, (n + j) * 3, none⟩) (Nat.lt_of_lt_of_le hg3 A2.out.size) |>.trans c0
                have d1 : (wr.alloc (.cells #[.int .i64 (kd : Int), .string T, .int .i64 (p : Int)] 31)).cell? ⟨g3, (n + j) * 3 + 1, none⟩ = some (.string T) := ((Below.refl wr.heap.size wr).alloc (Nat.le_refl _) _).cell (p := ⟨g3, (n + j) * 3 + 1, none⟩) (Nat.lt_of_lt_of_le hg3 A2.out.size) |>.trans c1
                clear hxx
                go_wp2
                go_quiet (fail)
                go_wp2
                go_roundg (n + m - (n + j + 1))
                case measure => omega
                case rel => exact ⟨n + j + 1, by omega, by omega, by go_num, A4.out _⟩
            · have hknm2 : ¬ (k : Int) < (n : Int) + (m : Int) := by omega
              go_wp2
              go_ret
              exact ⟨rfl, HB4.out.trans (A2.out.mono HB4.out.size)⟩
end LxC
end Go.Proofs.YtldglmehchkbeaaGreatDoor
/-
  Bytes as a parameter: opened; and any parameter shut again behind a call that made blocks of its own alone. No condition but that the type can be read.
-/
namespace Go.Proofs.YtldglmehchkbeaaGreatDoor
open Go.RowKit Go.ChangeShapes Go.WideShapes Go.ChangeAt Go.Deep
set_option linter.unusedVariables false
set_option linter.unusedSimpArgs false
namespace LxC
open Lx
/-- bytes in memory, as a slice holds them (of a seat without LexNames) -/
def BytesAt (n : Nat) (w : World) (v : Value) (l : List UInt8) : Prop :=
  ((∃ p cap, v = .slice p 0 cap ∧ cap ≤ maxLen) ∧ l = []) ∨
  ∃ b o cap, v = .slice (some ⟨b, o, none⟩) l.length cap ∧ b < n ∧ l.length ≤ cap ∧ cap ≤ maxLen ∧ ∀ (j : Nat) (c : UInt8), l[j]? = some c → w.cell? ⟨b, o + j, none⟩ = some (.int .u8 (c.toNat : Int))
end LxC
namespace LxV
section
variable {H : Type} {enc : TypeId × Value → H}
theorem shut_any {t : TypeId} {W W' : World} {v : Value} {d : DataW H} {ps : List MemPlace} (hl : laidOutB Tryz.prog = true) (hr : Tryz.prog.readableRec t = true) (hrow : t < Tryz.prog.types.size)
    (h : DataW.Trod enc Tryz.prog W 0 (fun _ => true) true t v d ps) (hb : Below W.heap.size W W') : DataW.Trod enc Tryz.prog W' 0 (fun b => decide (b < W.heap.size)) true t v d ps := by
  have hlt : ∀ p ∈ ps, p.block < W.heap.size := by
    obtain ⟨n, hn⟩ := h
    exact DataW.trod_lt n _ _ _ hn
  refine Go.WideElems.Trod_stays hl hr hrow h (fun p hp => hb.same (hlt p hp)) (fun p hp => decide_eq_true (hlt p hp))
set_option maxRecDepth 100000 in
theorem open_bytes {W : World} {base : Nat} {v : Value} {d : DataW H} {p : List MemPlace} (hval : Value.okWide Tryz.prog W .any base 33 v) (h : DataW.Trod enc Tryz.prog W 0 (fun _ => true) true 33 v d p) :
    ∃ l : List UInt8, LxC.BytesAt W.heap.size W v l := by
  obtain ⟨a1, len, cap, rfl⟩ := okWide_slice Tryz.underlying33 hval
  obtain ⟨fuel, hf⟩ := h
  have hc1 : Tryz.prog.cellsOf 5 = 1 := by kernel_rfl
  rcases open_ints Tryz.underlying33 Tryz.underlying5 hc1 hf with ⟨hcs, hx⟩ | ⟨a, len', cap', zs, hcs, _, hl, hm, hz, hx, hcell, hwz⟩
  · simp [Value.cells] at hcs
    obtain ⟨rfl, rfl, rfl⟩ := hcs
    exact ⟨[], .inl ⟨⟨none, 0, rfl, Nat.zero_le _⟩, rfl⟩⟩
  · simp [Value.cells] at hcs
    obtain ⟨rfl, rfl, rfl⟩ := hcs
    simp only [if_true] at hz
    obtain ⟨ab, ao, spot⟩ := a
    by_cases h0 : cap = 0
    · have : len = 0 := by omega
      subst this
      exact ⟨[], .inl ⟨⟨_, _, rfl, hm⟩, rfl⟩⟩
    · have hspot : spot = none := by simpa [Addr.add] using World.cell?_spot (hcell 0 (by omega))
      subst hspot
      refine ⟨(zs.take len).map fun n => UInt8.ofNat n.toNat, .inr ⟨ab, ao, cap, ?_, ?_, ?_, hm, fun j c hj => ?_⟩⟩
      · simp; omega
      · have h00 := hcell 0 (by omega)
        rcases Nat.lt_or_ge ab W.heap.size with h' | h'
        · exact h'
        · rw [Addr.add_lit] at h00
          unfold World.cell? at h00
          simp [Array.getElem?_eq_none h'] at h00
      · simp; omega
      · rw [List.getElem?_map] at hj
        obtain ⟨n, hn, rfl⟩ := Option.map_eq_some_iff.1 hj
        rw [List.getElem?_take] at hn
        split at hn
        · have hjz := (List.getElem?_eq_some_iff.1 hn).1
          have hcj := hcell j hjz
          rw [Addr.add_lit, List.getD_eq_getElem?_getD, hn] at hcj
          have hb := range_u8 hwz j
          rw [hn] at hb
          rw [hcj]
          simp only [Option.getD_some] at hb ⊢
          congr 2
          rw [UInt8.toNat_ofNat']
          omega
        · cases hn
end
end LxV
end Go.Proofs.YtldglmehchkbeaaGreatDoor
/-
  Tokens of a text, plainly: tokens with other blanks and remarks between are the same tokens. No program, no condition.
-/
namespace Go.Proofs.YtldglmehchkbeaaGreatDoor
set_option linter.unusedVariables false
set_option linter.unusedSimpArgs false
namespace Lx
structure Piece (k : Nat) (x : List UInt8) : Prop where
  nz : k ≠ 0
  tok : ∀ r, sees blank r = true → token (x ++ r) = some (k, x.length)
  gap0 : ∀ r, sees blank r = true → gp (x ++ r) = (true, 0)
theorem piece_of {l : List UInt8} {k n : Nat} (h0 : gp l = (true, 0)) (h : token l = some (k, n)) (hk : k ≠ 0) : Piece k (l.take n) := by
  obtain ⟨hn1, hnl, -, -⟩ := token_n h hk
  have hlen : (l.take n).length = n := by rw [List.length_take]; omega
  refine ⟨hk, fun r hr => ?_, fun r hr => ?_⟩
  · rw [hlen]; exact token_take h hk (.inl hr)
  · obtain ⟨z1, z2, z3⟩ := gp_zero h0
    rcases l with _ | ⟨b, t⟩
    · simp at hnl; omega
    · obtain ⟨m, rfl⟩ : ∃ m, n = m + 1 := ⟨n - 1, by omega⟩
      have e1 : ∀ a : UInt8, (a = 47 ∨ a = 42) → twoB 47 a (b :: t) = false → twoB 47 a ((b :: t).take (m + 1) ++ r) = false := by
        intro a ha hz
        rw [List.take_succ_cons, List.cons_append]
        obtain ⟨c, r, rfl, hc⟩ := sees_blank hr
        rcases m with _ | m
        · rw [List.take_zero, List.nil_append]
          show ((b == 47) && (c == a)) = false
          have hc' := blank_not hc
          rcases ha with rfl | rfl
          · rw [show (c == 47) = false by simpa using hc'.2.2.2.2.2.1, Bool.and_false]
          · rw [show (c == 42) = false by simpa using hc'.2.2.2.2.2.2, Bool.and_false]
        · rcases t with _ | ⟨d, t⟩
          · simp at hnl
          · rw [List.take_succ_cons]
            exact hz
      refine gp_other ?_ (e1 47 (.inl rfl) z2) (e1 42 (.inr rfl) z3)
      rw [List.take_succ_cons, List.cons_append]
      exact z1
theorem pieces {l : List UInt8} {ts : List (Nat × List UInt8)} (h : Toks l ts) : ∀ x ∈ ts, Piece x.1 x.2 := by
  induction h with
  | done l hg => intro x hx; cases hx
  | step l g k n ts hg ht hk _ ih =>
    intro x hx
    rcases List.mem_cons.1 hx with rfl | hx
    · exact piece_of (gp_stop l g hg).1 ht hk
    · exact ih x hx
/-- blanks and remarks, a blank first -/
structure Sep (u : List UInt8) : Prop where
  first : sees blank u = true
  all : ∀ r, gp r = (true, 0) → gp (u ++ r) = (true, u.length)
theorem sep_blanks : ∀ (u : List UInt8), (∀ b ∈ u, blank b = true) → ∀ r, gp r = (true, 0) → gp (u ++ r) = (true, u.length)
  | [], _, r, h => h
  | b :: u, hb, r, h => by
    rw [List.cons_append, gp_blank (hb b (List.mem_cons_self ..)), sep_blanks u (fun x hx => hb x (List.mem_cons_of_mem _ hx)) r h]
    simp only [List.length_cons, Prod.mk.injEq, true_and]; omega
def seps : List (List UInt8) := [[32], [10], [32, 47, 42, 32, 97, 32, 47, 42, 32, 42, 47], [32, 47, 47, 32, 98, 32, 42, 47, 10], [9, 13, 10]]
theorem sep_of {u : List UInt8} (h : u ∈ seps) : Sep u := by
  unfold seps at h
  simp only [List.mem_cons, List.not_mem_nil, or_false] at h
  rcases h with rfl | rfl | rfl | rfl | rfl
  · exact ⟨rfl, sep_blanks _ (by decide)⟩
  · exact ⟨rfl, sep_blanks _ (by decide)⟩
  · refine ⟨rfl, fun r hr => ?_⟩
    rw [List.cons_append, gp_blank (by decide)]
    have he : endOf ((([47, 42, 32, 97, 32, 47, 42, 32, 42, 47] : List UInt8) ++ r).drop 2) = some 6 := endOf_app (l := [32, 97, 32, 47, 42, 32, 42, 47]) r (by decide)
    rw [gp_long (by rfl) he]
    show ((gp r).1, 1 + (2 + 6 + 2 + (gp r).2)) = _
    rw [hr]; rfl
  · refine ⟨rfl, fun r hr => ?_⟩
    rw [List.cons_append, gp_blank (by decide)]
    have hc : cnt inLine (([47, 47, 32, 98, 32, 42, 47, 10] : List UInt8) ++ r) = 7 := by
      simp only [List.cons_append, List.nil_append]
      rw [cnt_yes (by decide), cnt_yes (by decide), cnt_yes (by decide), cnt_yes (by decide), cnt_yes (by decide), cnt_yes (by decide), cnt_yes (by decide), cnt_no (by decide)]
    rw [gp_line (by rfl), hc]
    show ((gp (10 :: r)).1, 1 + (7 + (gp (10 :: r)).2)) = _
    rw [gp_blank (by decide), hr]; rfl
  · exact ⟨rfl, sep_blanks _ (by decide)⟩
/-- the pieces, each with what stands behind it -/
def flat (sep : Nat → List UInt8) : Nat → List (Nat × List UInt8) → List UInt8
  | _, [] => []
  | i, x :: xs => x.2 ++ sep i ++ flat sep (i + 1) xs
theorem toks_sep {u r : List UInt8} {ts : List (Nat × List UInt8)} (hu : Sep u) (h0 : gp r = (true, 0)) (h : Toks r ts) : Toks (u ++ r) ts := by
  have hg := hu.all r h0
  have hd : (u ++ r).drop u.length = r := List.drop_left
  cases h with
  | done _ h1 =>
    rw [h1, Prod.mk.injEq] at h0
    exact .done _ (by rw [hg, List.length_append, h0.2]; rfl)
  | step _ g k n ts' h1 ht hk hT =>
    rw [h1, Prod.mk.injEq] at h0
    obtain ⟨-, rfl⟩ := h0
    rw [List.drop_zero] at ht hT ⊢
    have := Toks.step (u ++ r) u.length k n ts' hg (by rw [hd]; exact ht) hk (by rw [hd]; exact hT)
    rwa [hd] at this
theorem toks_flat (sep : Nat → List UInt8) (hs : ∀ i, Sep (sep i)) : ∀ (xs : List (Nat × List UInt8)) (i : Nat), (∀ x ∈ xs, Piece x.1 x.2) → Toks (flat sep i xs) xs ∧ gp (flat sep i xs) = (true, 0)
  | [], i, _ => ⟨.done _ gp_nil, gp_nil⟩
  | (k, x) :: xs, i, h => by
    obtain ⟨h1, h2⟩ := toks_flat sep hs xs (i + 1) fun y hy => h y (List.mem_cons_of_mem _ hy)
    have hp : Piece k x := h _ (List.mem_cons_self ..)
    have hT := toks_sep (hs i) h2 h1
    have hb : sees blank (sep i ++ flat sep (i + 1) xs) = true := by
      obtain ⟨b, t, e, hb⟩ := sees_blank (hs i).first
      rw [e]; exact hb
    have e : flat sep i ((k, x) :: xs) = x ++ (sep i ++ flat sep (i + 1) xs) := List.append_assoc _ _ _
    rw [e]
    have hg := hp.gap0 _ hb
    have := Toks.step (x ++ (sep i ++ flat sep (i + 1) xs)) 0 k x.length xs hg (by rw [List.drop_zero]; exact hp.tok _ hb) hp.nz (by rw [List.drop_zero, List.drop_left]; exact hT)
    rw [List.drop_zero, List.take_left] at this
    exact ⟨this, hg⟩
theorem flat_snoc (sep : Nat → List UInt8) (x : Nat × List UInt8) : ∀ (xs : List (Nat × List UInt8)) (i : Nat), flat sep i (xs ++ [x]) = flat sep i xs ++ x.2 ++ sep (i + xs.length)
  | [], i => by simp [flat]
  | y :: ys, i => by
    rw [List.cons_append]
    show y.2 ++ sep i ++ flat sep (i + 1) (ys ++ [x]) = _
    rw [flat_snoc sep x ys (i + 1)]
    show _ = (y.2 ++ sep i ++ flat sep (i + 1) ys) ++ x.2 ++ sep (i + (ys.length + 1))
    rw [show i + 1 + ys.length = i + (ys.length + 1) by omega]
    simp only [List.append_assoc]
theorem toks_total {l : List UInt8} {ts : List (Nat × List UInt8)} (h : Toks l ts) : (ts.map fun x => x.2.length).sum ≤ l.length ∧ ts.length ≤ l.length := by
  induction h with
  | done l hg => exact ⟨Nat.zero_le _, Nat.zero_le _⟩
  | step l g k n ts hg ht hk _ ih =>
    have hn := token_n ht hk
    rw [List.length_drop] at hn
    rw [List.length_drop, List.length_drop] at ih
    simp only [List.map_cons, List.sum_cons, List.length_cons, List.length_take, List.length_drop]
    omega
end Lx
end Go.Proofs.YtldglmehchkbeaaGreatDoor
/-
  The law LexGaps, walked. Condition: Go's own variables lie.
-/
namespace Go.Proofs.YtldglmehchkbeaaGreatDoor
open Go.RowKit
set_option linter.unusedVariables false
set_option linter.unusedSimpArgs false
namespace LxC
open Lx
def qOf (l : List UInt8) (i : Nat) : Nat := if l.length = 0 then 0 else (l.getD (i % l.length) 0).toNat % 5
def sepOf (l : List UInt8) (i : Nat) : List UInt8 := seps.getD (qOf l i) []
theorem q5 (l : List UInt8) (i : Nat) : qOf l i < 5 := by
  unfold qOf; split
  · omega
  · exact Nat.mod_lt _ (by omega)
theorem sep_mem (l : List UInt8) (i : Nat) : sepOf l i ∈ seps := by
  have h := q5 l i
  have h5 : seps.length = 5 := rfl
  unfold sepOf
  rw [List.getD_eq_getElem?_getD, List.getElem?_eq_getElem (by omega), Option.getD_some]
  exact List.getElem_mem _
theorem sep_len (l : List UInt8) (i : Nat) : (sepOf l i).length ≤ 11 := by
  have : ∀ u ∈ seps, u.length ≤ 11 := by decide
  exact this _ (sep_mem l i)
theorem flat_len (l : List UInt8) : ∀ (xs : List (Nat × List UInt8)) (i : Nat), (flat (sepOf l) i xs).length ≤ (xs.map fun x => x.2.length).sum + 11 * xs.length
  | [], _ => by simp [flat]
  | x :: xs, i => by
    have h1 := flat_len l xs (i + 1)
    have h2 := sep_len l i
    show (x.2 ++ sepOf l i ++ flat (sepOf l) (i + 1) xs).length ≤ _
    rw [List.length_append, List.length_append, List.map_cons, List.sum_cons, List.length_cons]
    omega
theorem sum_take (xs : List Nat) : ∀ k, (xs.take k).sum ≤ xs.sum := by
  induction xs with
  | nil => intro k; simp
  | cons x xs ih =>
    intro k
    cases k with
    | zero => simp
    | succ k => rw [List.take_succ_cons, List.sum_cons, List.sum_cons]; have := ih k; omega
theorem mem_sum : ∀ {xs : List Nat} {x : Nat}, x ∈ xs → x ≤ xs.sum
  | y :: xs, x, h => by
    rw [List.sum_cons]
    rcases List.mem_cons.1 h with rfl | h
    · omega
    · have := mem_sum h; omega
/-- the text so far -/
def far (l : List UInt8) (us : List Tok) (k : Nat) : List UInt8 := flat (sepOf l) 0 (bare (us.take k))
theorem far_step {l : List UInt8} {us : List Tok} {k : Nat} {u : Tok} (h : us[k]? = some u) : far l us (k + 1) = far l us k ++ (u.text ++ sepOf l k) := by
  obtain ⟨hk, e⟩ := List.getElem?_eq_some_iff.1 h
  unfold far
  rw [List.take_succ_eq_append_getElem hk, e]
  have hb : bare (us.take k ++ [u]) = bare (us.take k) ++ [(u.kind, u.text)] := by unfold bare; rw [List.map_append]; rfl
  have hl : (bare (us.take k)).length = k := by unfold bare; rw [List.length_map, List.length_take]; omega
  rw [hb, flat_snoc, hl, Nat.zero_add, List.append_assoc]
theorem gaps_plain {s : ByteArray} {us : List Tok} {y : Tok} (l : List UInt8) (hs : s.size ≤ 800) (h1 : lex s.data.toList = .ok (us ++ [y])) :
    us.length ≤ 800 ∧ (∀ k, (far l us k).length ≤ 9600) ∧ (∀ u ∈ us, u.text.length ≤ 800) ∧ (y.kind = 0 ∧ y.text = []) ∧ (8192 < (far l us us.length).length ∨ ∃ ms z, lex (far l us us.length) = .ok (ms ++ [z]) ∧ ms.length = us.length ∧ bare (ms ++ [z]) = bare (us ++ [y])) := by
  have q1 : s.data.toList.length = s.size := by simp
  rw [lex_eq _ (by omega)] at h1
  obtain ⟨us', e1, T1, l1⟩ := toks_of _ _ 0 0 _ (Nat.le_refl _) (by omega) h1
  have e1' := List.append_inj_left' e1 rfl
  have e2' := List.append_inj_right' e1 rfl
  subst e1'
  obtain rfl : y = ⟨0, [], 0 + s.data.toList.length⟩ := by injection e2'
  obtain ⟨t1, t2⟩ := toks_total T1
  have bl : ∀ us : List Tok, (bare us).length = us.length := fun us => by unfold bare; rw [List.length_map]
  have hP := pieces T1
  rw [bl] at t2
  have hfar : ∀ k, (far l us k).length ≤ 9600 := fun k => by
    unfold far
    have h2 := flat_len l (bare (us.take k)) 0
    have h3 : bare (us.take k) = (bare us).take k := by unfold bare; rw [List.map_take]
    rw [h3] at h2 ⊢
    have h4 := sum_take ((bare us).map fun x => x.2.length) k
    rw [← List.map_take] at h4
    have h5 : ((bare us).take k).length ≤ us.length := by rw [List.length_take, bl]; omega
    omega
  refine ⟨by omega, hfar, fun u hu => ?_, ⟨rfl, rfl⟩, ?_⟩
  · have hm : u.text.length ∈ (bare us).map fun x => x.2.length := List.mem_map.2 ⟨(u.kind, u.text), List.mem_map.2 ⟨u, hu, rfl⟩, rfl⟩
    have := mem_sum hm
    omega
  · rcases Nat.lt_or_ge 8192 (far l us us.length).length with h | h
    · exact .inl h
    · right
      have hF := (toks_flat (sepOf l) (fun i => sep_of (sep_mem l i)) (bare us) 0 hP).1
      have hfe : far l us us.length = flat (sepOf l) 0 (bare us) := by unfold far; rw [List.take_length]
      rw [← hfe] at hF
      obtain ⟨ms, e, hx, hb, -⟩ := tk_toks hF 0 0 (by rw [bl]; omega)
      refine ⟨ms, ⟨0, [], e⟩, by rw [lex_eq _ h]; exact hx, by rw [← bl ms, hb, bl], ?_⟩
      have : ∀ (a b : List Tok), bare (a ++ b) = bare a ++ bare b := fun a b => by unfold bare; rw [List.map_append]
      rw [this, this, hb]; rfl
theorem bare_both {xs us : List Tok} (h : bare xs = bare us) {i : Nat} {t u : Tok} (hi : xs[i]? = some t) (hu : us[i]? = some u) : t.kind = u.kind ∧ t.text = u.text :=
  bare_get (ys := []) (by rw [List.append_nil]; exact h) hi hu
set_option maxRecDepth 100000 in
set_option maxHeartbeats 8000000 in
theorem gaps_ (s : ByteArray) (v : Value) (l : List UInt8) (w : World) (hs : s.size ≤ maxLen) (hv : BytesAt w.heap.size w v l) (hB : Base w.heap.size w) (hT : Tbls w) :
    Calls Tryz.prog 5 #[.string s, v] w fun e w' => e = .returned (.bool true) ∧ Below w.heap.size w w' := by
  have c1 := awake_ w hB hT.laid
  have c1' : ∀ W : World, Below w.heap.size w W → Calls Tryz.prog 12 #[] W fun e w' => e = .returned (.bool true) ∧ Below W.heap.size W w' := fun W hW => awake_ W (hB.after hW) (hT.below hW).laid
  by_cases hbig : 800 < s.size
  · have hd : ((s.size : Int) > 800) := by omega
    clear hB hT hv
    unfold maxLen at hs
    go_enter Tryz.func5, Tryz.ntmps5
    go_wp2_with (first
      | ((with_reducible refine c1.mono ?_); rintro e w1 ⟨rfl, hb1⟩; have c2 := c1' w1 hb1; have HB1 := Lib.hid hb1; clear hb1 c1 c1')
      | ((with_reducible refine c2.mono ?_); rintro e w2 ⟨rfl, hb2⟩; have HB2 := Lib.hid hb2; clear hb2 c2))
    go_ret
    exact ⟨rfl, HB1.out.trans (HB2.out.mono HB1.out.size)⟩
  · have hs8 : s.size ≤ 800 := by omega
    have hd3 : decide ((800 : Int) < (s.size : Int)) = false := decide_eq_false (by omega)
    clear c1'
    obtain ⟨ra, hra⟩ : ∃ r, lex s.data.toList = r := ⟨_, rfl⟩
    cases ra with
    | error x =>
      have B0 : (x.2 != 0) = true := by rw [bne_iff_ne]; exact lex_err hra
      have ca := fun (W : World) (hW : Below w.heap.size w W) => lexBad_ hra W hs (hB.after hW) (hT.below hW)
      clear hB hT hra hbig hv
      unfold maxLen at hs
      go_enter Tryz.func5, Tryz.ntmps5
      go_wp2_with (first
        | ((with_reducible refine c1.mono ?_); rintro e w1 ⟨rfl, hb1⟩; have c2 := ca w1 hb1; have HB1 := Lib.hid hb1; clear hb1 c1 ca)
        | ((with_reducible refine c2.mono ?_); rintro e w2 ⟨rfl, hb2⟩; have HB2 := Lib.hid hb2; clear hb2 c2))
      go_ret
      exact ⟨rfl, HB1.out.trans (HB2.out.mono HB1.out.size)⟩
    | ok ts =>
      obtain ⟨us, y, rfl⟩ : ∃ us y, ts = us ++ [y] := by
        obtain ⟨us, e, -⟩ := stands_lex (by simp; omega) hra
        exact ⟨us, _, e⟩
      obtain ⟨n, hn⟩ : ∃ n, n = us.length := ⟨_, rfl⟩
      have ca := fun (W : World) (hW : Below w.heap.size w W) => lexRow_ n hn hra W hs (hB.after hW) (hT.below hW)
      obtain ⟨p1, p2, p3, p4, p5⟩ := gaps_plain l hs8 hra
      rw [← hn] at p1 p5
      have n1 : (n : Int) ≤ 800 := by omega
      have P2 := Lib.hid p2
      have P3 := Lib.hid p3
      have P5 := Lib.hid p5
      have HN := Lib.hid hn
      have HBB := Lib.hid hB
      have HTT := Lib.hid hT
      clear hB hT hra hbig p2 p3 p4 p5 hn
      unfold maxLen at hs
      go_enter Tryz.func5, Tryz.ntmps5
      go_upto_region 6 with (first
        | ((with_reducible refine c1.mono ?_); rintro e w1 ⟨rfl, hb1⟩; have c2 := ca w1 hb1; have HB1 := Lib.hid hb1; clear hb1 c1 ca)
        | ((with_reducible refine c2.mono ?_); rintro e w2 ⟨⟨g, cap, rfl, hle, hcm, hg, hL⟩, hb2⟩; have HB2 := Lib.hid (HB1.out.trans (hb2.mono HB1.out.size)); have HL := Lib.hid hL; clear hb2 c2 hL))
      go_wp2
      have hxx0 := heap_alloc_new w2 (.cells #[.string ⟨#[32]⟩, .string ⟨#[10]⟩, .string ⟨#[32, 47, 42, 32, 97, 32, 47, 42, 32, 42, 47]⟩, .string ⟨#[32, 47, 47, 32, 98, 32, 42, 47, 10]⟩, .string ⟨#[9, 13, 10]⟩] 34)
      have hbb0 := HB2.out.alloc HB2.out.size (.cells #[.string ⟨#[32]⟩, .string ⟨#[10]⟩, .string ⟨#[32, 47, 42, 32, 97, 32, 47, 42, 32, 42, 47]⟩, .string ⟨#[32, 47, 47, 32, 98, 32, 42, 47, 10]⟩, .string ⟨#[9, 13, 10]⟩] 34)
      have hsl0 : w2.heap.size < (w2.alloc (.cells #[.string ⟨#[32]⟩, .string ⟨#[10]⟩, .string ⟨#[32, 47, 42, 32, 97, 32, 47, 42, 32, 42, 47]⟩, .string ⟨#[32, 47, 47, 32, 98, 32, 42, 47, 10]⟩, .string ⟨#[9, 13, 10]⟩] 34)).heap.size := by simp
      have hLL := HL.out.mono ((Below.refl w2.heap.size w2).alloc (Nat.le_refl _) (.cells #[.string ⟨#[32]⟩, .string ⟨#[10]⟩, .string ⟨#[32, 47, 42, 32, 97, 32, 47, 42, 32, 42, 47]⟩, .string ⟨#[32, 47, 47, 32, 98, 32, 42, 47, 10]⟩, .string ⟨#[9, 13, 10]⟩] 34)) hg
      obtain ⟨W0, hW0⟩ : ∃ W0, W0 = w2.alloc (.cells #[.string ⟨#[32]⟩, .string ⟨#[10]⟩, .string ⟨#[32, 47, 42, 32, 97, 32, 47, 42, 32, 42, 47]⟩, .string ⟨#[32, 47, 47, 32, 98, 32, 42, 47, 10]⟩, .string ⟨#[9, 13, 10]⟩] 34) := ⟨_, rfl⟩
      rw [← hW0] at hxx0 hbb0 hsl0 hLL ⊢
      have HS0 : Hid (∀ q, q < 5 → W0.cell? ⟨w2.heap.size, q, none⟩ = some (.string ⟨(seps.getD q []).toArray⟩)) := fun q hq => by
        have : q = 0 ∨ q = 1 ∨ q = 2 ∨ q = 3 ∨ q = 4 := by omega
        rcases this with rfl | rfl | rfl | rfl | rfl
        · exact Lib.cell_of_heap hxx0 0
        · exact Lib.cell_of_heap hxx0 1
        · exact Lib.cell_of_heap hxx0 2
        · exact Lib.cell_of_heap hxx0 3
        · exact Lib.cell_of_heap hxx0 4
      have HBW := Lib.hid hbb0
      have hsz1 : w2.heap.size < W0.heap.size := hsl0
      have hsz0 : g < W0.heap.size := Nat.lt_trans hg hsl0
      have HLL := Lib.hid hLL
      clear hxx0 hbb0 hsl0 hW0 HL hLL
      go_loopg [9, 40] n (fun gg v9 v40 wz => ∃ k : Nat, n - k ≤ gg ∧ k ≤ n ∧ v9 = .string ⟨(far l us k).toArray⟩ ∧ v40 = .int .i64 (k : Int) ∧ Aside (Below W0.heap.size W0 wz))
      case atStart => exact ⟨0, by omega, by omega, rfl, rfl, Below.refl _ _⟩
      case round =>
        obtain ⟨k, hgg, hk, rfl, rfl, A2⟩ := hrel
        by_cases hkn : k < n
        · have hkn2 : (k : Int) < (n : Int) := by omega
          obtain ⟨u, hu⟩ : ∃ u, us[k]? = some u := ⟨us[k]'(by rw [← HN.out]; exact hkn), List.getElem?_eq_getElem _⟩
          obtain ⟨T, hT⟩ : ∃ T : List UInt8, T = u.text := ⟨_, rfl⟩
          have hTl : T.length ≤ 800 := by rw [hT]; exact P3.out u (List.mem_of_getElem? hu)
          have hSl := sep_len l k
          have hq5 := q5 l k
          have hrow := (HLL.out.mono A2.out hsz0).row k u (by rw [List.getElem?_append_left (by rw [← HN.out]; exact hkn)]; exact hu)
          have hld : (Instr.loadAt 31 (.pointer (some ⟨g, k * 3, none⟩))).run Tryz.prog wr = .ok (.agg (cells3 u).toArray) wr := load3 wr g (k * 3) u hrow
          have hcells : (cells3 u).toArray = #[.int .i64 (u.kind : Int), .string ⟨T.toArray⟩, .int .i64 (u.place : Int)] := by rw [hT]; rfl
          rw [hcells] at hld
          have e0 : wr.cell? ⟨g, k * 3, none⟩ = some (.int .i64 (u.kind : Int)) := hrow 0 _ rfl
          have e1 : wr.cell? ⟨g, k * 3 + 1, none⟩ = some (.string ⟨T.toArray⟩) := by rw [hT]; exact hrow 1 _ rfl
          have e2 : wr.cell? ⟨g, k * 3 + 2, none⟩ = some (.int .i64 (u.place : Int)) := hrow 2 _ rfl
          have hfk := P2.out k
          have hstep := far_step (l := l) hu
          obtain ⟨S, hS⟩ : ∃ S, S = sepOf l k := ⟨_, rfl⟩
          obtain ⟨q, hq⟩ : ∃ q, q = qOf l k := ⟨_, rfl⟩
          have hcs := HS0.out q (by rw [hq]; exact hq5)
          have hSq : seps.getD q [] = S := by rw [hS, hq]; rfl
          rw [hSq] at hcs
          rw [← hT, ← hS] at hstep
          rw [← hS] at hSl
          obtain ⟨F, hF⟩ : ∃ F, F = far l us k := ⟨_, rfl⟩
          obtain ⟨F1, hF1⟩ : ∃ F1, F1 = far l us (k + 1) := ⟨_, rfl⟩
          rw [← hF, ← hF1] at hstep
          rw [← hF] at hfk ⊢
          have ad1 : ∀ w : World, (Op.stringOp .add ⟨T.toArray⟩ ⟨S.toArray⟩).run Tryz.prog w = .ok (.string ⟨(T ++ S).toArray⟩) w := fun w => run_string_add_lists w T S (by omega) (by omega)
          have ad2 : ∀ w : World, (Op.stringOp .add ⟨F.toArray⟩ ⟨(T ++ S).toArray⟩).run Tryz.prog w = .ok (.string ⟨F1.toArray⟩) w := fun w => by rw [hstep]; exact run_string_add_lists w F (T ++ S) (by omega) (by rw [List.length_append]; omega)
          obtain ⟨p, hp⟩ : ∃ p, p = u.place := ⟨_, rfl⟩
          obtain ⟨kd, hkd⟩ : ∃ kd, kd = u.kind := ⟨_, rfl⟩
          rw [← hp] at hld e2
          rw [← hkd] at hld e0
          have HF1 := Lib.hid hF1
          have hxx := heap_alloc_new wr (.cells #[.int .i64 (kd : Int), .string ⟨T.toArray⟩, .int .i64 (p : Int)] 31)
          have hbl := (Below.refl wr.heap.size wr).alloc (Nat.le_refl _) (.cells #[.int .i64 (kd : Int), .string ⟨T.toArray⟩, .int .i64 (p : Int)] 31)
          have x1 : (wr.alloc (.cells #[.int .i64 (kd : Int), .string ⟨T.toArray⟩, .int .i64 (p : Int)] 31)).cell? ⟨wr.heap.size, 1, none⟩ = some (.string ⟨T.toArray⟩) := Lib.cell_of_heap hxx 1
          have hB0 : w2.heap.size < wr.heap.size := Nat.lt_of_lt_of_le hsz1 A2.out.size
          have x2 : (wr.alloc (.cells #[.int .i64 (kd : Int), .string ⟨T.toArray⟩, .int .i64 (p : Int)] 31)).cell? ⟨w2.heap.size, q, none⟩ = some (.string ⟨S.toArray⟩) := (hbl.cell (p := ⟨w2.heap.size, q, none⟩) hB0).trans ((A2.out.cell (p := ⟨w2.heap.size, q, none⟩) hsz1).trans hcs)
          have A4 : Aside (∀ m, Below W0.heap.size W0 ((wr.alloc (.cells #[.int .i64 (kd : Int), .string ⟨T.toArray⟩, .int .i64 (p : Int)] 31)).drewN m)) := fun m => below_draws (A2.out.alloc A2.out.size _) m
          rcases hv with ⟨⟨pp, cp, rfl, hcp⟩, rfl⟩ | ⟨b, o, cp, rfl, hb1, hb2, hb3, hb4⟩
          · obtain rfl : q = 0 := by rw [hq]; rfl
            clear hq
            clear hcs hSq hxx hbl hB0 hT hcells hrow hu hstep hF hF1 hp hkd hS hTl hSl hfk
            go_wp2
            go_quiet (fail)
            go_wp2
            go_roundg (n - (k + 1))
            case measure => omega
            case rel => exact ⟨k + 1, by omega, by omega, by rw [← HF1.out], by go_num, A4.out _⟩
          · by_cases hl0 : l.length = 0
            · have hl1 : (l.length : Int) = 0 := by omega
              obtain rfl : l = [] := List.eq_nil_of_length_eq_zero hl0
              obtain rfl : q = 0 := by rw [hq]; rfl
              clear hq hb4 hl0 hl1
              clear hcs hSq hxx hbl hB0 hT hcells hrow hu hstep hF hF1 hp hkd hS hTl hSl hfk
              go_wp2
              go_quiet (fail)
              go_wp2
              go_roundg (n - (k + 1))
              case measure => omega
              case rel => exact ⟨k + 1, by omega, by omega, by rw [← HF1.out], by go_num, A4.out _⟩
            · have hlpos : 0 < l.length := by omega
              obtain ⟨r, hr⟩ : ∃ r, r = k % l.length := ⟨_, rfl⟩
              have hrl : r < l.length := by rw [hr]; exact Nat.mod_lt _ hlpos
              obtain ⟨c, hc⟩ : ∃ c, l[r]? = some c := ⟨l[r], List.getElem?_eq_getElem hrl⟩
              have hcc : (wr.alloc (.cells #[.int .i64 (kd : Int), .string ⟨T.toArray⟩, .int .i64 (p : Int)] 31)).cell? ⟨b, o + r, none⟩ = some (.int .u8 (c.toNat : Int)) := (hbl.cell (p := ⟨b, o + r, none⟩) (by show b < wr.heap.size; have := HBW.out.size; have := A2.out.size; omega)).trans ((A2.out.cell (p := ⟨b, o + r, none⟩) (by show b < W0.heap.size; have := HBW.out.size; omega)).trans ((HBW.out.cell (p := ⟨b, o + r, none⟩) hb1).trans (hb4 r c hc)))
              have hmod : (k : Int) % (l.length : Int) = (r : Int) := by rw [hr]; omega
              have hqc : (c.toNat : Int) % 5 = (q : Int) := by
                have : q = c.toNat % 5 := by
                  rw [hq]; unfold qOf
                  rw [if_neg hl0, ← hr, List.getD_eq_getElem?_getD, hc]; rfl
                rw [this]; omega
              have hcb := u8_bd c
              have hl3 : (l.length : Int) > 0 := by omega
              have hq5' : (q : Int) < 5 := by rw [hq]; omega
              clear hq hb4 hl0 hr hc
              clear hcs hSq hxx hbl hB0 hT hcells hrow hu hstep hF hF1 hp hkd hS hTl hSl hfk
              go_wp2
              go_quiet (fail)
              go_wp2
              go_roundg (n - (k + 1))
              case measure => omega
              case rel => exact ⟨k + 1, by omega, by omega, by rw [← HF1.out], by go_num, A4.out _⟩
        · obtain rfl : k = n := by omega
          have hkn2 : ¬ (k : Int) < (k : Int) := by omega
          obtain ⟨F, hF⟩ : ∃ F, F = far l us k := ⟨_, rfl⟩
          have hfk := P2.out k
          have p5 := P5.out
          rw [← hF] at p5
          rw [← hF] at hfk ⊢
          have hbw : Below w.heap.size w wr := HBW.out.trans (A2.out.mono HBW.out.size)
          have hFs : (⟨F.toArray⟩ : ByteArray).size ≤ maxLen := by show F.length ≤ maxLen; unfold maxLen; omega
          have hFd : (⟨F.toArray⟩ : ByteArray).data.toList = F := rfl
          rcases p5 with hlong | ⟨ms, z, hlx, hml, hmb⟩
          · have cc := lexBad_ (s := ⟨F.toArray⟩) (x := (0, 6)) (lex_long F hlong) wr hFs (HBB.out.after hbw) (HTT.out.below hbw)
            have hbig2 : ((F.length : Int) > 8192) := by omega
            have HBw := Lib.hid hbw
            clear hF hfk hbw hFs hFd
            go_wp2_with ((with_reducible refine cc.mono ?_); rintro e w3 ⟨rfl, hb3⟩; have HB3 := Lib.hid (HBw.out.trans (hb3.mono HBw.out.size)); clear hb3 cc)
            go_ret
            exact ⟨rfl, HB3.out⟩
          · have hmk : ms.length = k := by rw [hml, HN.out]
            have cc := lexRow_ (s := ⟨F.toArray⟩) k hmk.symm hlx wr hFs (HBB.out.after hbw) (HTT.out.below hbw)
            have HBw := Lib.hid hbw
            have HMB := Lib.hid hmb
            have HMK := Lib.hid hmk
            have hnl : F.length ≤ 8192 := by
              rcases Nat.lt_or_ge 8192 F.length with h | h
              · rw [lex_long F h] at hlx; cases hlx
              · exact h
            have hbig2 : ¬ ((F.length : Int) > 8192) := by omega
            have hg1 : g < wr.heap.size := Nat.lt_of_lt_of_le hsz0 A2.out.size
            have HL1 := Lib.hid (HLL.out.mono A2.out hsz0)
            clear hF hfk hbw hFs hFd hmb hml hmk hlx hnl
            go_wp2_with ((with_reducible refine cc.mono ?_); rintro e w3 ⟨⟨g3, cap3, rfl, hle3, hcm3, hg3, hL3⟩, hb3⟩; have HB3 := Lib.hid (HBw.out.trans (hb3.mono HBw.out.size)); have HL2 := Lib.hid (HL1.out.mono hb3 hg1); have hg2 := Nat.lt_of_lt_of_le hg1 hb3.size; have HL3 := Lib.hid hL3; clear hb3 cc hL3)
            go_loopg [88] (k + 1) (fun gg v88 wz => ∃ i : Nat, k + 1 - i ≤ gg ∧ i ≤ k + 1 ∧ v88 = .int .i64 (i : Int) ∧ Aside (Below w3.heap.size w3 wz))
            case atStart => exact ⟨0, by omega, by omega, rfl, Below.refl _ _⟩
            case round =>
              clear hgg hk hkn hkn2 hbig2
              obtain ⟨i, hgg, hik, rfl, A3⟩ := hrel
              by_cases hi : i < k + 1
              · have hi2 : (i : Int) < (k : Int) + 1 := by omega
                obtain ⟨c, hc⟩ : ∃ c, (ms ++ [z])[i]? = some c := ⟨(ms ++ [z])[i]'(by rw [List.length_append, HMK.out]; exact hi), List.getElem?_eq_getElem _⟩
                obtain ⟨d, hd⟩ : ∃ d, (us ++ [y])[i]? = some d := ⟨(us ++ [y])[i]'(by rw [List.length_append, ← HN.out]; exact hi), List.getElem?_eq_getElem _⟩
                obtain ⟨ek, et⟩ := bare_both HMB.out hc hd
                have hr1 := (HL3.out.mono A3.out hg3).row i c hc
                have hr2 := (HL2.out.mono A3.out hg2).row i d hd
                have c0 : wr.cell? ⟨g3, i * 3, none⟩ = some (.int .i64 (c.kind : Int)) := hr1 0 _ rfl
                have c1 : wr.cell? ⟨g3, i * 3 + 1, none⟩ = some (.string ⟨c.text.toArray⟩) := hr1 1 _ rfl
                have d0 : wr.cell? ⟨g, i * 3, none⟩ = some (.int .i64 (d.kind : Int)) := hr2 0 _ rfl
                have d1 : wr.cell? ⟨g, i * 3 + 1, none⟩ = some (.string ⟨d.text.toArray⟩) := hr2 1 _ rfl
                rw [ek] at c0
                rw [et] at c1
                obtain ⟨T, hT⟩ : ∃ T : ByteArray, T = ⟨d.text.toArray⟩ := ⟨_, rfl⟩
                rw [← hT] at c1 d1
                obtain ⟨kd, hkd⟩ : ∃ kd, kd = d.kind := ⟨_, rfl⟩
                rw [← hkd] at c0 d0
                clear hT hkd ek et hc hd hr1 hr2
                go_wp2
                go_quiet (fail)
                go_wp2
                go_roundg (k + 1 - (i + 1))
                case measure => omega
                case rel => exact ⟨i + 1, by omega, by omega, by go_num, below_draws A3.out _⟩
              · have hi2 : ¬ (i : Int) < (k : Int) + 1 := by omega
                go_wp2
                go_ret
                exact ⟨rfl, HB3.out.trans (A3.out.mono HB3.out.size)⟩
end LxC
end Go.Proofs.YtldglmehchkbeaaGreatDoor
