/-
  Functions that tell bytes, made of others: not, either. Condition: what they captured lies in memory as it was.
-/
import Derived.Test.YtnlbhnmiekanfaaGreatDoorLexC
import Derived.Deep.LoopGhost
namespace Go.Proofs.YtnlbhnmiekanfaaGreatDoor
open Go.RowKit
set_option linter.unusedVariables false
set_option linter.unusedSimpArgs false
namespace LxC
open Lx
set_option maxRecDepth 100000 in
set_option maxHeartbeats 1000000 in
theorem not_ (g : Nat) (lb : Array Value) (w : World) :
    Calls Tryz.prog 88 #[.func (.func g) #[] lb] w fun e w' => e = .returned (.func (.func 125) #[] #[.pointer (some ⟨w.heap.size, 0, none⟩)]) ∧ w' = w.alloc (.cells #[.func (.func g) #[] lb] 138) := by
  have hmf : ∀ (fn : Fn) (first cap : Array Value) (w : World), (Instr.makeFunc fn first cap).run Tryz.prog w = .ok (.func fn first cap) w := fun _ _ _ _ => rfl
  go_enter Tryz.func88, Tryz.ntmps88
  go_wp2
  go_ret
  exact ⟨rfl, rfl⟩
set_option maxRecDepth 100000 in
set_option maxHeartbeats 1000000 in
theorem not1_ {n : Rg} {w : World} {f : Value} {p : UInt8 → Bool} (hf : Tells n w f p) (b : UInt8) (B : Nat) (W : World) (hn : n.hi ≤ W.heap.size) (hb : Un n w W) (hx : W.cell? ⟨B, 0, none⟩ = some f) :
    Calls Tryz.prog 125 #[.int .u8 (b.toNat : Int), .pointer (some ⟨B, 0, none⟩)] W fun e w' => e = .returned (.bool (!p b)) ∧ Below W.heap.size W w' := by
  obtain ⟨g, lb, rfl, eg, hc⟩ := hf
  have c := hc W b hn hb
  clear hc hb
  generalize p b = r at *
  go_enter Tryz.func125, Tryz.ntmps125
  go_wp2_with (go_at_fn g; (with_reducible refine c.mono ?_); rintro e w' ⟨rfl, hb'⟩)
  go_ret
  exact ⟨rfl, hb'⟩
theorem tells_not {n : Rg} {w : World} {f : Value} {p : UInt8 → Bool} (hf : Tells n w f p) (hn : n.hi ≤ w.heap.size) (hlo : n.lo + 3 ≤ w.heap.size) (q : UInt8 → Bool) (hq : ∀ b, q b = !p b) :
    Tells ⟨n.lo, w.heap.size + 1⟩ (w.alloc (.cells #[f] 138)) (.func (.func 125) #[] #[.pointer (some ⟨w.heap.size, 0, none⟩)]) q := by
  refine ⟨_, _, rfl, enters_of Tryz.func125 (by kernel_rfl) rfl, fun W b hn' hb => ?_⟩
  have h1 := (hb.block w.heap.size (by show w.heap.size < w.heap.size + 1; omega) (.inr hlo)).trans (heap_alloc_new w (.cells #[f] 138))
  have hb2 : Un n w W := (Un.of ((Below.refl n.hi w).alloc hn _) (Nat.le_refl _)).trans (hb.mono rfl (by show n.hi ≤ w.heap.size + 1; omega))
  have hn'' : w.heap.size + 1 ≤ W.heap.size := hn'
  refine (not1_ hf b w.heap.size W (by omega) hb2 (Lib.cell_of_heap h1 0)).mono ?_
  rintro e w' ⟨rfl, hb'⟩
  exact ⟨ret_bool (hq b).symm, hb'⟩
def idxFrom : Nat → List Bool → Int
  | _, [] => -1
  | i, b :: l => if b then (i : Int) else idxFrom (i + 1) l
theorem idx_any : ∀ (bs : List Bool) (i : Nat), decide (idxFrom i bs ≥ 0) = bs.any id
  | [], i => rfl
  | b :: l, i => by
    unfold idxFrom
    rw [List.any_cons]
    cases b with
    | true => simp
    | false => simp only [Bool.false_eq_true, if_false, id_eq, Bool.false_or]; exact idx_any l (i + 1)
theorem idx_yes {bs : List Bool} {k : Nat} (h : bs[k]? = some true) (i : Nat) : idxFrom i (bs.drop k) = i := by
  obtain ⟨hk, e⟩ := List.getElem?_eq_some_iff.1 h
  rw [List.drop_eq_getElem_cons hk, e]
  simp [idxFrom]
theorem idx_no {bs : List Bool} {k : Nat} (h : bs[k]? = some false) (i : Nat) : idxFrom i (bs.drop k) = idxFrom (i + 1) (bs.drop (k + 1)) := by
  obtain ⟨hk, e⟩ := List.getElem?_eq_some_iff.1 h
  rw [List.drop_eq_getElem_cons hk, e]
  simp [idxFrom]
set_option maxRecDepth 100000 in
set_option maxHeartbeats 2000000 in
theorem index_ (g : Nat) (lb : Array Value) (eg : ∀ args w, (callFunc g args).run Tryz.prog w = .ok (.enter g args) w) (A : Nat) (fs : List Value) (bs : List Bool) (n : Nat) (w : World) (hf : fs.length = n) (hl : bs.length = n) (hn : n ≤ 1000) (hA : A < w.heap.size)
    (hcell : ∀ (j : Nat) (v : Value), fs[j]? = some v → w.cell? ⟨A, j, none⟩ = some v)
    (hcall : ∀ (W : World) (j : Nat) (v : Value) (b : Bool), w.heap.size ≤ W.heap.size → Below w.heap.size w W → fs[j]? = some v → bs[j]? = some b → Calls Tryz.prog g (#[v] ++ lb) W fun e w' => e = .returned (.bool b) ∧ Below W.heap.size W w') :
    Calls Tryz.prog 160 #[.slice (some ⟨A, 0, none⟩) n n, .func (.func g) #[] lb] w fun e w' => e = .returned (.int .i64 (idxFrom 0 bs)) ∧ Below w.heap.size w w' := by
  have HA := Lib.hid hcell
  have HC := Lib.hid hcall
  have HF := Lib.hid hf
  have HL := Lib.hid hl
  clear hcell hcall hf hl
  go_enter Tryz.func160, Tryz.ntmps160
  go_wp2
  go_loopg [5, 8] n (fun gg _ s8 wr => ∃ kk : Nat, kk ≤ n ∧ n - kk ≤ gg ∧ s8 = .int .i64 kk ∧ Aside (Below w.heap.size w wr) ∧ Aside (idxFrom 0 bs = idxFrom kk (bs.drop kk)))
  case atStart => exact ⟨0, Nat.zero_le _, by omega, rfl, Below.refl _ w, rfl⟩
  case round =>
    obtain ⟨kk, hkk, hg, rfl, BW, A1⟩ := hrel
    by_cases hlt : kk < n
    · have hltz : (kk : Int) < (n : Int) := by omega
      obtain ⟨v, hv⟩ : ∃ v, fs[kk]? = some v := ⟨fs[kk]'(by rw [HF.out]; omega), List.getElem?_eq_getElem _⟩
      obtain ⟨b, hb⟩ : ∃ b, bs[kk]? = some b := ⟨bs[kk]'(by rw [HL.out]; omega), List.getElem?_eq_getElem _⟩
      have hc1 : wr.cell? ⟨A, kk, none⟩ = some v := (BW.out.cell (p := ⟨A, kk, none⟩) hA).trans (HA.out kk v hv)
      have hcc := HC.out wr kk v b BW.out.size BW.out hv hb
      have HV := Lib.hid hv
      have HB := Lib.hid hb
      clear hv hb
      cases b with
      | true =>
        go_wp2_with (go_at_fn g; (with_reducible refine hcc.mono ?_); rintro e w' ⟨rfl, hb'⟩)
        go_ret
        exact ⟨by rw [A1.out, idx_yes HB.out]; rfl, BW.out.trans (hb'.mono BW.out.size)⟩
      | false =>
        go_wp2_with (go_at_fn g; (with_reducible refine hcc.mono ?_); rintro e w' ⟨rfl, hb'⟩)
        have HB' := Lib.hid hb'
        clear hb'
        go_roundg (n - (kk + 1))
        case measure => omega
        case rel => exact ⟨kk + 1, by omega, by omega, by go_num, BW.out.trans (HB'.out.mono BW.out.size), A1.out.trans (idx_no HB.out kk)⟩
    · have hltz : ¬ (kk : Int) < (n : Int) := by omega
      obtain rfl : kk = n := by omega
      go_wp2
      go_ret
      exact ⟨by rw [A1.out, List.drop_of_length_le (by rw [HL.out]; omega)]; rfl, BW.out⟩
set_option maxRecDepth 100000 in
set_option maxHeartbeats 1000000 in
theorem contains_ (g : Nat) (lb : Array Value) (eg : ∀ args w, (callFunc g args).run Tryz.prog w = .ok (.enter g args) w) (A : Nat) (fs : List Value) (bs : List Bool) (n : Nat) (w : World) (hf : fs.length = n) (hl : bs.length = n) (hn : n ≤ 1000) (hA : A < w.heap.size)
    (hcell : ∀ (j : Nat) (v : Value), fs[j]? = some v → w.cell? ⟨A, j, none⟩ = some v)
    (hcall : ∀ (W : World) (j : Nat) (v : Value) (b : Bool), w.heap.size ≤ W.heap.size → Below w.heap.size w W → fs[j]? = some v → bs[j]? = some b → Calls Tryz.prog g (#[v] ++ lb) W fun e w' => e = .returned (.bool b) ∧ Below W.heap.size W w') :
    Calls Tryz.prog 123 #[.slice (some ⟨A, 0, none⟩) n n, .func (.func g) #[] lb] w fun e w' => e = .returned (.bool (bs.any id)) ∧ Below w.heap.size w w' := by
  have c := index_ g lb eg A fs bs n w hf hl hn hA hcell hcall
  have HI := Lib.hid (idx_any bs 0)
  generalize idxFrom 0 bs = r at *
  clear hcell hcall hf hl
  go_enter Tryz.func123, Tryz.ntmps123
  go_wp2_with (go_at_call 160; (with_reducible refine c.mono ?_); rintro e w' ⟨rfl, hb'⟩)
  go_ret
  exact ⟨ret_bool HI.out, hb'⟩
set_option maxRecDepth 100000 in
set_option maxHeartbeats 1000000 in
theorem is_ {n : Rg} {w : World} {f : Value} {p : UInt8 → Bool} (hf : Tells n w f p) (b : UInt8) (B : Nat) (W : World) (hn : n.hi ≤ W.heap.size) (hb : Un n w W) (hx : W.cell? ⟨B, 0, none⟩ = some (.int .u8 (b.toNat : Int))) :
    Calls Tryz.prog 124 #[f, .pointer (some ⟨B, 0, none⟩)] W fun e w' => e = .returned (.bool (p b)) ∧ Below W.heap.size W w' := by
  obtain ⟨g, lb, rfl, eg, hc⟩ := hf
  have c := hc W b hn hb
  clear hc hb
  generalize p b = r at *
  go_enter Tryz.func124, Tryz.ntmps124
  go_wp2_with (go_at_fn g; (with_reducible refine c.mono ?_); rintro e w' ⟨rfl, hb'⟩)
  go_ret
  exact ⟨rfl, hb'⟩
set_option maxRecDepth 100000 in
set_option maxHeartbeats 1000000 in
theorem either_ (A n : Nat) (w : World) :
    Calls Tryz.prog 87 #[.slice (some ⟨A, 0, none⟩) n n] w fun e w' => e = .returned (.func (.func 122) #[] #[.pointer (some ⟨w.heap.size, 0, none⟩)]) ∧ w' = w.alloc (.cells #[.slice (some ⟨A, 0, none⟩) n n] 173) := by
  have hmf : ∀ (fn : Fn) (first cap : Array Value) (w : World), (Instr.makeFunc fn first cap).run Tryz.prog w = .ok (.func fn first cap) w := fun _ _ _ _ => rfl
  go_enter Tryz.func87, Tryz.ntmps87
  go_wp2
  go_ret
  exact ⟨rfl, rfl⟩
set_option maxRecDepth 100000 in
set_option maxHeartbeats 1000000 in
theorem either1_ (b : UInt8) (A n B : Nat) (fs : List Value) (bs : List Bool) (W : World) (hf : fs.length = n) (hl : bs.length = n) (hn : n ≤ 1000) (hA : A < W.heap.size) (hB : B < W.heap.size)
    (hx : W.cell? ⟨B, 0, none⟩ = some (.slice (some ⟨A, 0, none⟩) n n))
    (hcell : ∀ (j : Nat) (v : Value), fs[j]? = some v → W.cell? ⟨A, j, none⟩ = some v)
    (hcall : ∀ (W' : World) (C j : Nat) (v : Value) (r : Bool), W.heap.size ≤ W'.heap.size → Below W.heap.size W W' → W'.cell? ⟨C, 0, none⟩ = some (.int .u8 (b.toNat : Int)) → fs[j]? = some v → bs[j]? = some r → Calls Tryz.prog 124 #[v, .pointer (some ⟨C, 0, none⟩)] W' fun e w' => e = .returned (.bool r) ∧ Below W'.heap.size W' w') :
    Calls Tryz.prog 122 #[.int .u8 (b.toNat : Int), .pointer (some ⟨B, 0, none⟩)] W fun e w' => e = .returned (.bool (bs.any id)) ∧ Below W.heap.size W w' := by
  have hmf : ∀ (fn : Fn) (first cap : Array Value) (w : World), (Instr.makeFunc fn first cap).run Tryz.prog w = .ok (.func fn first cap) w := fun _ _ _ _ => rfl
  have hb0 : Below W.heap.size W (W.alloc (.cells #[.int .u8 (b.toNat : Int)] 5)) := (Below.refl _ _).alloc (Nat.le_refl _) _
  have hbx : (W.alloc (.cells #[.int .u8 (b.toNat : Int)] 5)).cell? ⟨W.heap.size, 0, none⟩ = some (.int .u8 (b.toNat : Int)) := Lib.cell_of_heap (heap_alloc_new W (.cells #[.int .u8 (b.toNat : Int)] 5)) 0
  have hx' : (W.alloc (.cells #[.int .u8 (b.toNat : Int)] 5)).cell? ⟨B, 0, none⟩ = some (.slice (some ⟨A, 0, none⟩) n n) := (hb0.cell (p := ⟨B, 0, none⟩) hB).trans hx
  have c := contains_ 124 #[.pointer (some ⟨W.heap.size, 0, none⟩)] (enters_of Tryz.func124 (by kernel_rfl) rfl) A fs bs n (W.alloc (.cells #[.int .u8 (b.toNat : Int)] 5)) hf hl hn (by simp; omega)
    (fun j v hv => (hb0.cell (p := ⟨A, j, none⟩) hA).trans (hcell j v hv))
    (fun W' j v r h1 h2 hv hr => hcall W' W.heap.size j v r (by simp at h1; omega) (hb0.trans (h2.mono (by simp))) ((h2.cell (p := ⟨W.heap.size, 0, none⟩) (by simp)).trans hbx) hv hr)
  have HB0 := Lib.hid hb0
  clear hcell hcall hf hl hx hb0 hbx
  generalize bs.any id = r at *
  go_enter Tryz.func122, Tryz.ntmps122
  go_wp2_with (go_at_call 123; (with_reducible refine c.mono ?_); rintro e w' ⟨rfl, hb'⟩)
  go_ret
  exact ⟨rfl, HB0.out.trans (hb'.mono (by simp))⟩
theorem tells_either {m : Rg} {A n : Nat} {w0 w : World} {fs : List Value} {ps : List (UInt8 → Bool)} (hf : fs.length = n) (hl : ps.length = n) (hn : n ≤ 1000) (hA : A < w.heap.size) (hAlo : m.lo + 3 ≤ A) (hm : m.hi ≤ w.heap.size) (h0 : Un m w0 w)
    (hcell : ∀ (j : Nat) (v : Value), fs[j]? = some v → w.cell? ⟨A, j, none⟩ = some v)
    (ht : ∀ (j : Nat) (v : Value) (p : UInt8 → Bool), fs[j]? = some v → ps[j]? = some p → Tells m w0 v p) (q : UInt8 → Bool) (hq : ∀ b, q b = (ps.map (· b)).any id) :
    Tells ⟨m.lo, w.heap.size + 1⟩ (w.alloc (.cells #[.slice (some ⟨A, 0, none⟩) n n] 173)) (.func (.func 122) #[] #[.pointer (some ⟨w.heap.size, 0, none⟩)]) q := by
  refine ⟨_, _, rfl, enters_of Tryz.func122 (by kernel_rfl) rfl, fun W b hn' hb => ?_⟩
  have hn2 : w.heap.size + 1 ≤ W.heap.size := hn'
  have h1 := (hb.block w.heap.size (by show w.heap.size < w.heap.size + 1; omega) (.inr (by show m.lo + 3 ≤ w.heap.size; omega))).trans (heap_alloc_new w (.cells #[.slice (some ⟨A, 0, none⟩) n n] 173))
  have hbw : Un ⟨m.lo, w.heap.size⟩ w W := (Un.of ((Below.refl _ _).alloc (Nat.le_refl _) _) (Nat.le_refl _)).trans (hb.mono rfl (by show w.heap.size ≤ w.heap.size + 1; omega))
  have hbA : W.heap[A]? = w.heap[A]? := hbw.block A hA (.inr hAlo)
  refine (either1_ b A n w.heap.size fs (ps.map (· b)) W hf (by rw [List.length_map]; exact hl) hn (by omega) (by omega) (Lib.cell_of_heap h1 0) (fun j v hv => (World.cell?_of_block (w := w) (a := ⟨A, j, none⟩) hbA).trans (hcell j v hv)) ?_).mono ?_
  · intro W' C j v r h1 h2 hx hv hr
    rw [List.getElem?_map] at hr
    cases hp : ps[j]? with
    | none => rw [hp] at hr; cases hr
    | some p =>
      rw [hp] at hr
      obtain rfl : p b = r := Option.some.inj hr
      exact is_ (ht j v p hv hp) b C W' (by omega) ((h0.trans (hbw.mono rfl hm)).thenB h2 (by omega)) hx
  · rintro e w' ⟨rfl, hb'⟩
    exact ⟨ret_bool (hq b).symm, hb'⟩
end LxC
end Go.Proofs.YtnlbhnmiekanfaaGreatDoor
