/-
  Tokens of a text, plainly: what stands between, names, numbers, signs; all tokens from the front, or the first thing that is wrong. No program, no condition.
-/
namespace Go.Proofs.YtnlbhnmiekanfaaGreatDoor
set_option linter.unusedVariables false
set_option linter.unusedSimpArgs false
namespace Lx
/-- how many bytes a list begins with that are such -/
def cnt (p : UInt8 → Bool) (l : List UInt8) : Nat := (l.takeWhile p).length
/-- does it begin with such a byte? -/
def sees (p : UInt8 → Bool) : List UInt8 → Bool
  | b :: _ => p b
  | [] => false
def isB (c b : UInt8) : Bool := b == c
def blank (b : UInt8) : Bool := b == 9 || b == 10 || b == 13 || b == 32
def letter (b : UInt8) : Bool := (decide (97 ≤ b.toNat) && decide (b.toNat ≤ 122)) || (decide (65 ≤ b.toNat) && decide (b.toNat ≤ 90)) || b == 95
def digit (b : UInt8) : Bool := decide (48 ≤ b.toNat) && decide (b.toNat ≤ 57)
def plus (b : UInt8) : Bool := b == 43 || b == 45
def inName (b : UInt8) : Bool := letter b || digit b
def inNumber (b : UInt8) : Bool := inName b || b == 46
def inLine (b : UInt8) : Bool := !(b == 10)
/-- do two bytes stand ahead? -/
def twoB (a c : UInt8) (l : List UInt8) : Bool := sees (isB a) l && sees (isB c) (l.drop 1)
/-- the place of the first of 42, 47 one behind the other -/
def endOf : List UInt8 → Option Nat
  | [] => none
  | b :: l => if twoB 42 47 (b :: l) then some 0 else (endOf l).map (· + 1)
/-- what stands between: whether it goes wrong, and how far it reaches, or where it goes wrong -/
def gap : Nat → List UInt8 → Bool × Nat
  | 0, _ => (false, 0)
  | f + 1, l =>
    let k := cnt blank l
    let m := l.drop k
    if twoB 47 47 m then ((gap f (m.drop (cnt inLine m))).1, k + cnt inLine m + (gap f (m.drop (cnt inLine m))).2)
    else if twoB 47 42 m then
      match endOf (m.drop 2) with
      | none => (false, k)
      | some j => ((gap f (m.drop (2 + j + 2))).1, k + (2 + j + 2) + (gap f (m.drop (2 + j + 2))).2)
    else (true, k)
def words : List (List UInt8) := [[105, 110, 116], [100, 111, 117, 98, 108, 101], [118, 111, 105, 100], [115, 116, 97, 116, 105, 99], [101, 120, 116, 101, 114, 110], [105, 102], [101, 108, 115, 101], [119, 104, 105, 108, 101], [114, 101, 116, 117, 114, 110], [98, 114, 101, 97, 107], [99, 111, 110, 116, 105, 110, 117, 101]]
def reserved (l : List UInt8) : Bool := words.contains l
def twos : List (List UInt8) := [[60, 60], [62, 62], [60, 61], [62, 61], [61, 61], [33, 61], [38, 38], [124, 124]]
def ones : List (List UInt8) := [[43], [45], [42], [47], [37], [38], [94], [126], [33], [60], [62], [61], [40], [41], [123], [125], [91], [93], [59], [44], [124]]
def isSign (l : List UInt8) : Bool := twos.contains l || ones.contains l
/-- what digits mean -/
def val (l : List UInt8) : Nat := l.foldl (fun n b => n * 10 + (b.toNat - 48)) 0
def isInt (l : List UInt8) : Bool := decide (l.length ≤ 10) && decide (val l ≤ 4294967295)
/-- behind the digits of a real: nothing, or e and a number -/
def isTail (l : List UInt8) : Bool :=
  l.isEmpty || (sees (isB 101) l &&
    let r := if sees plus (l.drop 1) then l.drop 2 else l.drop 1
    !r.isEmpty && cnt digit r == r.length)
def isReal (l : List UInt8) : Bool :=
  decide (l.length ≤ 40) && (decide (0 < cnt digit l) &&
    (sees (isB 46) (l.drop (cnt digit l)) && (decide (0 < cnt digit (l.drop (cnt digit l + 1))) && isTail (l.drop (cnt digit l + 1 + cnt digit (l.drop (cnt digit l + 1)))))))
/-- how far a number reaches, and which kind it would be -/
def span (l : List UInt8) : Nat × Nat :=
  let a := cnt digit l
  if sees (isB 46) (l.drop a) then
    let b := a + 1 + cnt digit (l.drop (a + 1))
    if sees (isB 101) (l.drop b) then
      let c := if sees plus (l.drop (b + 1)) then b + 1 + 1 else b + 1
      (3, c + cnt digit (l.drop c))
    else (3, b)
  else (2, a)
def number (l : List UInt8) : Option (Nat × Nat) :=
  if (if (span l).1 = 3 then isReal (l.take (span l).2) else isInt (l.take (span l).2)) && !sees inNumber (l.drop (span l).2) then some (span l) else none
def name (l : List UInt8) : Option (Nat × Nat) :=
  let n := cnt inName l
  if reserved (l.take n) then some (5, n) else if n ≤ 40 then some (1, n) else none
def sign (l : List UInt8) : Option (Nat × Nat) :=
  if isSign (l.take 2) then some (4, min 2 l.length) else if isSign (l.take 1) then some (4, 1) else none
/-- the kind and the length of the token that a text begins with -/
def token (l : List UInt8) : Option (Nat × Nat) :=
  if l.isEmpty then some (0, 0) else if sees letter l then name l else if sees digit l then number l else sign l
structure Tok where
  kind : Nat
  text : List UInt8
  place : Nat
/-- all tokens, from a place on, so many being there already; or the place and the error -/
def toks : Nat → List UInt8 → Nat → Nat → Except (Nat × Int) (List Tok)
  | 0, _, _, _ => .ok []
  | f + 1, l, place, c =>
    let g := gap (l.length + 1) l
    if g.1 then
      let l' := l.drop g.2
      match token l' with
      | none => .error (place + g.2, 10)
      | some (kind, n) =>
        if kind = 0 then .ok [⟨0, [], place + g.2⟩]
        else if c = 2500 then .error (place + g.2, 5)
        else match toks f (l'.drop n) (place + g.2 + n) (c + 1) with
          | .ok ts => .ok (⟨kind, l'.take n, place + g.2⟩ :: ts)
          | .error e => .error e
    else .error (place + g.2, 10)
def lex (l : List UInt8) : Except (Nat × Int) (List Tok) :=
  if 8192 < l.length then .error (0, 6) else toks (l.length + 1) l 0 0
end Lx
end Go.Proofs.YtnlbhnmiekanfaaGreatDoor
