/-
  Trees of tokens, plainly: what each row of a module's text reads, or the first thing that is wrong. No program, no condition.
-/
import Derived.Test.YtnlbhnmiekanfaaGreatDoorLexM
namespace Go.Proofs.YtnlbhnmiekanfaaGreatDoor
set_option linter.unusedVariables false
set_option linter.unusedSimpArgs false
namespace Pa
open Lx
abbrev Bs := List UInt8
inductive Ex where
  | mk (kind : Nat) (op name : Bs) (num bits : Nat) (kids : List Ex) (type place : Nat)
def Ex.place : Ex → Nat
  | .mk _ _ _ _ _ _ _ p => p
inductive St where
  | mk (kind : Nat) (exprs : List Ex) (kids : List St) (name : Bs) (type len place : Nat)
structure Pr where
  name : Bs
  type : Nat
  place : Nat
structure De where
  func : Bool
  static : Bool
  extern : Bool
  name : Bs
  type : Nat
  len : Nat
  inits : List Ex
  has : Bool
  params : List Pr
  body : St
  place : Nat
def noSt : St := .mk 0 [] [] [] 0 0 0
/-- what reading answers: something, and the tokens behind it; or the place and the error; or that there was no time -/
inductive R (α : Type) where
  | ok (a : α) (r : List Tok)
  | bad (place : Nat) (e : Nat)
  | out
def R.bind {α β : Type} (x : R α) (g : α → List Tok → R β) : R β :=
  match x with
  | .ok a r => g a r
  | .bad p e => .bad p e
  | .out => .out
def hd (ts : List Tok) : Tok := ts.headD ⟨0, [], 0⟩
def sees (ts : List Tok) (signs : List Bs) : Bool := signs.contains (hd ts).text
def want (ts : List Tok) (signs : List Bs) : R Bs := if sees ts signs then .ok (hd ts).text ts.tail else .bad (hd ts).place 11
def pName (ts : List Tok) : R Bs := if (hd ts).kind = 1 then .ok (hd ts).text ts.tail else .bad (hd ts).place 11
def kInt : Bs := [105, 110, 116]
def kDouble : Bs := [100, 111, 117, 98, 108, 101]
def kVoid : Bs := [118, 111, 105, 100]
def kStatic : Bs := [115, 116, 97, 116, 105, 99]
def kExtern : Bs := [101, 120, 116, 101, 114, 110]
def kIf : Bs := [105, 102]
def kElse : Bs := [101, 108, 115, 101]
def kWhile : Bs := [119, 104, 105, 108, 101]
def kReturn : Bs := [114, 101, 116, 117, 114, 110]
def kBreak : Bs := [98, 114, 101, 97, 107]
def kContinue : Bs := [99, 111, 110, 116, 105, 110, 117, 101]
def types : List Bs := [kInt, kDouble, kVoid]
def unaries : List Bs := [[45], [33], [126], [42], [38]]
def levels : List (List Bs) := [[[124, 124]], [[38, 38]], [[124]], [[94]], [[38]], [[61, 61], [33, 61]], [[60], [60, 61], [62], [62, 61]], [[60, 60], [62, 62]], [[43], [45]], [[42], [47], [37]]]
def level (s : Nat) : List Bs := levels.getD s []
def pointer (plain ptr : Nat) (ts : List Tok) : R Nat := if sees ts [[42]] then .ok ptr ts.tail else .ok plain ts
def pType (ts : List Tok) : R Nat :=
  (want ts types).bind fun t r => if t = kInt then pointer 1 3 r else if t = kDouble then pointer 2 4 r else .ok 0 r
def pLength (ts : List Tok) : R Nat :=
  if (hd ts).kind = 2 then
    if 1 ≤ val (hd ts).text ∧ val (hd ts).text ≤ 1000 then (want ts.tail [[93]]).bind fun _ r => .ok (val (hd ts).text) r else .bad (hd ts).place 1
  else .bad (hd ts).place 11
def pair (kind : Nat) (op : Bs) (l r : Ex) : Ex := .mk kind op [] 0 0 [l, r] 0 l.place
section
variable (rb : Bs → Nat)
mutual
def pExpr : Nat → Nat → List Tok → R Ex
  | 0, _, _ => .out
  | f + 1, deep, ts =>
    if 40 ≤ deep then .bad (hd ts).place 12 else
      (pBin f 0 (deep + 1) ts).bind fun left r =>
        if sees r [[61]] then (pExpr f (deep + 1) r.tail).bind fun x r2 => .ok (pair 6 [] left x) r2 else .ok left r
def pBin : Nat → Nat → Nat → List Tok → R Ex
  | 0, _, _, _ => .out
  | f + 1, s, deep, ts => if s = 10 then pUn f deep ts else (pBin f (s + 1) deep ts).bind fun left r => pOps f s deep left r
def pOps : Nat → Nat → Nat → Ex → List Tok → R Ex
  | 0, _, _, _, _ => .out
  | f + 1, s, deep, left, ts =>
    if sees ts (level s) then (pBin f (s + 1) deep ts.tail).bind fun x r => pOps f s deep (pair 5 (hd ts).text left x) r else .ok left ts
def pUn : Nat → Nat → List Tok → R Ex
  | 0, _, _ => .out
  | f + 1, deep, ts =>
    if 40 ≤ deep then .bad (hd ts).place 12 else
      if sees ts unaries then (pUn f (deep + 1) ts.tail).bind fun x r => .ok (.mk 4 (hd ts).text [] 0 0 [x] 0 (hd ts).place) r
      else if sees ts [[40]] && decide ((hd ts.tail).kind = 5) then
        (pType ts.tail).bind fun t r => (want r [[41]]).bind fun _ r2 => (pUn f (deep + 1) r2).bind fun x r3 => .ok (.mk 9 [] [] t 0 [x] 0 (hd ts).place) r3
      else pPost f (deep + 1) ts
def pPost : Nat → Nat → List Tok → R Ex
  | 0, _, _ => .out
  | f + 1, deep, ts => (pAtom f deep ts).bind fun x r => pIdx f deep x r
def pIdx : Nat → Nat → Ex → List Tok → R Ex
  | 0, _, _, _ => .out
  | f + 1, deep, x, ts =>
    if sees ts [[91]] then (pExpr f deep ts.tail).bind fun y r => (want r [[93]]).bind fun _ r2 => pIdx f deep (pair 8 [] x y) r2 else .ok x ts
def pAtom : Nat → Nat → List Tok → R Ex
  | 0, _, _ => .out
  | f + 1, deep, ts =>
    if (hd ts).kind = 2 then .ok (.mk 1 [] [] (val (hd ts).text) 0 [] 0 (hd ts).place) ts.tail
    else if (hd ts).kind = 3 then .ok (.mk 2 [] [] 0 (rb (hd ts).text) [] 0 (hd ts).place) ts.tail
    else if (hd ts).kind = 1 then
      if sees ts.tail [[40]] then (pArgs f deep ts.tail.tail).bind fun ks r => .ok (.mk 7 [] (hd ts).text 0 0 ks 0 (hd ts).place) r
      else .ok (.mk 3 [] (hd ts).text 0 0 [] 0 (hd ts).place) ts.tail
    else (want ts [[40]]).bind fun _ r => (pExpr f deep r).bind fun x r2 => (want r2 [[41]]).bind fun _ r3 => .ok x r3
def pArgs : Nat → Nat → List Tok → R (List Ex)
  | 0, _, _ => .out
  | f + 1, deep, ts => if sees ts [[41]] then .ok [] ts.tail else pList f 8 [41] deep ts
def pList : Nat → Nat → Bs → Nat → List Tok → R (List Ex)
  | 0, _, _, _, _ => .out
  | f + 1, most, ends, deep, ts => (pExpr f deep ts).bind fun x r => pMore f most ends deep [x] r
def pMore : Nat → Nat → Bs → Nat → List Ex → List Tok → R (List Ex)
  | 0, _, _, _, _, _ => .out
  | f + 1, most, ends, deep, acc, ts =>
    (want ts [[44], ends]).bind fun s r =>
      if s = [44] then if acc.length < most then (pExpr f deep r).bind fun x r2 => pMore f most ends deep (acc ++ [x]) r2 else .bad (hd r).place 5
      else .ok acc r
end
def pSimple (f kind place deep : Nat) (ts : List Tok) : R St :=
  if sees ts [[59]] then (want ts [[59]]).bind fun _ r => .ok (.mk kind [] [] [] 0 0 place) r
  else (pExpr rb f deep ts).bind fun x r => (want r [[59]]).bind fun _ r2 => .ok (.mk kind [x] [] [] 0 0 place) r2
def pLocal (f deep : Nat) (ts : List Tok) : R St :=
  (pType ts).bind fun t r => (pName r).bind fun n r2 =>
    (if sees r2 [[91]] then pLength r2.tail else .ok 0 r2).bind fun len r3 =>
      (if sees r3 [[61]] then (pExpr rb f deep r3.tail).bind fun x r4 => .ok [x] r4 else .ok [] r3).bind fun xs r5 =>
        (want r5 [[59]]).bind fun _ r6 => .ok (.mk 8 xs [] n t len (hd ts).place) r6
mutual
def pBlock : Nat → Nat → List Tok → R St
  | 0, _, _ => .out
  | f + 1, deep, ts => (want ts [[123]]).bind fun _ r => (pStmts f deep [] r).bind fun ks r2 => .ok (.mk 1 [] ks [] 0 0 (hd ts).place) r2
def pStmts : Nat → Nat → List St → List Tok → R (List St)
  | 0, _, _, _ => .out
  | f + 1, deep, acc, ts => if sees ts [[125]] then .ok acc ts.tail else (pStmt f deep ts).bind fun s r => pStmts f deep (acc ++ [s]) r
def pGuarded : Nat → Nat → Nat → Nat → List Tok → R (Ex × St)
  | 0, _, _, _, _ => .out
  | f + 1, kind, place, deep, ts =>
    (want ts [[40]]).bind fun _ r => (pExpr rb f deep r).bind fun x r2 => (want r2 [[41]]).bind fun _ r3 => (pStmt f deep r3).bind fun s r4 => .ok (x, s) r4
def pStmt : Nat → Nat → List Tok → R St
  | 0, _, _ => .out
  | f + 1, deep, ts =>
    if 40 ≤ deep then .bad (hd ts).place 12 else
    if sees ts [[123]] then pBlock f (deep + 1) ts
    else if sees ts types then pLocal rb f (deep + 1) ts
    else if sees ts [kIf] then
      (pGuarded f 2 (hd ts).place (deep + 1) ts.tail).bind fun g r =>
        if sees r [kElse] then (pStmt f (deep + 1) r.tail).bind fun s2 r2 => .ok (.mk 2 [g.1] [g.2, s2] [] 0 0 (hd ts).place) r2
        else .ok (.mk 2 [g.1] [g.2] [] 0 0 (hd ts).place) r
    else if sees ts [kWhile] then (pGuarded f 3 (hd ts).place (deep + 1) ts.tail).bind fun g r => .ok (.mk 3 [g.1] [g.2] [] 0 0 (hd ts).place) r
    else if sees ts [kReturn] then pSimple rb f 4 (hd ts).place (deep + 1) ts.tail
    else if sees ts [kBreak] then (want ts.tail [[59]]).bind fun _ r => .ok (.mk 5 [] [] [] 0 0 (hd ts).place) r
    else if sees ts [kContinue] then (want ts.tail [[59]]).bind fun _ r => .ok (.mk 6 [] [] [] 0 0 (hd ts).place) r
    else pSimple rb f 7 (hd ts).place (deep + 1) ts
end
def pParam (ts : List Tok) : R Pr := (pType ts).bind fun t r => (pName r).bind fun n r2 => .ok ⟨n, t, (hd ts).place⟩ r2
def pParMore : Nat → List Pr → List Tok → R (List Pr)
  | 0, _, _ => .out
  | f + 1, acc, ts =>
    (want ts [[44], [41]]).bind fun s r =>
      if s = [44] then if acc.length < 8 then (pParam r).bind fun x r2 => pParMore f (acc ++ [x]) r2 else .bad (hd r).place 5
      else .ok acc r
def pParams (f : Nat) (ts : List Tok) : R (List Pr) :=
  let r := if sees ts [kVoid] && decide ((hd ts.tail).text = [41]) then ts.tail else ts
  if sees r [[41]] then .ok [] r.tail else (pParam r).bind fun x r2 => pParMore f [x] r2
def pArrInits (f : Nat) (ts : List Tok) : R (Bool × List Ex) :=
  if sees ts [[61]] then (want ts.tail [[123]]).bind fun _ r => (pList rb f 2500 [125] 0 r).bind fun xs r2 => (want r2 [[59]]).bind fun _ r3 => .ok (true, xs) r3
  else (want ts [[59]]).bind fun _ r => .ok (false, []) r
def pBody (f : Nat) (ts : List Tok) : R (Bool × St) :=
  if sees ts [[59]] then .ok (false, noSt) ts.tail else (pBlock rb f 0 ts).bind fun b r => .ok (true, b) r
def pDecl (f : Nat) (ts : List Tok) : R De :=
  let static := sees ts [kStatic]
  let r1 := if static then ts.tail else ts
  let extern := !static && sees r1 [kExtern]
  let r2 := if extern then r1.tail else r1
  let place := (hd r2).place
  (pType r2).bind fun t r3 => (pName r3).bind fun n r4 => (want r4 [[59], [61], [91], [40]]).bind fun s r5 =>
    if s = [61] then (pExpr rb f 0 r5).bind fun x r6 => (want r6 [[59]]).bind fun _ r7 => .ok ⟨false, static, extern, n, t, 0, [x], true, [], noSt, place⟩ r7
    else if s = [91] then (pLength r5).bind fun len r6 => (pArrInits rb f r6).bind fun hx r7 => .ok ⟨false, static, extern, n, t, len, hx.2, hx.1, [], noSt, place⟩ r7
    else if s = [40] then (pParams f r5).bind fun ps r6 => (pBody rb f r6).bind fun hb r7 => .ok ⟨true, static, extern, n, t, 0, [], hb.1, ps, hb.2, place⟩ r7
    else .ok ⟨false, static, extern, n, t, 0, [], false, [], noSt, place⟩ r5
def pModule : Nat → List De → List Tok → R (List De)
  | 0, _, _ => .out
  | f + 1, acc, ts => if (hd ts).kind = 0 then .ok acc ts else (pDecl rb f ts).bind fun d r => pModule f (acc ++ [d]) r
/-- what Parse answers: the declarations, or the place and the error -/
inductive Ans where
  | ok (ds : List De)
  | bad (place : Nat) (e : Int)
  | out
def parse (f : Nat) (s : Bs) : Ans :=
  match lex s with
  | .error (p, e) => .bad p e
  | .ok ts => match pModule rb f [] ts with
    | .ok ds _ => .ok ds
    | .bad p e => .bad p (e : Int)
    | .out => .out
end
/-- int main() { return 1 + 2 * 3; } -/
def ex1 : Bs := [105, 110, 116, 32, 109, 97, 105, 110, 40, 41, 32, 123, 32, 114, 101, 116, 117, 114, 110, 32, 49, 32, 43, 32, 50, 32, 42, 32, 51, 59, 32, 125]
def ex2 : Bs := [105, 110, 116, 32, 97, 91, 48, 93, 59]
def ok1 : Ans → Bool
  | .ok [⟨true, false, false, _, 1, 0, [], true, [], .mk 1 [] [.mk 4 [.mk 5 [43] _ _ _ [_, .mk 5 [42] _ _ _ _ _ _] _ _] [] _ _ _ _] _ _ _ _, _⟩] => true
  | _ => false
theorem ok1_ : ok1 (parse (fun _ => 0) 100 ex1) = true := by decide +kernel
theorem ok2_ : (match parse (fun _ => 0) 100 ex2 with | .bad 6 1 => true | _ => false) = true := by decide +kernel
end Pa
end Go.Proofs.YtnlbhnmiekanfaaGreatDoor
