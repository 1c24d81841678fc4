package fold

import (
	"strings"

	"solder/api"
	"solder/real"
	"solder/trees"
	"solder/word"
)

// address is the sign of what leads to a place.
const address = "&"

// folder goes through one expression.
type folder struct {
	decls []api.Decl
	left  int // how many parts may still come: each part of an expression that was parsed has a token of its own
}

// constant answers an expression's, or throws.
func constant(m api.Module, x api.Expr) Const {
	f := folder{m.Decls, api.MaxTokens}
	return f.expr(x)
}

// part counts one more expression. Of one that wasn't parsed nothing is promised, but that the call ends: it may lack
// Kids, or hold itself.
func (f *folder) part(x api.Expr) {
	demand(f.left > 0 && trees.IsExpr(x), x.At)
	f.left--
}

func (f *folder) exprs(l []api.Expr) []Const {
	var all []Const
	for _, x := range l {
		all = append(all, f.expr(x))
	}
	return all
}

func (f *folder) expr(x api.Expr) Const {
	f.part(x)
	c, is := f.made(x, f.exprs(f.asked(x)))
	demand(is, x.At)
	return c
}

// asked are the expressions that must be constant for x to be so: its Kids, but of & of a name or an index not that
// itself, which is read nowhere.
func (f *folder) asked(x api.Expr) []api.Expr {
	if x.Kind == api.EUnary && x.Op == address {
		kid := x.Kids[0]
		if kid.Kind == api.EName || kid.Kind == api.EIndex {
			f.part(kid)
			return kid.Kids
		}
	}
	return x.Kids
}

// made is what an expression is, if that is constant; of are the constants that were asked for.
func (f *folder) made(x api.Expr, of []Const) (Const, bool) {
	switch x.Kind {
	case api.ENum:
		return number(x), true
	case api.EReal:
		return ofReal(real.Canon(x.Bits)), true
	case api.EName:
		d, is := f.variable(x.Name)
		return place(d), is && d.Len > 0
	case api.EUnary:
		if x.Op == address {
			return f.addressed(x.Kids[0], of)
		}
		return unary(x.Op, of[0])
	case api.EBinary:
		return f.binary(x.Op, of[0], of[1])
	case api.ECast:
		return cast(int(x.Num), of[0])
	}
	return Const{}, false
}

// number is an ENum's: with a pointer's type it is nothing.
func number(x api.Expr) Const {
	if trees.IsPointer(x.Type) {
		return Const{Type: x.Type}
	}
	return ofWord(x.Num)
}

// variable is the Decl of one that there may be places of: it has words or reals. Locals have names that none has.
func (f *folder) variable(name string) (api.Decl, bool) {
	for _, d := range f.decls {
		if !d.Func && d.Name == name {
			return d, trees.IsNumber(d.Type)
		}
	}
	return api.Decl{}, false
}

// place is that of a variable's first element.
func place(d api.Decl) Const {
	return Const{Type: trees.PointerTo(d.Type), Name: strings.Clone(d.Name)}
}

// addressed is the place of an expression.
func (f *folder) addressed(x api.Expr, of []Const) (Const, bool) {
	switch x.Kind {
	case api.EName:
		d, is := f.variable(x.Name)
		return place(d), is
	case api.EIndex:
		return f.moved("+", of[0], of[1])
	}
	return Const{}, false
}

// binary is an operator of two constants, the first of them a place or not.
func (f *folder) binary(op string, a, b Const) (Const, bool) {
	if a.Name != "" {
		return f.moved(op, a, b)
	}
	return binary(op, a, b)
}

// moved is a place so many elements on, or back.
func (f *folder) moved(op string, a, b Const) (Const, bool) {
	d, is := f.variable(a.Name)
	by := word.Signed(b.Word)
	switch op {
	case "+":
		a.Off += by
	case "-":
		a.Off -= by
	default:
		return Const{}, false
	}
	return a, is && b.Type == api.Int && 0 <= a.Off && a.Off <= elements(d)
}

// elements is how many a variable has.
func elements(d api.Decl) int {
	return max(1, d.Len)
}
