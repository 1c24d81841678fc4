package check

import (
	"solder/api"
	"solder/trees"
)

// unary is the type of an EUnary, and whether it may have such a Kid.
func unary(op string, kid api.Expr) (int, bool) {
	switch op {
	case "-":
		return kid.Type, trees.IsNumber(kid.Type)
	case "!", "~":
		return api.Int, kid.Type == api.Int
	case "*":
		return trees.Pointed(kid.Type), trees.IsPointer(kid.Type)
	case "&":
		return trees.PointerTo(kid.Type), isLvalue(kid) && trees.IsNumber(kid.Type)
	}
	return api.Void, false
}

// binary is the type of an EBinary, and whether it may have such Kids.
func binary(op string, a, b *api.Expr) (int, bool) {
	switch op {
	case "+", "-":
		return a.Type, areNumbers(a, b) || trees.IsPointer(a.Type) && b.Type == api.Int
	case "*", "/":
		return a.Type, areNumbers(a, b)
	case "%", "<<", ">>", "&", "^", "|", "&&", "||":
		return api.Int, a.Type == api.Int && b.Type == api.Int
	case "<", "<=", ">", ">=":
		return api.Int, areNumbers(a, b)
	case "==", "!=":
		return api.Int, areNumbers(a, b) || arePointers(a, b)
	}
	return api.Void, false
}

// areNumbers tells whether a and b are two Ints or two Reals.
func areNumbers(a, b *api.Expr) bool {
	return trees.IsNumber(a.Type) && a.Type == b.Type
}

// arePointers tells whether a and b are of one pointer type, or one of them is a nought that becomes the other's.
func arePointers(a, b *api.Expr) bool {
	return trees.IsPointer(a.Type) && fits(b, a.Type) || trees.IsPointer(b.Type) && fits(a, b.Type)
}

// fits tells whether x may stand where a type is asked for: a nought becomes the pointer that is asked for.
func fits(x *api.Expr, typed int) bool {
	if trees.IsPointer(typed) && x.Kind == api.ENum && x.Num == 0 {
		x.Type = typed
	}
	return x.Type == typed
}

// isLvalue tells whether an expression is one. A function's name is no expression that comes here.
func isLvalue(x api.Expr) bool {
	switch x.Kind {
	case api.EName:
		return x.Num == 0
	case api.EIndex:
		return true
	}
	return x.Kind == api.EUnary && x.Op == "*"
}
