// Package trees tells what types there are, how many Kids expressions have, and which Decls are definitions or agree.
// Layers 12 to 14 ask it: see shared/doc/11-parse.md and shared/doc/12-check.md.
package trees

import "solder/api"

// IsNumber tells whether a type is a word's or a real's.
func IsNumber(typed int) bool {
	return typed == api.Int || typed == api.Real
}

// IsPointer tells whether a type is a pointer's.
func IsPointer(typed int) bool {
	return typed == api.PInt || typed == api.PReal
}

// PointerTo is the pointer to a number's type.
func PointerTo(typed int) int {
	if typed == api.Int {
		return api.PInt
	}
	return api.PReal
}

// Pointed is what a pointer's type points to.
func Pointed(typed int) int {
	if typed == api.PInt {
		return api.Int
	}
	return api.Real
}

// IsExpr tells whether an expression has as many Kids as one that was parsed.
func IsExpr(x api.Expr) bool {
	switch x.Kind {
	case api.ENum, api.EReal, api.EName:
		return len(x.Kids) == 0
	case api.EUnary, api.ECast:
		return len(x.Kids) == 1
	case api.EBinary, api.EAssign, api.EIndex:
		return len(x.Kids) == 2
	}
	return x.Kind == api.ECall
}
