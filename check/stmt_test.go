package check_test

import (
	"strings"
	"testing"

	"solder/api"
)

// unmarked is a form's text in a statement that is marked itself.
func unmarked(s string, f form) string {
	return strings.Replace(s, "X", f.plain(), 1)
}

// Each form as a condition: it must be an Int.
func TestConditions(t *testing.T) {
	for _, f := range forms() {
		e := api.OK
		if f.typed() != 'i' {
			e = api.ErrType
		}
		for _, s := range []string{"if (X) ;", "if (X) ; else ;", "if (X) { } else { }", "while (X) ;", "while (X) { }", "if (1) while (X) ; else ;", "if (1) ; else if (X) ;"} {
			is(t, inFunction("void", strings.Replace(s, "X", f.text, 1)), e)
		}
	}
	wrong(t, "void f() { if (@f) ; }", api.ErrName)
	wrong(t, "void f() { while (@f()) ; }", api.ErrType)
	wrong(t, "void f(double d) { if (@d == 1) ; }", api.ErrType)
	wrong(t, "void f(double d) { if (@d = 1.5) ; }", api.ErrType)
	right(t, "void f(double d) { if (d == 1.5) ; while (d < 2.5 && !(d != d)) ; }")
}

// Each form in a return of a function of each type, and none.
func TestReturns(t *testing.T) {
	for n := range letters {
		typed := letters[n]
		if typed == '0' {
			continue
		}
		e := api.ErrType
		if typed == 'v' {
			e = api.OK
		}
		is(t, inFunction(letterText(typed), "@return;"), e)
		is(t, inFunction(letterText(typed), "while (1) { if (i) @return; }"), e)
		for _, f := range forms() {
			e := api.ErrType
			if fitsAsked(f, typed) {
				e = api.OK
			}
			is(t, inFunction(letterText(typed), unmarked("@return X;", f)), e)
			is(t, inFunction(letterText(typed), unmarked("if (1) { ; @return X; } else while (1) { }", f)), e)
		}
	}
	// None need be there; of two the first is told.
	right(t, "int f() { } int *g() { ; } double h() { while (0) return 1.5; } void v() { } int main() { }")
	wrong(t, "int f() { return 1; @return 1.5; return; }", api.ErrType)
	wrong(t, "int f() { @return; return 1.5; }", api.ErrType)
	wrong(t, "void f() { @return f(); }", api.ErrType)
	wrong(t, "void f() { @return (1); }", api.ErrType)
	// The function that it stands in is the one that is asked.
	right(t, "int f() { return 1; } double g() { return 1.5; } void h() { return; } int *i() { return 0; }")
	wrong(t, "int f() { return 1; } double g() { @return 1; }", api.ErrType)
	wrong(t, "double g(); int f() { @return g(); } double g() { return 1.5; }", api.ErrType)
	wrong(t, "int f(); void g() { @return 1; } int f() { return 1; }", api.ErrType)
	becomes(t, "int *f(int *p) { if (p == 0) return 0; return p; }", "int* f(int* $0) {if (==.int($0.int*, 0.int*)) return 0.int*; return $0.int*;}")
}

// break and continue within an SWhile, however deep, and without one.
func TestLeaving(t *testing.T) {
	for _, s := range []string{"break;", "continue;"} {
		for _, c := range []string{"while (1) X", "while (1) { X }", "while (1) { ; { { X } } }", "while (1) if (1) X", "while (1) if (1) ; else X", "while (1) { if (1) { X } else X }", "while (1) while (1) X", "while (1) { while (1) ; X }", "if (1) while (1) X", "while (0) { X X }", "while (1) { } while (1) X", "while (1) { int a; X int b; }"} {
			right(t, "void f() { "+strings.ReplaceAll(c, "X", s)+" }")
		}
		for _, c := range []string{"@X", "{ @X }", "if (1) @X", "if (1) ; else @X", "while (1) ; @X", "while (1) X @X", "while (1) { X } @X", "{ while (1) X } @X", "if (1) while (1) X else @X", "if (1) { while (1) X @X }", "while (1) { while (1) X } @X"} {
			wrong(t, "void f() { "+strings.ReplaceAll(c, "X", s)+" }", api.ErrType)
		}
		wrong(t, "void g() { while (1) "+s+" } void f() { @"+s+" }", api.ErrType)
		right(t, "void f() { "+strings.Repeat("while (1) { ", 18)+s+strings.Repeat(" "+s+" }", 18)+" }")
		wrong(t, "void f() { "+strings.Repeat("while (1) { ", 18)+strings.Repeat(" "+s+" }", 18)+" @"+s+" }", api.ErrType)
	}
	// No statement behind an SWhile is within it, and a condition is none.
	right(t, "void f() { while (1) { break; continue; } }")
	wrong(t, "void f() { while (@1.5) break; }", api.ErrType)
}

// Locals of each type, with a Len and without, with each form and without.
func TestLocals(t *testing.T) {
	for n := range letters {
		typed := letters[n]
		if typed == '0' {
			continue
		}
		text := letterText(typed)
		plain, array := api.OK, api.OK
		if typed == 'v' {
			plain = api.ErrType
		}
		if typed != 'i' && typed != 'd' {
			array = api.ErrType
		}
		is(t, inFunction("void", "@"+text+" x;"), plain)
		is(t, inFunction("void", "if (1) @"+text+" x; else ;"), plain)
		is(t, inFunction("void", "@"+text+" x[1];"), array)
		is(t, inFunction("void", "@"+text+" x[1000];"), array)
		is(t, inFunction("void", "{ @"+text+" x[7]; }"), array)
		for _, f := range forms() {
			e := api.ErrType
			if typed != 'v' && fitsAsked(f, typed) {
				e = api.OK
			}
			is(t, inFunction("void", unmarked("@"+text+" x = X;", f)), e)
			is(t, inFunction("void", unmarked("while (1) { @"+text+" x = X; }", f)), e)
			wrong(t, inFunction("void", unmarked("@"+text+" x[3] = X;", f)), api.ErrType)
		}
	}
	becomes(t, "void f() { int a = 1; double b; int *c = &a; double *d = 0; int e[2]; double g[3]; { int *h = e; double i = b; } }",
		"void f() {int $0 = 1.int; double $1; int* $2 = &.int*($0.int); double* $3 = 0.double*; int $4[2]; double $5[3]; {int* $6 = $4[].int*; double $7 = $1.double;}}")
	wrong(t, "void f() { @int x = f(); }", api.ErrType)
	wrong(t, "void f() { int x; @x[0]; }", api.ErrType)
	wrong(t, "void f() { int x[2]; @x = 1; }", api.ErrType)
}

// Each form alone, and none: whatever type it has.
func TestAlone(t *testing.T) {
	for _, f := range forms() {
		right(t, inFunction("void", f.plain()+"; { "+f.plain()+"; } if (1) "+f.plain()+"; else "+f.plain()+"; while (0) "+f.plain()+";"))
	}
	becomes(t, "void f() { ; {} {;} { f(); ; } if (1) ; else {} while (0) ; }", "void f() {; {} {;} {f.void(); ;} if (1.int) ; else {} while (0.int) ;}")
	becomes(t, "int f(int a) { while (a < 9) { if (a == 3) break; else if (a) continue; a = a + 1; } return a; }",
		"int f(int $0) {while (<.int($0.int, 9.int)) {if (==.int($0.int, 3.int)) break; else if ($0.int) continue; =.int($0.int, +.int($0.int, 1.int));} return $0.int;}")
}
