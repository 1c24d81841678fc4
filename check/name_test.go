package check_test

import (
	"strconv"
	"strings"
	"testing"

	"solder/api"
)

// What is known from the beginning: called with what it takes, with less, more and others; used as a variable.
func TestKnownFromTheBeginning(t *testing.T) {
	becomes(t, "void f() { putw(1); putd(1.5); getw(); }", "void f() {putw.void(1.int); putd.void(1.5.double); getw.int();}")
	becomes(t, "int a = getw();", "int a = getw.int();")
	right(t, "int *p; double *q; void f(int x) { putw(x); putw(*p); putw(p == 0); putw(getw()); putd(*q); putd((double) getw()); x = getw() + getw(); }")
	for _, s := range []string{"@putw()", "@putw(1, 2)", "@putw(1.5)", "@putw(p)", "@putw(q)", "@putw(putw(1))", "@putd()", "@putd(1.5, 1.5)", "@putd(1)", "@putd(0)", "@putd(p)", "@putd(q)", "@putd(getw())", "@getw(1)", "@getw(0)", "@getw(1.5)", "@getw(p)", "@getw(getw())"} {
		wrong(t, "int *p; double *q; void f() { "+s+"; }", api.ErrType)
	}
	for _, s := range []string{"1 + @getw", "@getw", "@putw", "@putd", "*@putw", "&@getw", "@getw = 1", "@putw[1]", "(int) @getw", "@getw == getw", "putw(@getw)"} {
		wrong(t, "void f() { "+s+"; }", api.ErrName)
	}
	wrong(t, "void f() { int x; x = @putw; }", api.ErrName)
	wrong(t, "void f() { int x = @getw; }", api.ErrName)
	wrong(t, "void f() { @int x = putw(1); }", api.ErrType)
	wrong(t, "void f() { @int x = putd(1.5); }", api.ErrType)
	wrong(t, "void f() { @double x = getw(); }", api.ErrType)
	wrong(t, "int f() { @return putw(1); }", api.ErrType)
	wrong(t, "void f() { @return putw(1); }", api.ErrType)
	wrong(t, "double f() { @return getw(); }", api.ErrType)
	wrong(t, "int a = @putw(1);", api.ErrType)
	wrong(t, "double a = @getw();", api.ErrType)
}

// Told as a Decl's each is wrong, whatever the Decl; a local's or a param's it may be, and then it is no function.
func TestToldFromTheBeginning(t *testing.T) {
	for _, name := range []string{"putw", "putd", "getw"} {
		for _, s := range []string{"@int N;", "static @int N;", "extern @int N;", "@void N;", "@double *N;", "@int N[2];", "@int N[2] = {1, 2, 3};", "@int N = 1;", "@int N = N;", "@int N = b;", "@void N();", "@void N(int x);", "@void N(double x);", "@int N();", "@int N() { return 1; }", "static @int N();", "extern @int N();", "@void N(void x) { x = y; }", "@int *N[2];", "extern @int N = 1;"} {
			wrong(t, strings.ReplaceAll(s, "N", name), api.ErrName)
			wrong(t, strings.ReplaceAll("int a; "+s+" int a;", "N", name), api.ErrName)
		}
		becomes(t, strings.ReplaceAll("int f(int N) { return N; }", "N", name), "int f(int $0) {return $0.int;}")
		becomes(t, strings.ReplaceAll("int f() { int N = 1; N = 2; return N + 1; }", "N", name), "int f() {int $0 = 1.int; =.int($0.int, 2.int); return +.int($0.int, 1.int);}")
		wrong(t, strings.ReplaceAll("void f(int N) { @N(1); }", "N", name), api.ErrName)
		wrong(t, strings.ReplaceAll("void f() { double N; @N(1.5); }", "N", name), api.ErrName)
		wrong(t, strings.ReplaceAll("void f() { int N[2]; @N(); }", "N", name), api.ErrName)
		wrong(t, strings.ReplaceAll("void f() { { int N; } @N; }", "N", name), api.ErrName)
	}
	becomes(t, "void f() { { int putw; putw = 1; } putw(2); }", "void f() {{int $0; =.int($0.int, 1.int);} putw.void(2.int);}")
	// A local isn't known within its own Exprs: there it is still the function.
	becomes(t, "void f() { int getw = getw(); putw(getw); }", "void f() {int $0 = getw.int(); putw.void($0.int);}")
	// Names near those are others.
	for _, s := range []string{"putr", "Putw", "putw1", "put", "getd", "print", "_getw"} {
		right(t, "void "+s+"(int x, double y);")
		wrong(t, "void f() { @"+s+"(1); }", api.ErrName)
	}
}

// Ahead of its first Decl, at it, and behind it.
func TestFirstDecl(t *testing.T) {
	wrong(t, "int a = @b; int b;", api.ErrName)
	wrong(t, "int f() { return @b; } int b;", api.ErrName)
	wrong(t, "int f() { return @b; } extern int b;", api.ErrName)
	wrong(t, "int f() { return @g(); } int g() { return 1; }", api.ErrName)
	wrong(t, "int a = @g(); int g();", api.ErrName)
	wrong(t, "int *p = &@b; int b;", api.ErrName)
	becomes(t, "int a = a;", "int a = a.int;")
	becomes(t, "int *p = &*p;", "int* p = &.int*(*.int(p.int*));")
	becomes(t, "double a[2] = {a[1], *a};", "double a[2] = {[].double(a[].double*, 1.int), *.double(a[].double*)};")
	becomes(t, "int f() { return f(); }", "int f() {return f.int();}")
	becomes(t, "int f(int n) { if (n < 2) return n; return f(n - 1) + f(n - 2); }", "int f(int $0) {if (<.int($0.int, 2.int)) return $0.int; return +.int(f.int(-.int($0.int, 1.int)), f.int(-.int($0.int, 2.int)));}")
	right(t, "int b; int a = b;")
	right(t, "extern int b; int f() { return b; } int b = 1;")
	right(t, "int g(); int f() { return g(); } int g() { return f(); }")
	right(t, "static int g(); int f() { return g(); } static int g() { return f(); }")
	right(t, "int f(); int a = f(); int f() { return a; }")
	wrong(t, "int f() { return @F; } int g() { return f(); }", api.ErrName)
	wrong(t, "int a; int f() { return @A; }", api.ErrName)
}

// A function's name is no variable's, and the other way round; a name of neither is known nowhere.
func TestOtherThings(t *testing.T) {
	for _, s := range []string{"@f", "@f = 1", "*@f", "&@f", "@f[0]", "-@f", "@f + 1", "1 + @f", "a = @f", "g(@f)", "@f == 0", "(int) @f"} {
		wrong(t, "int f(); int a; void g(int x) { "+s+"; }", api.ErrName)
		wrong(t, "int a; void f(); void g(int x) { "+s+"; }", api.ErrName)
		wrong(t, "int a; void g(int x) { "+s+"; }", api.ErrName)
	}
	for _, s := range []string{"int v", "double v", "int *v", "int v[3]", "extern int v"} {
		wrong(t, s+"; void g() { @v(); }", api.ErrName)
		wrong(t, s+"; void g() { @v(1, 1.5); }", api.ErrName)
		wrong(t, s+"; int a = @v();", api.ErrName)
	}
	wrong(t, "void g(int v) { @v(); }", api.ErrName)
	wrong(t, "void g(int g) { @g(1); }", api.ErrName)
	wrong(t, "void g() { int g; @g(); }", api.ErrName)
	becomes(t, "int g(int g) { return g; }", "int g(int $0) {return $0.int;}")
	becomes(t, "int g(int x) { int g = g(x); return g; }", "int g(int $0) {int $1 = g.int($0.int); return $1.int;}")
	becomes(t, "int g(int x) { { int g; g = x; } return g(x); }", "int g(int $0) {{int $1; =.int($1.int, $0.int);} return g.int($0.int);}")
}

// Params and locals in blocks in one another.
func TestBlocks(t *testing.T) {
	const head = "int x; double y; int f(int p, double *q) { "
	for _, c := range []struct {
		s string
		e api.Errno
	}{
		{"@int p;", api.ErrName}, {"@double q;", api.ErrName}, {"@void p;", api.ErrName}, {"@int p[2] = 1;", api.ErrName}, {"@int p = b;", api.ErrName}, {"@int q = p;", api.ErrName},
		{"int x; @int x;", api.ErrName}, {"int x; @double x[2];", api.ErrName}, {"int x; ; 1; { } @int x;", api.ErrName}, {"int x; int f; @int x;", api.ErrName},
		{"int x; @int x = 1.5;", api.ErrName}, {"int x; @int x = b;", api.ErrName}, {"int x; @void x;", api.ErrName},
		{"{ int p; }", 0}, {"{ int p; @int p; }", api.ErrName}, {"{ { double p; } int p; }", 0}, {"{ int p; { int p; { int p; } } }", 0}, {"{ int x; } { int x; } int x;", 0}, {"{ int z; } @z;", api.ErrName}, {"{ int z; } { @z; }", api.ErrName}, {"{ { int z; } @z; }", api.ErrName},
		{"int z; { z = 1; }", 0}, {"{ @z = 1; } int z;", api.ErrName}, {"@z = 1; int z;", api.ErrName}, {"int z; { int z; z; } z = 1;", 0},
		{"if (1) int z; @z = 1;", api.ErrName}, {"if (1) int z; else @z = 1;", api.ErrName}, {"if (1) int z; else int z; int z;", 0}, {"if (1) ; else int z; @z;", api.ErrName}, {"while (1) int z; @z;", api.ErrName}, {"while (1) int z; int z;", 0},
		{"if (1) int p;", 0}, {"while (1) int p;", 0}, {"if (1) { int p; @int p; }", api.ErrName}, {"if (1) int p; else double p;", 0}, {"int z; if (z) int z; z = 2;", 0}, {"int z; while (z) double z; z = 2;", 0}, {"if (1) if (1) int z; else @z;", api.ErrName},
		{"while (1) { int z = 1; z; } @z;", api.ErrName}, {"while (@z) { int z; }", api.ErrName}, {"if (@z) int z;", api.ErrName},
		{"int z = @z;", api.ErrName}, {"int x = x;", 0}, {"int x = x + 1; { int x = x; }", 0}, {"int p2 = p;", 0}, {"{ int p = p; }", 0}, {"{ @int q = q; }", api.ErrType}, {"@int y = y;", api.ErrType}, {"{ @double p = p; }", api.ErrType}, {"{ double *q = q; }", 0}, {"int z = @z + x;", api.ErrName}, {"int *z = &@z;", api.ErrName}, {"int z[2]; z[0] = z[1];", 0},
		{"double x = y; @x = 1;", api.ErrType}, {"double x; { int x; x = 1; } x = 1.5;", 0}, {"double x; { int x; } @x = 1;", api.ErrType}, {"int y; y = 1; { double y; y = 1.5; { int *y; y = 0; } y = 2.5; } y = 3;", 0},
		{"int f; f = 1;", 0}, {"int f; @f(1, q);", api.ErrName}, {"{ int f; } f(1, q);", 0},
		{"{ int p; p = 1; } p = 2; { double p; p = 1.5; }", 0}, {"{ double p; } @p = 1.5;", api.ErrType},
	} {
		is(t, head+c.s+" return 0; }", c.e)
		is(t, head+"{ } if (1) { } "+c.s+" return 0; }", c.e)
	}
	// What the function has told is gone behind it.
	wrong(t, "int f(int p) { int z; } int g() { @p; }", api.ErrName)
	wrong(t, "int f(int p) { int z; } int g() { @z; }", api.ErrName)
	wrong(t, "int f(int p); int g() { @p; }", api.ErrName)
	wrong(t, "int f(int p) { } int a = @p;", api.ErrName)
	wrong(t, "int f(int p); int f(int q) { return @p; }", api.ErrName)
	right(t, "int f(int p) { int z; } int g(int p) { int z; } int p; int z;")
	// In the same place behind one another, and one within the other, as deep as may be.
	right(t, "void f() { "+strings.Repeat("{ int x; ", 39)+strings.Repeat("} ", 39)+"}")
	wrong(t, "void f() { "+strings.Repeat("{ int x; ", 38)+"@int x; "+strings.Repeat("} ", 38)+"}", api.ErrName)
	right(t, "void f() { "+strings.Repeat("int x; if (1) { ", 18)+"x = 1;"+strings.Repeat("} ", 18)+"}")
}

// Params and locals are numbered in the order of the text, in each function anew.
func TestNumbering(t *testing.T) {
	becomes(t, "int f(double x) { return (int) x; }", "int f(double $0) {return (int).int($0.double);}")
	becomes(t, "int f(int a, double b, int *c, double *d); int g(int a);", "int f(int $0, double $1, int* $2, double* $3); int g(int $0);")
	becomes(t, "void f() { int a; { int b; int a; { int c; a; } b; } int d; d; a; }", "void f() {int $0; {int $1; int $2; {int $3; $2.int;} $1.int;} int $4; $4.int; $0.int;}")
	becomes(t, "void f(int a) { if (a) int b; else int b; while (a) int b = a; { int a = a; a; } a; } void g() { int a; }",
		"void f(int $0) {if ($0.int) int $1; else int $2; while ($0.int) int $3 = $0.int; {int $4 = $0.int; $4.int;} $0.int;} void g() {int $0;}")
	becomes(t, "int a; int f(int b) { int c = a; return b + c; } int g(int c) { int b = a; return b + c; }",
		"int a; int f(int $0) {int $1 = a.int; return +.int($0.int, $1.int);} int g(int $0) {int $1 = a.int; return +.int($1.int, $0.int);}")
	becomes(t, "int f(int a); int f(int b) { return b; } int f(int c);", "int f(int $0); int f(int $0) {return $0.int;} int f(int $0);")
	// More than ten of them.
	s, want := "", ""
	for n := range 120 {
		s += " int v" + strconv.Itoa(n) + ";"
		want += " int $" + strconv.Itoa(n+2) + ";"
	}
	becomes(t, "void f(int a, int b) {"+s+" v117 = b; }", "void f(int $0, int $1) {"+strings.TrimSpace(want)+" =.int($119.int, $1.int);}")
}

// An EName of an array alone has Num 1: at the top, in a function, in each place.
func TestArrays(t *testing.T) {
	becomes(t, "int a[2]; double b[1]; int c; int *f() { int a2[3]; double *p = b; a2[c] = *a; c = a2 == a; return a + c; }",
		"int a[2]; double b[1]; int c; int* f() {int $0[3]; double* $1 = b[].double*; =.int([].int($0[].int*, c.int), *.int(a[].int*)); =.int(c.int, ==.int($0[].int*, a[].int*)); return +.int*(a[].int*, c.int);}")
	becomes(t, "extern int a[2]; void f(int *p) { p = a; { int a; a = 1; { double a[1]; a; } } a; p; f(a); }",
		"extern int a[2]; void f(int* $0) {=.int*($0.int*, a[].int*); {int $1; =.int($1.int, 1.int); {double $2[1]; $2[].double*;}} a[].int*; $0.int*; f.void(a[].int*);}")
	becomes(t, "int a[1000]; int *p = a;", "int a[1000]; int* p = a[].int*;")
	becomes(t, "double a[3]; double *p = &a[2];", "double a[3]; double* p = &.double*([].double(a[].double*, 2.int));")
	// An array of one is one.
	becomes(t, "int a[1]; int f() { return *a; }", "int a[1]; int f() {return *.int(a[].int*);}")
}
