package check_test

import (
	"strings"
	"testing"

	"solder/api"
)

// marked is something wrong at the place that is marked.
type marked struct {
	text string
	e    api.Errno
}

// orderHead is what is known to all that is wrong below: nothing called b or c.
const orderHead = "int i; double d; int *p; double *q; int a[3]; int f(int x, double y); void v(); "

// wrongExprs are expressions with one wrong thing each.
func wrongExprs() []marked {
	return []marked{
		{"@b", api.ErrName}, {"@f", api.ErrName}, {"@b()", api.ErrName}, {"@i()", api.ErrName}, {"@putw", api.ErrName}, {"@b(1, 2.5)", api.ErrName},
		{"(@1 + 1.5)", api.ErrType}, {"@!d", api.ErrType}, {"@f(1)", api.ErrType}, {"@a[d]", api.ErrType}, {"(@1 = 1)", api.ErrType}, {"@(void) 1", api.ErrType}, {"@*i", api.ErrType}, {"@&1", api.ErrType}, {"(@v() + 1)", api.ErrType}, {"@putw(1.5)", api.ErrType}, {"(@p = i)", api.ErrType},
		{"(1 + @b)", api.ErrName}, {"f(1, @c)", api.ErrName}, {"a[@!d]", api.ErrType}, {"-@b", api.ErrName},
	}
}

// plain is without the mark.
func (m marked) plain() string {
	return strings.Replace(m.text, "@", "", 1)
}

// Of two Kids of which both are wrong, or that don't fit either, the first is told.
func TestKidsInOrder(t *testing.T) {
	for _, a := range wrongExprs() {
		for _, b := range wrongExprs() {
			for _, s := range []string{"A + B", "A % B", "A == B", "A && B", "A < B", "(A) = B", "(A)[B]", "f(A, B)", "f(A, B, 1)", "v(A, B)", "c(A, B)", "i(A, B)", "f(1, 1.5 + 2.5, A + B)", "f(A, 1) + B", "-(A) * -(B)", "!(double) (A) / B"} {
				s = strings.Replace(strings.Replace(s, "B", b.plain(), 1), "A", a.text, 1)
				wrong(t, orderHead+"void g() { "+s+"; }", a.e)
			}
		}
	}
}

// What stands in an expression is told ahead of what is wrong with itself.
func TestKidsFirst(t *testing.T) {
	for _, x := range wrongExprs() {
		for _, s := range []string{"1 = X", "1.5 = X", "X = 1", "X = 1.5", "1.5 % X", "X % 1.5", "1.5 << X", "!X", "-X", "~X", "*X", "&X", "(void) X", "(int *) X", "X[1]", "i[X]", "p[X]", "a = X", "f(X)", "f(X, 1)", "f(1, X)", "f(1, 1.5, X)", "v(X)", "b(X)", "b(1, X)", "i(X)", "putw(X)", "getw(X)", "f(1, X) + b", "putw(1, X)", "v() + X", "v(v(), X)", "p + X", "X - p", "p == X", "0 == X", "p = X", "f(1.5, X)", "i = d = X"} {
			s = strings.Replace(s, "X", "("+x.text+")", 1)
			wrong(t, orderHead+"void g() { "+s+"; }", x.e)
		}
	}
	// And of one that is right in itself what it stands in, ahead of what is further behind.
	for _, s := range []string{"@1.5 % 1 + b", "@1 + 1.5 + b", "(@1 = 1) + b", "@f(1) + b", "f(@1.5 % 1, b)", "f(@f(1), b)", "@(void) 1 + b", "@*i + b", "@&1 + b", "a[@!d] + b", "(@i[1])[b]", "(@1 = 2) = b", "i = @1.5 % 1 + b"} {
		wrong(t, orderHead+"void g() { "+s+"; }", api.ErrType)
	}
}

// wrongStmts are statements with one wrong thing each, right where they stand behind one another, but for that.
func wrongStmts() []marked {
	return []marked{
		{"@b;", api.ErrName}, {"@b = 1;", api.ErrName}, {"@c();", api.ErrName}, {"@1 + 1.5;", api.ErrType}, {"@return;", api.ErrType}, {"@return 1.5;", api.ErrType}, {"return @b;", api.ErrName}, {"@break;", api.ErrType}, {"@continue;", api.ErrType},
		{"if (@1.5) ;", api.ErrType}, {"if (@b) ;", api.ErrName}, {"while (@p) ;", api.ErrType}, {"while (@v()) ;", api.ErrType}, {"if (1) @b; else ;", api.ErrName}, {"if (1) ; else @b;", api.ErrName}, {"while (1) @b;", api.ErrName}, {"{ @b; }", api.ErrName}, {"{ ; { ; @break; } }", api.ErrType},
		{"@void x;", api.ErrType}, {"@int *x[2];", api.ErrType}, {"@int x[2] = 1;", api.ErrType}, {"@int x = 1.5;", api.ErrType}, {"int x = @b;", api.ErrName}, {"{ int y; @int y; }", api.ErrName}, {"{ int y; } @y;", api.ErrName},
	}
}

// Of two statements the first is told, behind one another and within others.
func TestStatementsInOrder(t *testing.T) {
	for _, a := range wrongStmts() {
		for _, b := range wrongStmts() {
			for _, s := range []string{"A B", "{ A } B", "A { B }", "{ { A } { B } }", "if (1) A else B", "if (1) { A } else { B }", "if (1) { A B }", "if (i) { A } B", "; A ; B ;", "int z = 1; { A z = 1.5; } B"} {
				// An if without else would take the else behind it; and two statements may not stand there.
				if strings.HasPrefix(s, "if (1) A") && strings.ContainsAny(a.text[:1], "i{") {
					continue
				}
				s = strings.Replace(strings.Replace(s, "B", b.plain(), 1), "A", a.text, 1)
				wrong(t, orderHead+"int g() { "+s+" }", a.e)
			}
		}
	}
}

// What stands in a statement is told ahead of itself; but of a local's name that its block has; and a condition's type
// right behind what is wrong in it.
func TestStatementsParts(t *testing.T) {
	for _, x := range wrongExprs() {
		for _, s := range []string{"return X;", "return (X) + 1.5;", "void z = X;", "int z[2] = X;", "int *z[2] = X;", "double *z = X;", "double z = X; int z;", "if (X) b;", "if (X) ; else b;", "while (X) b;", "while ((X) + 1.5) break;", "if ((X) * 1.5) ;", "X; b;", "{ X; } return 1;", "if (1) X; return 1;", "int z = z0 = X;"} {
			text := orderHead + "void g(int z0) { " + strings.Replace(s, "X", x.text, 1) + " }"
			wrong(t, text, x.e)
		}
		wrong(t, orderHead+"int g(int z) { @int z = "+x.plain()+"; }", api.ErrName)
		wrong(t, orderHead+"int g() { int z; @void z = "+x.plain()+"; }", api.ErrName)
		wrong(t, orderHead+"int g() { int z; { int z; @int z[2] = "+x.plain()+"; } }", api.ErrName)
		for _, s := range []string{"if (@d) X;", "if (@d) ; else X;", "while (@d) X;", "if (@p) { X; }", "while (@v()) while (X) ;", "if (@1 + 1.5) X;", "if (@i = 1.5) X;"} {
			wrong(t, orderHead+"void g() { "+strings.Replace(s, "X", x.plain(), 1)+" }", api.ErrType)
		}
		wrong(t, orderHead+"void g() { @return 1; "+x.plain()+"; }", api.ErrType)
		wrong(t, orderHead+"void g() { @break; "+x.plain()+"; }", api.ErrType)
		wrong(t, orderHead+"void g() { @void z; "+x.plain()+"; }", api.ErrType)
		wrong(t, orderHead+"void g() { @int z[2] = 1; "+x.plain()+"; }", api.ErrType)
	}
}

// wrongDecls are declarations with one wrong thing each, and no name in two of them.
func wrongDecls() []marked {
	return []marked{
		{"@int putw;", api.ErrName}, {"@void getw() { }", api.ErrName}, {"int t1; @int t1;", api.ErrName}, {"int t2; @int t2();", api.ErrName}, {"extern int t3; @double t3;", api.ErrType}, {"int t4(); static @int t4();", api.ErrType}, {"int t5(int x); @int t5(int x, int y) { }", api.ErrType},
		{"@void u1;", api.ErrType}, {"@int *u2[3];", api.ErrType}, {"extern @int u3 = 1;", api.ErrType}, {"@double main();", api.ErrType}, {"static @int main() { }", api.ErrType},
		{"int r1(@void x);", api.ErrType}, {"int r2(int x, @int x) { }", api.ErrName}, {"int i1 = @b;", api.ErrName}, {"int i2 = @1.5;", api.ErrType}, {"int i3[2] = {1, @1.5};", api.ErrType}, {"int i4[1] = {1, @2};", api.ErrRange}, {"int *i5 = @1;", api.ErrType}, {"int i6[3] = {1, @1 + 1.5, 2};", api.ErrType},
		{"int n1() { @b; }", api.ErrName}, {"int n2() { @return 1.5; }", api.ErrType}, {"int n3(int x) { @int x; }", api.ErrName}, {"void n4() { { @break; } }", api.ErrType}, {"void n5() { if (@1.5) ; }", api.ErrType},
	}
}

// Of two Decls the first is told, whatever is wrong in it; a Static function that lacks a body at last.
func TestDeclsInOrder(t *testing.T) {
	for _, a := range wrongDecls() {
		for _, b := range wrongDecls() {
			wrong(t, a.text+" "+b.plain(), a.e)
			wrong(t, "static int s(); "+a.text+" int ok() { } "+b.plain()+" static int u();", a.e)
		}
		wrong(t, "static int s(); "+a.text, a.e)
		wrong(t, a.text+" static int s();", a.e)
	}
}

// What may be wrong of one Decl, in the order in which it is told: whatever is further behind doesn't matter.
func TestDeclsParts(t *testing.T) {
	for _, c := range []marked{
		{"int f(); int g; @void putw(void x, int y, int y) { b; }", api.ErrName},
		{"int g; @void g(void x, int y, int y) { b; }", api.ErrName},
		{"int g() { } @double g(void x, int y, int y) { b; }", api.ErrName},
		{"int g(int x); @double g(void x, int y, int y) { b; }", api.ErrType},
		{"@void main(void x, int y, int y) { b; }", api.ErrType},
		{"void g(@void x, int y, int y) { b; }", api.ErrType},
		{"void g(int x, int y, @int y) { b; }", api.ErrName},
		{"void g(int x, int y) { @b; return 1; }", api.ErrName},
		{"void g(int x, int y) { @return 1; }", api.ErrType},
		{"@int putw[1] = {b, 1.5, 2};", api.ErrName},
		{"int g(); @void g[1] = {b, 1.5, 2};", api.ErrName},
		{"int g; @void g[1] = {b, 1.5, 2};", api.ErrName},
		{"int g; extern @void g[1] = {b, 1.5, 2};", api.ErrType},
		{"extern int g; @void g[1] = {b, 1.5, 2};", api.ErrType},
		{"@void g[1] = {b, 1.5, 2};", api.ErrType},
		{"extern @int g[1] = {b, 1.5, 2};", api.ErrType},
		{"@int main[1] = {b, 1.5, 2};", api.ErrType},
		{"int g[1] = {@b, 1.5, 2};", api.ErrName},
		{"int g[1] = {@1.5, b, 2};", api.ErrType},
		{"int g[1] = {1, @b + 1.5, 2};", api.ErrName},
		{"int g[1] = {1, @1.5, b};", api.ErrType},
		{"int g[1] = {1, @2, b};", api.ErrRange},
	} {
		wrong(t, c.text, c.e)
		wrong(t, "static int s(); "+c.text+" int s2 = b;", c.e)
	}
}
