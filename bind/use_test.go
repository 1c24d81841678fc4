package bind_test

import (
	"slices"
	"strings"
	"testing"

	"solder/api"
	"solder/bind"
	"solder/helps"
)

// asks is what stands ahead of the tests' uses: nothing of it is defined there.
const asks = "extern int x; extern double d; extern int *p; extern double *q; extern int a[3]; extern double b[2]; int f(int v, double w); void g(); int *h(int *v); "

// given has, for each name that asks asks for, its definition.
func given() map[string]string {
	return map[string]string{
		"x": "int x;", "d": "double d = 1.5;", "p": "int *p;", "q": "double *q;", "a": "int a[3];", "b": "double b[2] = {1.5};",
		"f": "int f(int v, double w) { return v; }", "g": "void g() { }", "h": "int *h(int *v) { return v; }",
	}
}

// use is where names stand, and which these are.
type use struct {
	text, names string
}

// inits are Inits that use names.
func inits() []use {
	return []use{
		{"int i = x;", "x"}, {"int i = -x;", "x"}, {"int i = 1 + x;", "x"}, {"int i = x * 2;", "x"}, {"int *i = &x;", "x"}, {"int *i = &a[1];", "a"}, {"int *i = &a[x];", "a x"},
		{"int *i = a;", "a"}, {"double *i = b + 1;", "b"}, {"double i = b[1];", "b"}, {"int i = *p;", "p"}, {"int i = p[0];", "p"}, {"int i = a[a[x]];", "a x"}, {"double i = (double) x;", "x"},
		{"int i = (int) d;", "d"}, {"int i = f(1, 1.5);", "f"}, {"int i = f(x, d);", "f x d"}, {"int *i = h(&x);", "h x"}, {"int *i = h(0);", "h"}, {"int i = *h(a);", "h a"},
		{"int i[3] = {1, 2, x};", "x"}, {"int i[3] = {x, a[1], f(1, *q)};", "x a f q"}, {"static int i = x;", "x"}, {"static double i[2] = {d, 1.5};", "d"}, {"int i = p == &x;", "p x"}, {"int i = x = 2;", "x"},
		{"int i = f(f(f(x, 1.5), 2.5), 3.5);", "f x"}, {"int i = !(~x & 1) || x && 1;", "x"},
	}
}

// stmts are statements that use names.
func stmts() []use {
	return []use{
		{"x;", "x"}, {"d;", "d"}, {"p;", "p"}, {"a;", "a"}, {"x = 1;", "x"}, {"x = x;", "x"}, {"d = 1.5;", "d"}, {"p = 0;", "p"}, {"p = a;", "p a"}, {"*p = x;", "p x"}, {"a[1] = x;", "a x"}, {"b[x] = d;", "b x d"},
		{"&x;", "x"}, {"&d;", "d"}, {"*&x;", "x"}, {"&a[1];", "a"}, {"&*p;", "p"}, {"&p[x];", "p x"}, {"(&x)[0];", "x"}, {"*a;", "a"}, {"q[0];", "q"}, {"*(b + x);", "b x"},
		{"g();", "g"}, {"f(1, 1.5);", "f"}, {"f(x, d);", "f x d"}, {"f(f(1, d), 2.5);", "f d"}, {"h(0);", "h"}, {"h(&x);", "h x"}, {"*h(p) = 1;", "h p"}, {"h(a)[x];", "h a x"}, {"putw(x);", "x"}, {"putd(d);", "d"}, {"x = getw();", "x"},
		{"(int) d;", "d"}, {"(double) x;", "x"}, {"x + 1;", "x"}, {"1 + x;", "x"}, {"1 && x;", "x"}, {"x || 0;", "x"}, {"0 == p;", "p"}, {"!x;", "x"}, {"-d;", "d"},
		{"if (x) ;", "x"}, {"if (1) x;", "x"}, {"if (1) ; else x;", "x"}, {"if (x) p; else d;", "x p d"}, {"if (1) g();", "g"}, {"while (x) ;", "x"}, {"while (0) x;", "x"}, {"while (f(1, d)) { p; }", "f d p"},
		{"return x;", "x"}, {"return f(1, 1.5);", "f"}, {"{ x; }", "x"}, {"{ { ; { x; } } }", "x"}, {"int i = x;", "x"}, {"double i = d * 2.0;", "d"}, {"int *i = &x;", "x"}, {"if (1) int i = x;", "x"}, {"return 0; x;", "x"}, {"while (1) { break; g(); }", "g"},
		{"1 + 2;", ""}, {"putw(getw()); putd(1.5);", ""}, {"int i; i = 1; &i;", ""}, {"int i[2]; i[1] = 2; *i;", ""}, {";", ""}, {"{ }", ""}, {"return v;", ""}, {"w = 1.5; v = 2;", ""},
	}
}

// uses are all of them, as texts.
func uses() (all []use) {
	for _, u := range inits() {
		all = append(all, use{asks + u.text, u.names})
	}
	for _, u := range stmts() {
		all = append(all, use{asks + "int z(int v, double w) { " + u.text + " }", u.names})
		all = append(all, use{asks + "static int z(int v, double w) { int k; k = 1; { " + u.text + " } if (k) { } return k; }", u.names})
	}
	return all
}

// definedBut are the definitions of names, but for one, each with something ahead of it.
func definedBut(names, but, ahead string) string {
	var all []string
	for _, name := range strings.Fields(names) {
		if name != but {
			all = append(all, ahead+given()[name])
		}
	}
	return strings.Join(all, " ")
}

// Names that are used in each place: defined by others, by nobody, but for one, and only as Static elsewhere.
func TestUses(t *testing.T) {
	for _, u := range uses() {
		needs(t, u.text, u.names)
		all := definedBut(u.names, "", "")
		inOrders(t, api.OK, begins, u.text, all)
		inOrders(t, api.OK, begins+" "+all, u.text, definedBut(u.names, "", "static "))
		for _, name := range strings.Fields(u.names) {
			rest := definedBut(u.names, name, "")
			inOrders(t, api.ErrNone, begins, "@"+u.text, rest)
			inOrders(t, api.ErrNone, begins+" "+rest, "@"+u.text, "static "+given()[name])
			// Where it is Static itself, it is no name that others must define.
			inOrders(t, api.OK, begins, rest, strings.Replace(u.text, ownDecl(name), "static "+given()[name], 1))
		}
	}
}

// ownDecl is how asks asks for a name.
func ownDecl(name string) string {
	for _, s := range strings.SplitAfter(asks, "; ") {
		told := strings.NewReplacer("(", " ", "[", " ", "*", " ", ";", " ").Replace(s)
		words := strings.Fields(told)
		if words[0] == "extern" && words[2] == name || words[1] == name {
			return strings.TrimSuffix(s, " ")
		}
	}
	return ""
}

// needs says which names a text uses and doesn't define, in any order.
func needs(t *testing.T, text, names string) {
	t.Helper()
	_, needed := bind.Faces(one(t, text))
	if want := slices.Sorted(slices.Values(strings.Fields(names))); !slices.Equal(needed, want) {
		t.Errorf("P14.1: Faces(%s): %q are needed, want %q", helps.Short(text), needed, want)
	}
}

// Names that nobody defines are told at the first that uses one, whatever others do.
func TestFirstToUse(t *testing.T) {
	inOrders(t, api.ErrNone, begins, "@extern int x; int f() { return x; }", "@extern int x; int g() { return x; }", "extern int x;")
	inOrders(t, api.ErrNone, begins, "@extern int x; int f() { return x; }", "@extern int y; int *g() { return &y; }", "static int x; int *h() { return &x; }")
	inOrders(t, api.ErrNone, begins, "extern int x; int f() { return 1; }", "@extern int y; int *p = &y;", "static int y;")
	fails(t, api.ErrNone, "extern int x; extern int y;", begins, "@extern int y; int g() { return y; }", "extern int x; int f() { return x; }")
	fails(t, api.ErrNone, "int f();", begins, "static int f() { return 1; } int g() { return f(); }", "@int f(); int h() { return f(); }")
	fails(t, api.ErrNone, "@int f(); int main() { return f(); }", "extern int f();", "static int f() { return 1; }")
	// What nobody uses nobody need define.
	inOrders(t, api.OK, begins, "extern int x; extern double y[3]; int f(); void g(int a); extern double *h();", "extern int x; int f();")
	inOrders(t, api.OK, begins, "int f(); int g() { return 1; } int h() { return g(); }", "static int f() { return 2; }")
	// Nor what is used of what the module defines itself.
	inOrders(t, api.OK, "int x; int *p = &x; int f(); int main() { return f(); } int f() { return x; }")
	inOrders(t, api.OK, begins, "static int x; static int f(); int *p = &x; int g() { return f(); } static int f() { return x; }", "static int f() { return 2; } int h() { return f(); }")
}

// What is known from the beginning is used, and locals are called as it is.
func TestKnownFromTheBeginning(t *testing.T) {
	binds(t, "int main() { putw(getw()); putd(1.5); return getw(); }", "int main() { putw(getw()); putd(1.5); return getw(); }")
	binds(t, "int a = getw(); int main() { return a; }", "int a = getw(); int main() { return a; }")
	binds(t, "void f(int $0) { putw($0); } int 1.a[2] = {1, getw()}; int main() { f(1.a[1]); return getw(); }", "void f(int a) { putw(a); }", "static int a[2] = {1, getw()}; void f(int a); int main() { f(a[1]); return getw(); }")
	binds(t, "int main() { int $0 = getw(); $0 = $0 + 1; return $0; }", "int main() { int getw = getw(); getw = getw + 1; return getw; }")
	binds(t, "int f(int $0) { return $0; } int main() { putw(1); return f(2); }", "int f(int putw) { return putw; }", "int f(int v); int main() { putw(1); return f(2); }")
	faces(t, "int f() { putw(getw()); putd(1.5); { int putw; putw = 1; } return getw(); }", "f", "")
	faces(t, "int a = getw(); int g(int x); int b = g(getw());", "a b", "g")
	inOrders(t, api.ErrMain, "int f() { return getw(); }", "void g() { putw(1); }", "void h() { putd(1.5); }")
}

// Params and locals that bear a name that is shared, in blocks within blocks: they use nothing.
func TestLocals(t *testing.T) {
	const head = "extern int x; extern double y[2]; int f(int v); "
	for _, s := range []string{
		"int g(int x) { return x; }", "int g(int x, int *y) { y[0] = x; return *y; }", "int g(double f) { return (int) f; }", "int g() { int x; x = 1; return x; }", "int g() { int x = 1; int y = x; int f = y; return f; }",
		"int g() { int x[2]; x[0] = 1; return *x; }", "int g() { { int x; { x = 1; } { double x; x = 1.5; } x = 2; } return 1; }", "int g(int x) { { double x; x = 1.5; { int *x; x = 0; { x = 0; } } } return x; }",
		"int g() { if (1) { int x; x = 1; } else { double x; x = 1.5; } return 1; }", "int g() { while (0) { int y; y = 1; } return 1; }", "int g(int *x) { int *y = &x[1]; &y[2]; y = x + 1; return *y; }",
		"int g(int x); int g(int y) { return y; }", "int x2; int g() { int x; { x = x2; } return x; }", "int g() { int x; return *&x; } int h(int x) { return -x; }", "int g(int f) { int x = f; return x + f; }",
	} {
		needs(t, head+s, "")
		inOrders(t, api.OK, begins, head+s, "static int x;")
		inOrders(t, api.OK, begins, head+s)
	}
	// Outside of their blocks, and in a local's own Exprs, the name means what it did.
	for _, s := range []string{
		"int g() { int x = x; return x; }", "int g() { { int x; x = 1; } return x; }", "int g() { x; int x; return x; }", "int g() { if (x) { int x; x = 1; } return 1; }", "int g() { if (1) int x; else x; return 1; }",
		"int g() { while (x) { int x = 1; x; } return 1; }", "int h(int x) { return x; } int g() { return x; }", "int g() { { { int x; } x; } return 1; }", "int g(int y) { { int x = y; { int x = x; } } return x; }",
		"int g() { int y[2]; return y[x]; }", "int g() { int y = x + 1; return y; }", "int g() { int a; { double x; } a = x; return a; }",
	} {
		needs(t, head+s, "x")
		inOrders(t, api.ErrNone, begins, "@"+head+s, "static int x;")
		inOrders(t, api.OK, begins, head+s, "int x;")
	}
}
