package bind_test

import (
	"strings"
	"testing"

	"solder/api"
	"solder/bind"
	"solder/helps"
)

// The program's Decls, in order, without those that are no definitions, and without Extern and Static.
func TestDecls(t *testing.T) {
	const main = "int main() { return 0; }"
	binds(t, "int 0.x; int f() { return 0.x; } "+main, "static int x; int f() { return x; }", begins)
	binds(t, "int c; int a; int b; "+main, "int c; int a;", "int b; "+begins)
	binds(t, "int b; "+main+" int c; int a;", "int b; "+begins, "int c; int a;")
	binds(t, main, "extern int x; int f(); void g(int v); extern double h(); extern double a[3];", begins, "int main(); extern int x;")
	binds(t, "int x; "+main+" int f() { }", "extern int x; int x; extern int x;", "int main(); "+begins+" int main(void);", "int f(); extern int f() { } int f();")
	binds(t, "int f(int $0) { return $0; } "+main, "extern int f(int v); extern int f(int w) { return w; } extern int f(int u);", begins)
	binds(t, "int 0.f() { return 1; } int 0.g() { return 0.f(); } "+main, "static int f(); static int g(); static int f() { return 1; } static int g() { return f(); } static int f();", begins)
	binds(t, "int 0.x; int 1.x; int 2.x; "+main, "static int x;", "static int x;", "static int x; "+begins)
	binds(t, "int 0.x = 1; double x[2] = {1.5}; void 2.x() { } "+main, "static int x = 1;", "double x[2] = {1.5};", "static void x() { } "+begins)
	binds(t, main+" double *7.x = 0; double *7.y;", begins, "", "", "", "", "", "", "static double *x = 0; static double *y;")
	// A definition that has no initialiser, and one that has.
	binds(t, "int a; int b = 1; double c[3]; double d[3] = {1.5, 2.5}; int *e; int *f = a2; int a2[1]; "+main, "extern int a2[1]; int a; int b = 1; double c[3]; double d[3] = {1.5, 2.5}; int *e; int *f = a2; int a2[1];", begins)
}

// A Static name in each place that means it: it is called by number, point and name; a shared one of another module isn't.
func TestStaticNames(t *testing.T) {
	const (
		told   = "static int x; static double d; static int *p; static int a[3]; static int f(int v, int *w); static void g(); "
		called = "int 1.x; double 1.d; int *1.p; int 1.a[3]; "
		bodies = "static int f(int v, int *w) { return v; } static void g() { } "
		again  = "int 1.f(int $0, int *$1) { return $0; } void 1.g() { } "
	)
	for _, c := range []struct{ text, want string }{
		{"int i = x;", "int i = 1.x;"}, {"int *i = &x;", "int *i = &1.x;"}, {"int *i = &a[x];", "int *i = &1.a[1.x];"}, {"int *i = a;", "int *i = 1.a;"}, {"int i[3] = {x, 2, -x};", "int i[3] = {1.x, 2, -1.x};"},
		{"int i = f(x, &x);", "int i = 1.f(1.x, &1.x);"}, {"double i = d * 2.0;", "double i = 1.d * 2.0;"}, {"int i = *p;", "int i = *1.p;"}, {"static int i = x;", "int 1.i = 1.x;"}, {"static int *i = 0;", "int *1.i = 0;"},
	} {
		binds(t, "double x; "+called+again+c.want+" int main() { return 0; }", "double x;", told+bodies+c.text, begins)
	}
	for _, c := range []struct{ text, want string }{
		{"x;", "1.x;"}, {"x = x;", "1.x = 1.x;"}, {"&x;", "&1.x;"}, {"*&x;", "*&1.x;"}, {"a[x];", "1.a[1.x];"}, {"&a[x];", "&1.a[1.x];"}, {"*p = 1;", "*1.p = 1;"}, {"p = a + x;", "1.p = 1.a + 1.x;"}, {"g();", "1.g();"},
		{"f(f(x, p), a);", "1.f(1.f(1.x, 1.p), 1.a);"}, {"f(1, &x);", "1.f(1, &1.x);"}, {"if (x) g(); else x = 2;", "if (1.x) 1.g(); else 1.x = 2;"}, {"while (x < 3) { x = x + 1; { g(); } }", "while (1.x < 3) { 1.x = 1.x + 1; { 1.g(); } }"},
		{"return (int) d;", "return (int) 1.d;"}, {"int y = x;", "int $1 = 1.x;"}, {"int *y = &x; *y = f(x, y);", "int *$1 = &1.x; *$1 = 1.f(1.x, $1);"}, {"putw(x);", "putw(1.x);"}, {"x = getw();", "1.x = getw();"},
		{"y(v); s = v;", "y($0); s = $0;"}, {"x + s + y(x);", "1.x + s + y(1.x);"}, {"z(x);", "1.z(1.x);"},
		// Not where a param or a local of that name stands nearer.
		{"{ int x; x = 1; } x = 2;", "{ int $1; $1 = 1; } 1.x = 2;"}, {"int x = x; x = 3;", "int $1 = 1.x; $1 = 3;"}, {"{ { double x; x = 1.5; } int *x; x = &v; } x;", "{ { double $1; $1 = 1.5; } int *$2; $2 = &$0; } 1.x;"},
		{"int a[2]; a[1] = x; &a[0];", "int $1[2]; $1[1] = 1.x; &$1[0];"}, {"if (x) { int x; x; } else { int f; f; } f(x, a);", "if (1.x) { int $1; $1; } else { int $2; $2; } 1.f(1.x, 1.a);"},
		{"int g; g = v; { f(g, a); }", "int $1; $1 = $0; { 1.f($1, 1.a); }"}, {"while (x) { int x = 1; x; } x;", "while (1.x) { int $1 = 1; $1; } 1.x;"},
	} {
		text := told + bodies + "extern int s; int y(int v); static int z(int v) { " + c.text + " }"
		want := called + again + "int 1.z(int $0) { " + c.want + " } "
		binds(t, "int s; int y(int $0) { } "+want+"int main() { return 0; }", "int s; int y(int v) { }", text, begins)
		// The same names elsewhere, shared or Static: nothing is another there.
		binds(t, "int s; int x; double d[2]; int y(int $0) { return x; } void f() { f(); d[1]; } "+want+"int 2.x; int 2.f() { return 2.x; } int main() { return 2.f(); }",
			"int s; int x; double d[2]; int y(int v) { return x; } void f() { f(); d[1]; }", text, "static int x; static int f() { return x; } int main() { return f(); }")
	}
	binds(t, "int 0.x; int f(int $0) { return $0; } int g(double $0) { return 0.x; } int main() { return 0; }", "static int x; int f(int x) { return x; } int g(double y) { return x; }", begins)
}

// Each part of a program with something of each kind is as it was, but for names, Static and Extern.
func TestAllElse(t *testing.T) {
	mods, m := bound(t, whole()...)
	var want []api.Decl
	for _, x := range mods {
		for _, d := range bare(x).Decls {
			if isDefinition(d) {
				d.Extern, d.Static = false, false
				want = append(want, d)
			}
		}
	}
	if a, b := told(bare(m)), told(api.Module{Decls: want}); a != b {
		t.Errorf("P14.1: in the program something else is another: .. %s .., want .. %s ..", helps.Around(a, b), helps.Around(b, a))
	}
	ats, kinds := map[int]int{}, map[int]int{}
	helps.Walk(&m, func(x *api.Expr) {
		ats[x.At]++
		kinds[x.Kind]++
	}, func(s *api.Stmt) {
		ats[s.At]++
		kinds[-s.Kind]++
	})
	if len(ats) < 100 || len(kinds) != 17 {
		t.Errorf("the test's program has %d places, and the kinds %v", len(ats), kinds)
	}
	allHolds(t, whole(), mods)
}

// bare is a module without what it may be called by in a program.
func bare(m api.Module) api.Module {
	c := helps.CloneModule(m)
	helps.Walk(&c, func(x *api.Expr) {
		if x.Kind == api.EName || x.Kind == api.ECall {
			x.Name = x.Name[strings.Index(x.Name, ".")+1:]
		}
	}, func(*api.Stmt) {})
	for n := range c.Decls {
		c.Decls[n].Name = c.Decls[n].Name[strings.Index(c.Decls[n].Name, ".")+1:]
	}
	return c
}

// Of two modules that were put together to a program the numbers stay: asked of again, it is the same.
func TestAskedOfTheProgram(t *testing.T) {
	_, m := bound(t, whole()...)
	first := told(m)
	for range 3 {
		again, at, e := bind.Bind([]api.Module{m})
		if told(again) != first || at != 0 || e != api.OK {
			t.Errorf("P14.1: asked of what it answered: error %d at %d, .. %s ..", e, at, helps.Around(told(again), first))
		}
		m = again
	}
}

func TestFaces(t *testing.T) {
	faces(t, "", "", "")
	faces(t, begins, "main", "")
	faces(t, "int b; int a; int c = 2; double d[2]; int *p = 0; void z() { } int A() { return 1; } int _;", "A _ a b c d p z", "")
	faces(t, "static int b; static int f() { return b; } static void g(); static void g() { f(); g(); }", "", "")
	faces(t, "extern int b; int f(); extern void g(int v); extern double a[2];", "", "")
	faces(t, "int z; extern int a; extern int b; int f(); static int g() { return a + f() + getw(); } int h() { return g() + z; }", "h z", "a f")
	faces(t, "extern int z; extern int y; int x = y; int w = z + y + z;", "w x", "y z")
	faces(t, "extern int x; int *p = &x; extern int x; int x; int f() { return x; }", "f p x", "")
	faces(t, "int f(); int g() { return f() + f(); } int f() { return g(); } int f();", "f g", "")
	faces(t, "int f(); int g() { return f() + f(); } int f();", "g", "f")
	faces(t, "extern int f() { return 1; }", "f", "")
	faces(t, "int main(); int f() { return main(); }", "f", "main")
	faces(t, "extern int c; extern int a; extern int b; int f(int a) { { int b; b = a; } return c; } int g() { int a = a; return b; }", "f g", "a b c")
	faces(t, "extern int x10; extern int x9; extern int X; extern int x; int f() { return x10 + x9 + X + x; }", "f", "X x x10 x9")
	faces(t, "static int x; extern int y; int f() { return x + y; } static int z[2] = {1, 2}; int *p = z;", "f p", "y")
	_, m := bound(t, "static int x; int y;", "extern int y; static int x() { return y; } int main() { return x(); }")
	if defined, needed := bind.Faces(m); strings.Join(defined, " ") != "0.x 1.x main y" || len(needed) > 0 {
		t.Errorf("P14.1: Faces of a program: %q, %q", defined, needed)
	}
}
