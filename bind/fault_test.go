package bind_test

import (
	"slices"
	"strings"
	"testing"

	"solder/api"
	"solder/bind"
)

// repeated are so many texts of one kind.
func repeated(text string, n int) []string {
	return slices.Repeat([]string{text}, n)
}

func TestNumberOfModules(t *testing.T) {
	fails(t, api.ErrMain)
	fails(t, api.ErrMain, "")
	fails(t, api.ErrMain, repeated("", 8)...)
	binds(t, "int main() { return 0; }", begins)
	for n := 1; n <= 8; n++ {
		for at := range n {
			l := repeated("", n)
			l[at] = begins
			binds(t, "int main() { return 0; }", l...)
			l = repeated("static int x;", n)
			l[at] = begins
			_, m := bound(t, l...)
			if len(m.Decls) != n {
				t.Errorf("P14.1: of %d modules, each with a definition, the program has %d", n, len(m.Decls))
			}
		}
	}
	// Too many are told at 8, however many they are, and whatever else is wrong.
	for _, n := range []int{9, 10, 17, 100} {
		for _, text := range []string{"", "int x;", begins, "extern int x; int f() { return x; }"} {
			if got := ask(checked(t, repeated(text, n)...)); got != (answer{told(api.Module{}), 8, api.ErrFull}) {
				t.Errorf("P14.1: of %d modules %q: error %d at %d, want %d at 8", n, text, got.e, got.at, api.ErrFull)
			}
		}
	}
	fails(t, api.ErrFull, append(repeated("", 8), "@"+begins)...)
	fails(t, api.ErrFull, append([]string{begins}, "", "", "", "", "", "", "", "@")...)
	fails(t, api.ErrTwice, append(repeated("", 6), begins, "@"+begins)...)
}

func TestDefinedTwice(t *testing.T) {
	for _, s := range []string{"int x;", "int x = 1;", "double *x = 0;", "double x[3];", "extern int x; int x;", "int x; extern int x;", "int x() { return 1; }", "extern int x() { return 1; }", "void x(int a, double b) { }", "int x(int a); int x(int a) { return a; }"} {
		inOrders(t, api.ErrTwice, begins, "@"+s, "@"+s)
		inOrders(t, api.ErrTwice, "@"+s, begins, "@"+s+" static int y; int z;")
		inOrders(t, api.ErrTwice, "@"+s, "@"+s, "@"+s, begins)
		inOrders(t, api.OK, begins, s, "static double x;")
		inOrders(t, api.OK, begins, s, "static void x() { }")
		inOrders(t, api.OK, begins, "static int x;", s, "static int x;")
		inOrders(t, api.OK, begins, s, "int f(int x) { return x; }", "int g() { double x; return 1; }")
	}
	// Not of one type, or not both functions: yet it is told that it is defined twice, whatever else is wrong.
	inOrders(t, api.ErrTwice, begins, "@int x;", "@double x;")
	inOrders(t, api.ErrTwice, begins, "@int x;", "@int x() { return 1; }")
	inOrders(t, api.ErrTwice, begins, "@int x[1];", "@int x;", "extern int x[2];")
	inOrders(t, api.ErrTwice, begins, "@int y; int x;", "@int x; extern int y;")
	inOrders(t, api.ErrTwice, begins, "@int y; int x;", "@int x; double y;")
	// main is a name as any other one.
	inOrders(t, api.ErrTwice, "@"+begins, "@"+begins)
	inOrders(t, api.ErrTwice, "@"+begins, "@"+begins, "int main();", "")
	// Names near each other are others.
	inOrders(t, api.OK, begins, "int x;", "int X;", "int x1; int _x; int xx;")
	// None of them is a definition, or one alone.
	inOrders(t, api.OK, begins, "extern int x;", "extern int x; extern int x;", "extern int x;")
	inOrders(t, api.OK, begins, "int x();", "int x(); int x();", "extern int x();")
	inOrders(t, api.OK, begins, "extern int x;", "int x;", "extern int x;")
	inOrders(t, api.OK, begins, "static int x;", "static int x = 2;", "static double x() { return 1.5; }")
	// The first that does, not the one that another name's is told of.
	fails(t, api.ErrTwice, "int a;", "int b;", "int c;", "@int c;", "int b;", "int a;")
	fails(t, api.ErrTwice, "int a; int b;", "static int a; static int b;", "@int b;", "int a;")
	fails(t, api.ErrTwice, "static int a;", "int a;", "extern int a;", "static int a;", "@int a;")
}

// pieces is a Decl of x, as a definition, and as Decls that are none.
type pieces struct {
	definition string
	asked      []string
}

// allPieces are Decls no two of which agree.
func allPieces() (all []pieces) {
	for _, s := range []string{"int x", "double x", "int *x", "double *x", "int x[1]", "int x[2]", "int x[1000]", "double x[1]", "double x[2]"} {
		all = append(all, pieces{s + ";", []string{"extern " + s + ";", "extern " + s + "; extern " + s + ";"}})
	}
	for _, typed := range []string{"void", "int", "double", "int *", "double *"} {
		for _, params := range []string{"", "int a", "double a", "int *a", "double *a", "int a, int b", "int a, double b", "double a, int b", "int a, int b, int c"} {
			other := strings.NewReplacer(" a", " b", " b", " c", " c", " x").Replace(params)
			all = append(all, pieces{typed + " x(" + params + ") { }", []string{typed + " x(" + other + ");", "extern " + typed + " x(" + params + ");"}})
		}
	}
	return all
}

// Each Decl with each definition: the module with the Decl stands ahead of the one with the definition, and behind it.
func TestAgreeing(t *testing.T) {
	all := allPieces()
	for n, a := range all {
		for k, b := range all {
			for _, asked := range b.asked {
				e := api.OK
				if n != k {
					e = api.ErrMatch
				}
				inOrders(t, e, begins, a.definition, "@"+asked)
				static := strings.Replace(a.definition, "extern ", "", 1)
				inOrders(t, api.OK, begins, "static "+static, asked)
			}
		}
		if n%7 == 0 {
			own := a.definition + " " + a.asked[0]
			inOrders(t, api.OK, begins, own, "static "+a.definition, a.asked[1])
		}
	}
}

func TestNotAgreeing(t *testing.T) {
	// The first of those that don't agree, wherever the definition stands.
	inOrders(t, api.ErrMatch, "int x; "+begins, "@extern double x;", "@int x();", "extern int x;")
	inOrders(t, api.ErrMatch, "int x; "+begins, "@extern double x;", "@extern double x;", "@extern double x;")
	inOrders(t, api.ErrMatch, "int f(int a) { return a; } "+begins, "@int f();", "@int f(double a);", "@void f(int a);")
	inOrders(t, api.ErrMatch, "int x; "+begins, "static double x;", "@extern int x[1];")
	// One that nobody uses, too; one that is used, too.
	inOrders(t, api.ErrMatch, begins, "int x;", "@extern double x; double g() { return x; }")
	inOrders(t, api.ErrMatch, begins, "int x(int a) { return a; }", "@int x(); int g() { return x(); }")
	// Without a definition there is nothing to agree with.
	inOrders(t, api.OK, begins, "extern int x;", "extern double x;", "int x();")
	inOrders(t, api.OK, begins, "extern int x;", "extern double x;", "static int x;")
	inOrders(t, api.ErrNone, begins, "@extern int x; int f() { return x; }", "extern double x;")
	// Of main, too.
	inOrders(t, api.OK, begins, "int main(void);", "extern int main();")
	// A module's Decls of other names agree.
	inOrders(t, api.ErrMatch, begins, "@int x; extern int y;", "@double y; extern double x; int z;", "extern int z;")
	fails(t, api.ErrMatch, "@extern int y;", "double y; extern double x;", "int x; "+begins)
	fails(t, api.ErrMatch, "extern double y;", "@double y; extern double x;", "int x; "+begins)
	fails(t, api.ErrMatch, "extern int c;", "@extern int b;", "extern int a; double b;", "double a; "+begins)
}

func TestMain(t *testing.T) {
	inOrders(t, api.ErrMain, "int x;", "int Main() { return 0; }", "int main1() { return 0; }")
	inOrders(t, api.ErrMain, "int main();", "extern int main();", "int f() { int main; return main; }")
	inOrders(t, api.ErrMain, "int x;", "extern int x; int f() { return x; }", "static int main1() { return 0; }")
	for _, s := range []string{begins, "int main(void) { }", "extern int main() { return 1; }", "int main(); int main() { return 1; }", "int main() { return main(); }", "int main() { int main; return main; }"} {
		inOrders(t, api.OK, "int x;", s, "int main(); int f() { return main(); }")
		inOrders(t, api.OK, s)
	}
	inOrders(t, api.ErrNone, "int x;", "@int main(); int f() { return main(); }", "int main();")
	// No check lets a Static one through; it would be no name that is shared.
	static := one(t, begins)
	static.Decls[0].Static = true
	for _, mods := range [][]api.Module{{static}, {static, static}, {static, one(t, "int main();")}, {one(t, "int main();"), static}} {
		if m, at, e := bind.Bind(mods); at != 0 || e != api.ErrMain || len(m.Decls) > 0 {
			t.Errorf("P14.1: with a Static main: error %d at %d, want %d at 0", e, at, api.ErrMain)
		}
	}
	if m, at, e := bind.Bind([]api.Module{static, one(t, begins)}); at != 0 || e != api.OK || len(m.Decls) != 2 || m.Decls[0].Name != "0.main" {
		t.Errorf("P14.1: with a Static main and one that isn't: error %d at %d, %s", e, at, shown(m))
	}
}

// Texts in which one thing is wrong; where is marked.
func faulty() map[api.Errno][]string {
	return map[api.Errno][]string{
		api.ErrTwice: {"@int t;", "@int t;"},
		api.ErrMatch: {"@extern double m;", "int m;"},
		api.ErrNone:  {"@extern int n; int *p = &n;"},
		api.ErrMain:  {},
	}
}

// Two things, or more, are wrong in several modules, in each order; or in one.
func TestWhichIsToldFirst(t *testing.T) {
	rising := []api.Errno{api.ErrTwice, api.ErrMatch, api.ErrNone, api.ErrMain}
	for n, e := range rising {
		for _, other := range rising[n+1:] {
			l := append([]string{}, faulty()[e]...)
			if other != api.ErrMain {
				l = append(l, begins)
			}
			for _, s := range faulty()[other] {
				l = append(l, strings.TrimPrefix(s, "@"))
			}
			inOrders(t, e, l...)
		}
	}
	inOrders(t, api.ErrTwice, "@int t; extern double m; extern int n; int f() { return n; }", "@int t; int m;", "extern int n; int g() { return n; }")
	inOrders(t, api.ErrMatch, "@extern double m; extern int n; int f() { return n; }", "int m;", "extern int n; int g() { return n; }")
	inOrders(t, api.ErrMatch, "@extern double m; double f() { return m; }", "int m;", "int main();")
	inOrders(t, api.ErrNone, "@extern int n; int f() { return n; }", "int main();", "@extern int k; int *g() { return &k; }")
	fails(t, api.ErrTwice, "extern double m; int t;", "int m;", "extern int n; int f() { return n; }", "@int t;")
	fails(t, api.ErrMatch, "extern int n; int f() { return n; }", "int m;", "@extern double m;")
	fails(t, api.ErrNone, "int x;", "@extern int n; int f() { return n; }", "")
	// Too many of them is told ahead of all else.
	fails(t, api.ErrFull, "int t;", "int t;", "extern double m;", "int m;", "extern int n; int f() { return n; }", "", "", "", "@")
	fails(t, api.ErrFull, begins, begins, "", "", "", "", "", "", "@", "")
	fails(t, api.ErrFull, "", "extern double m;", "int m;", "", "", "", "", begins, "@")
	fails(t, api.ErrFull, "", "extern int n; int *p = &n;", "", "", "", "", "", begins, "@", "")
}
