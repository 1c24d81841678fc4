package check_test

import (
	"strconv"
	"strings"
	"testing"

	"solder/api"
)

// toldAs is one Decl of x, taken apart.
type toldAs struct {
	text                 string
	function, definition bool
	typed                string
	length               int
	static               bool
	params               string
}

// allTold are variables and functions of the name x, each of them right, but for what is told at last.
func allTold() (all []toldAs) {
	for _, typed := range []string{"int", "double", "int *", "double *"} {
		for _, length := range []int{0, 1, 2} {
			if length > 0 && strings.HasSuffix(typed, "*") {
				continue
			}
			s := typed + " x"
			if length > 0 {
				s += "[" + strconv.Itoa(length) + "]"
			}
			all = append(all,
				toldAs{s + ";", false, true, typed, length, false, ""},
				toldAs{"static " + s + ";", false, true, typed, length, true, ""},
				toldAs{"extern " + s + ";", false, false, typed, length, false, ""},
			)
		}
	}
	for _, typed := range []string{"int", "void", "double *"} {
		for _, params := range []string{"", "int a", "double a", "int a, int b"} {
			s := typed + " x(" + params + ")"
			kinds := strings.NewReplacer(" a", "", " b", "").Replace(params)
			for _, ahead := range []string{"", "static ", "extern "} {
				all = append(all,
					toldAs{ahead + s + ";", true, false, typed, 0, ahead == "static ", kinds},
					toldAs{ahead + s + " { }", true, true, typed, 0, ahead == "static ", kinds},
				)
			}
		}
	}
	return all
}

// from is where a Decl's type begins.
func (d toldAs) from() string {
	for _, ahead := range []string{"static ", "extern "} {
		if s, has := strings.CutPrefix(d.text, ahead); has {
			return ahead + "@" + s
		}
	}
	return "@" + d.text
}

// against is what is wrong in b behind a.
func (b toldAs) against(a toldAs) api.Errno {
	switch {
	case a.function != b.function || a.definition && b.definition:
		return api.ErrName
	case a.typed != b.typed || a.length != b.length || a.static != b.static || a.params != b.params:
		return api.ErrType
	}
	return api.OK
}

// Each Decl of one name behind each other one. (That a Static function lacks a body is told at last.)
func TestTwoDecls(t *testing.T) {
	seen := map[api.Errno]int{}
	for _, a := range allTold() {
		for _, b := range allTold() {
			e := b.against(a)
			first, second := a.text, b.from()
			if e == api.OK && a.function && a.static && !a.definition && !b.definition {
				e, first, second = api.ErrName, a.from(), b.text
			}
			is(t, first+second, e)
			is(t, "int y; "+first+" void z(); "+second+" double w;", e)
			seen[e]++
		}
	}
	if seen[api.OK] < 100 || seen[api.ErrName] < 1000 || seen[api.ErrType] < 1000 {
		t.Errorf("the test's Decls lead to the errors %v", seen)
	}
}

// Three Decls of one name: each must agree with all ahead of it, and one at most is a definition.
func TestThreeDecls(t *testing.T) {
	all := []string{"int x;", "extern int x;", "static int x;", "extern double x;", "extern int x[2];", "int x[2] = {1, 2};", "int x();", "int x() { }", "static int x();", "static int x() { }", "int x(int a);", "int x(int b) { return b; }", "extern int x();", "void x;", "extern int x = 1;", "int x(void a);", "int x = 1.5;"}
	seen := map[string]int{}
	for _, a := range all {
		for _, b := range all {
			for _, c := range all {
				_, why := asModel(t, a+" "+b+" "+c)
				seen[why]++
				asModel(t, "int f() { return 1; } "+a+" int y = f(); "+b+" "+c+" "+b)
			}
		}
	}
	if seen["right"] < 20 || seen["two definitions"] < 300 || seen["a function and a variable"] < 500 || seen["a Static function without a body"] < 1 || seen["another Static"] < 20 || seen["another Len"] < 20 || seen["other Params"] < 20 || seen["another Type"] < 20 {
		t.Errorf("the test's Decls lead to %v", seen)
	}
	right(t, "extern int x; int x; extern int x;")
	wrong(t, "int x; extern int x; @int x;", api.ErrName)
	wrong(t, "extern int x; extern int x; extern @double x;", api.ErrType)
	wrong(t, "int x(); int x() { } int x(); @int x() { }", api.ErrName)
	wrong(t, "int x(); int x() { } @int x(int a);", api.ErrType)
	right(t, "static int x(); static int x(); static int x() { } static int x();")
}

// What agrees in Func, Type, Len, Static and the Params' Types agrees, whatever else is another.
func TestAgreeing(t *testing.T) {
	right(t, "int f(int a, double b, int *c, double *d); int f(int d, double c, int *b, double *a) { return d; } extern int f(int x, double y, int *z, double *w);")
	right(t, "extern int a[3]; int a[3] = {1, 2, 3}; extern int a[3];")
	right(t, "extern double a; double a = 1.5; extern double a;")
	right(t, "int f(void); int f() { } int f(void);")
	types := []string{"int ", "double ", "int *", "double *"}
	for _, a := range types {
		for _, b := range types {
			e := api.ErrType
			if a == b {
				e = api.OK
			}
			is(t, "int f(int x, "+a+"y); @int f(int x, "+b+"z);", e)
			is(t, "int f("+a+"y); @int f("+b+"z) { }", e)
			is(t, "extern "+a+"y; @"+b+"y;", e)
			is(t, a+"y(); @"+b+"y();", e)
			wrong(t, "int f("+a+"x); @int f("+b+"x, int y);", api.ErrType)
			wrong(t, "int f("+a+"x, "+b+"y); @int f("+a+"x);", api.ErrType)
			wrong(t, "int f("+a+"x); @int f();", api.ErrType)
			wrong(t, "int f(); @int f("+a+"x);", api.ErrType)
		}
		wrong(t, "int f("+a+"x); @int f(void x);", api.ErrType)
	}
	seven := "int a, double b, int *c, double *d, int e, double g, int *h, "
	right(t, "int f("+seven+"int i); int f("+seven+"int j);")
	wrong(t, "int f("+seven+"int i); @int f("+seven+"double i);", api.ErrType)
}

// A variable's types, with a Len and without, Extern and Static, with Inits and without.
func TestVariables(t *testing.T) {
	for n := range letters {
		typed := letters[n]
		if typed == '0' {
			continue
		}
		text := letterText(typed)
		plain, array := api.OK, api.OK
		if typed == 'v' {
			plain = api.ErrType
		}
		if typed != 'i' && typed != 'd' {
			array = api.ErrType
		}
		for _, ahead := range []string{"", "static ", "extern "} {
			is(t, ahead+"@"+text+" x;", plain)
			is(t, ahead+"@"+text+" x[1];", array)
			is(t, ahead+"@"+text+" x[1000];", array)
		}
		for _, f := range topForms() {
			e := api.ErrType
			if typed != 'v' && fitsAsked(f, typed) {
				e = api.OK
			}
			for _, ahead := range []string{"", "static "} {
				if typed == 'v' {
					wrong(t, known+ahead+unmarked("@void x = X;", f), api.ErrType)
				} else {
					is(t, known+ahead+text+" x = "+f.text+";", e)
				}
				if array != api.OK {
					wrong(t, known+ahead+"@"+text+" x[2] = {"+f.plain()+"};", api.ErrType)
				} else {
					is(t, known+ahead+text+" x[2] = {"+f.text+"};", e)
					is(t, known+ahead+text+" x[2] = {"+f.text+", "+f.plain()+"};", e)
				}
			}
			wrong(t, known+"extern "+unmarked("@"+text+" x = X;", f), api.ErrType)
			wrong(t, known+"extern "+unmarked("@"+text+" x[2] = {X};", f), api.ErrType)
			wrong(t, known+"extern "+unmarked("@"+text+" x[2] = {b, X};", f), api.ErrType)
		}
	}
	becomes(t, "int a = 1; static double b[3] = {1.5, -2.5}; int *p = &a; double *q = b; int *r = 0; extern int c; int f();", "int a = 1.int; static double b[3] = {1.5.double, -.double(2.5.double)}; int* p = &.int*(a.int); double* q = b[].double*; int* r = 0.int*; extern int c; int f();")
}

// As many Inits as Len, and one more.
func TestManyInits(t *testing.T) {
	for _, n := range []int{1, 2, 3, 10, 400} {
		list := strings.TrimSuffix(strings.Repeat("1,", n), ",")
		right(t, "int a["+strconv.Itoa(n)+"] = {"+list+"};")
		right(t, "int a["+strconv.Itoa(n+1)+"] = {"+list+"};")
		right(t, "static double a["+strconv.Itoa(n)+"] = {"+strings.ReplaceAll(list, "1", "1.5")+"};")
		wrong(t, "int a["+strconv.Itoa(n)+"] = {"+list+", @1};", api.ErrRange)
		wrong(t, "int a["+strconv.Itoa(n)+"] = {"+list+", @1, 1};", api.ErrRange)
		wrong(t, "int a["+strconv.Itoa(n)+"] = {"+list+", (@1 + 2) * 3};", api.ErrRange)
		// What is wrong in it, and its type, come ahead of that it is one too many; that ahead of what is behind it.
		wrong(t, "int a["+strconv.Itoa(n)+"] = {"+list+", @b};", api.ErrName)
		wrong(t, "int a["+strconv.Itoa(n)+"] = {"+list+", 1 + @b};", api.ErrName)
		wrong(t, "int a["+strconv.Itoa(n)+"] = {"+list+", @1 + 1.5};", api.ErrType)
		wrong(t, "int a["+strconv.Itoa(n)+"] = {"+list+", @1.5};", api.ErrType)
		wrong(t, "int a["+strconv.Itoa(n)+"] = {"+list+", @1, b};", api.ErrRange)
		wrong(t, "int a["+strconv.Itoa(n)+"] = {"+list+", @1, 1.5};", api.ErrRange)
		wrong(t, "int a["+strconv.Itoa(n)+"] = {@1.5, "+list+"};", api.ErrType)
	}
	right(t, "double d[1000] = {1.5};")
	wrong(t, "int a[2] = {1, @1.5, 1};", api.ErrType)
	wrong(t, "int a[2] = {1, @b, 1.5, 1};", api.ErrName)
	wrong(t, "double d[1] = {@0};", api.ErrType)
	wrong(t, "double d[2] = {0.0, @0};", api.ErrType)
	wrong(t, "int a[2] = {@a};", api.ErrType)
}

func TestParams(t *testing.T) {
	for _, body := range []string{";", " { }"} {
		right(t, "void f(int a, double b, int *c, double *d)"+body)
		wrong(t, "void f(@void a)"+body, api.ErrType)
		wrong(t, "void f(int a, @void b)"+body, api.ErrType)
		wrong(t, "void f(int a, @void a)"+body, api.ErrType)
		wrong(t, "void f(@void a, int a)"+body, api.ErrType)
		wrong(t, "void f(@void a, void a)"+body, api.ErrType)
		wrong(t, "void f(int a, @int a)"+body, api.ErrName)
		wrong(t, "void f(int a, @double a)"+body, api.ErrName)
		wrong(t, "void f(int a, @int a, void b)"+body, api.ErrName)
		wrong(t, "void f(int a, @void b, int a)"+body, api.ErrType)
		wrong(t, "void f(int a, int b, double *c, @int *b, int a)"+body, api.ErrName)
		wrong(t, "void f(int a, int b, int c, int d, int e, int f, int g, @int a)"+body, api.ErrName)
		right(t, "void f(int a, int b, int c, int d, int e, int f, int g, int h)"+body)
		right(t, "int x; void g(); void f(int x, int g, int f, int main)"+body)
		right(t, "void g(int a)"+body+" void f(int a)"+body)
		right(t, "void g(void)"+body)
	}
	// Ahead of what its body has; behind what is wrong of the Decl itself.
	wrong(t, "void f(@void a) { return 1; }", api.ErrType)
	wrong(t, "void f(int a, @int a) { b; }", api.ErrName)
	wrong(t, "int f(); @int f(void a);", api.ErrType)
	wrong(t, "int f(int a) { } @int f(void a) { }", api.ErrName)
	wrong(t, "@int main(void a);", api.ErrType)
	wrong(t, "@int main(int a, int a);", api.ErrType)
}

func TestMain(t *testing.T) {
	for _, s := range []string{"int main();", "int main(void);", "int main() { }", "int main() { return 1; }", "extern int main();", "extern int main() { return 0; }", "int main(); int main() { } int main();", "int main() { return main(); }", "int f() { int main = 1; return main; }", "int f(double main) { return 1; }", "int main() { int main; }"} {
		right(t, s)
	}
	for _, s := range []string{"@int main;", "extern @int main;", "static @int main;", "@int main = 1;", "@int main[2];", "@double main;", "@int *main;", "@void main;", "@double main();", "@void main();", "@int *main();", "@double *main() { return 0; }", "@void main() { }", "static @int main();", "static @int main() { return 1; }", "@int main(int a);", "@int main(double a) { return 1; }", "@int main(int a, int *b);", "@int main(int a) { b; }", "@int main = b;", "int main(); @int main(int a);", "int main() { } @double main();", "int main(); static @int main() { }"} {
		wrong(t, s, api.ErrType)
		wrong(t, "int a; "+s+" int a();", api.ErrType)
	}
	wrong(t, "int main(); @int main;", api.ErrName)
	wrong(t, "int main() { } @int main() { }", api.ErrName)
	wrong(t, "int main() { } @double main() { }", api.ErrName)
	for _, s := range []string{"Main", "main1", "_main", "mai"} {
		right(t, "double "+s+"(int a) { return 1.5; } static int "+s+"s;")
	}
}

// A Static function whose body comes early, late, or never.
func TestStatic(t *testing.T) {
	for _, s := range []string{"static int f() { }", "static int f(); static int f() { }", "static int f() { } static int f();", "static int f(); int g() { return f(); } static int f() { return g(); }", "static int a; static double b = 1.5; static int c[2];", "static void f(int a); static void g(); static void g() { } static void f(int b) { }", "int f(); int g();", "extern int f();"} {
		right(t, s)
	}
	wrong(t, "static @int f();", api.ErrName)
	wrong(t, "static @int f(); static int f();", api.ErrName)
	wrong(t, "static @int f(); static int g();", api.ErrName)
	wrong(t, "static int f(); static @int g(); static int f() { }", api.ErrName)
	wrong(t, "static int f() { } static @double g(int a); int h() { return 1; }", api.ErrName)
	wrong(t, "static int f(); static @int g(); static int h(); static int f() { } static int g(); static int h() { }", api.ErrName)
	wrong(t, "static @int f(); int g() { return f(); }", api.ErrName)
	// At last: behind all else that is wrong.
	wrong(t, "static int f(); int a = @1.5;", api.ErrType)
	wrong(t, "static int f(); int g() { @b; }", api.ErrName)
	wrong(t, "static int f(); @int f() { }", api.ErrType)
	wrong(t, "static int f(); int a[1] = {1, @2};", api.ErrRange)
	wrong(t, "static int f(); static int f(); @int f;", api.ErrName)
}
