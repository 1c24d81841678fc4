package parse_test

import (
	"strconv"
	"strings"
	"testing"

	"solder/api"
)

// The chapter's examples.
func TestExamples(t *testing.T) {
	sum := binary("+", num(1, 20), binary("*", num(2, 24), num(3, 28)))
	holds(t, "int main() { return 1 + 2 * 3; }", fine(api.Decl{Func: true, Name: "main", Type: api.Int, Has: true, Body: block(11, back(13, sum))}))
	holds(t, "int a[0];", wrong(6, api.ErrRange))
}

func TestEmpty(t *testing.T) {
	for _, s := range []string{"", " ", "\n", "\t\r\n ", "//", "// int a", "//int\n", "/**/", "/* int a; */", " // a\n/* b\n */\t//"} {
		holds(t, s, fine())
	}
}

// heads are what may stand ahead of a declaration's type, and what it makes of it.
var heads = []struct {
	text           string
	static, extern bool
}{{"", false, false}, {"static ", true, false}, {"extern ", false, true}, {"static/**/", true, false}, {"extern\n", false, true}}

// types are all that may stand for one, and what they mean.
var types = []struct {
	text string
	is   int
}{{"int ", api.Int}, {"double ", api.Real}, {"void ", api.Void}, {"int *", api.PInt}, {"double *", api.PReal}, {"int* ", api.PInt}, {"double\n*\n", api.PReal}}

// Each form of a declaration with each head and each type.
func TestDecls(t *testing.T) {
	for _, h := range heads {
		for _, x := range types {
			for _, c := range []struct {
				behind string
				is     func(at int) api.Decl // where what is behind begins
			}{
				{"a;", func(int) api.Decl { return api.Decl{Name: "a"} }},
				{"a = 1;", func(at int) api.Decl { return api.Decl{Name: "a", Has: true, Inits: []api.Expr{num(1, at+4)}} }},
				{"a=b=2;", func(at int) api.Decl {
					return api.Decl{Name: "a", Has: true, Inits: []api.Expr{assign(name("b", at+2), num(2, at+4))}}
				}},
				{"a[3];", func(int) api.Decl { return api.Decl{Name: "a", Len: 3} }},
				{"a[1000] ;", func(int) api.Decl { return api.Decl{Name: "a", Len: 1000} }},
				{"a[1] = {7};", func(at int) api.Decl {
					return api.Decl{Name: "a", Len: 1, Has: true, Inits: []api.Expr{num(7, at+8)}}
				}},
				{"a[2]={1,b,-3};", func(at int) api.Decl {
					return api.Decl{Name: "a", Len: 2, Has: true, Inits: []api.Expr{num(1, at+6), name("b", at+8), unary("-", at+10, num(3, at+11))}}
				}},
				{"f();", func(int) api.Decl { return api.Decl{Name: "f", Func: true} }},
				{"f(void);", func(int) api.Decl { return api.Decl{Name: "f", Func: true} }},
				{"f() {}", func(at int) api.Decl { return api.Decl{Name: "f", Func: true, Has: true, Body: block(at + 4)} }},
				{"f(int x) { ; }", func(at int) api.Decl {
					return api.Decl{Name: "f", Func: true, Has: true, Params: []api.Param{{Name: "x", Type: api.Int, At: at + 2}}, Body: block(at+9, alone(at+11))}
				}},
				{"f(int x, double *y);", func(at int) api.Decl {
					return api.Decl{Name: "f", Func: true, Params: []api.Param{{Name: "x", Type: api.Int, At: at + 2}, {Name: "y", Type: api.PReal, At: at + 9}}}
				}},
			} {
				d := c.is(len(h.text + x.text))
				d.Static, d.Extern, d.Type, d.At = h.static, h.extern, x.is, len(h.text)
				holds(t, h.text+x.text+c.behind, fine(d))
			}
		}
	}
}

// What is no type, and no head.
func TestWrongTypes(t *testing.T) {
	for _, h := range []string{"", "static ", "extern "} {
		refused(t, h+"void ", "*a;", api.ErrSyntax)
		refused(t, h+"void ", "* f();", api.ErrSyntax)
		refused(t, h+"int *", "*a;", api.ErrSyntax)
		refused(t, h+"double *", "*a;", api.ErrSyntax)
		refused(t, h+"int ", "int a;", api.ErrSyntax)
		refused(t, h+"int ", "double a;", api.ErrSyntax)
		refused(t, h+"double ", "&a;", api.ErrSyntax)
		refused(t, h+"int *", "static a;", api.ErrSyntax)
		refused(t, h+"int ", "static a;", api.ErrSyntax)
		refused(t, h+"int ", "", api.ErrSyntax)
		refused(t, h+"int *", "", api.ErrSyntax)
		refused(t, h+"int a", "", api.ErrSyntax)
		refused(t, h+"int ", ";", api.ErrSyntax)
		refused(t, h+"int *", ";", api.ErrSyntax)
	}
	for _, h := range []string{"static ", "extern "} {
		for _, s := range []string{"static int a;", "extern int a;", "a;", "*a;", ";", "", "if", "Int a;"} {
			refused(t, h, s, api.ErrSyntax)
		}
	}
	for _, s := range []string{"a;", "a a;", "*a;", ";", "1;", "1.5", "(int) a;", "{}", "}", "if (1) ;", "return;", "else", "while", "break;", "continue;", "=", ","} {
		refused(t, "", s, api.ErrSyntax)
		refused(t, "int a; ", s, api.ErrSyntax)
		refused(t, "int f() {} ", s, api.ErrSyntax)
	}
}

// What doesn't go on with a declaration, at each of its places.
func TestWrongDecls(t *testing.T) {
	for _, c := range [][2]string{
		{"int ", "1;"}, {"int ", "if;"}, {"int ", "[1];"}, {"int ", "(a);"}, {"int a ", "b;"}, {"int a ", "1;"}, {"int a ", ", b;"}, {"int a ", "}"}, {"int a ", "+ 1;"}, {"int a ", "== 1;"}, {"int a ", "{ }"}, {"int a ", "int b;"}, {"int a ", "*b;"}, {"int a ", ")"},
		{"int a = ", ";"}, {"int a = ", "}"}, {"int a = ", ", 1;"}, {"int a = ", "= 1;"}, {"int a = ", "{1};"}, {"int a = ", ""}, {"int a = 1 ", ""}, {"int a = 1 ", ", 2;"}, {"int a = 1 ", "2;"}, {"int a = 1 ", "int b;"}, {"int a = 1 ", "}"}, {"int a = 1", ")"}, {"int a = 1", "]"}, {"int a = b = ", ";"}, {"int a = b = 1 ", "}"},
		{"int a[", "];"}, {"int a[", "b];"}, {"int a[", "-1];"}, {"int a[", "(1)];"}, {"int a[", "1.0];"}, {"int a[", "int"}, {"int a[", ""}, {"int a[1 ", "+ 1];"}, {"int a[1", ";"}, {"int a[1", ")"}, {"int a[1 ", "2];"}, {"int a[1", ""}, {"int a[1]", ""}, {"int a[1]", "[1];"}, {"int a[1]", "(int b);"}, {"int a[1] ", "1;"}, {"int a[1] ", "{1};"}, {"int a[1] ", ", b;"},
		{"int a[1] = ", "1;"}, {"int a[1] = ", "b;"}, {"int a[1] = ", ";"}, {"int a[1] = ", "(1);"}, {"int a[1] = ", ""}, {"int a[1] = {", "};"}, {"int a[1] = {", ", 1};"}, {"int a[1] = {", ""}, {"int a[1] = {", "{1}};"}, {"int a[1] = {1", ";"}, {"int a[1] = {1 ", "2};"}, {"int a[1] = {1,", "};"}, {"int a[1] = {1,", ", 2};"}, {"int a[1] = {1", ")"}, {"int a[1] = {1", "]"}, {"int a[1] = {1", ""}, {"int a[1] = {1}", ""}, {"int a[1] = {1} ", "int b;"}, {"int a[1] = {1}", ", b;"}, {"int a[1] = {1}", "}"},
		{"int f", "{}"}, {"int f()", "= 1;"}, {"int f() ", "int a;"}, {"int f()", "[1];"}, {"int f()", ""}, {"int f() ", "return;"}, {"int f()", ", g();"}, {"int f()", ")"}, {"int f() {", ""}, {"int f() {;", ""}, {"int f() {}", "}"}, {"int f() {} ", "; int a;"}, {"int f(); ", "{}"}, {"int f(); ", ";"},
	} {
		refused(t, c[0], c[1], api.ErrSyntax)
	}
}

// Many declarations stand in their order.
func TestManyDecls(t *testing.T) {
	holds(t, "int a;double b=1.5;static int*p;", fine(
		api.Decl{Name: "a", Type: api.Int},
		api.Decl{Name: "b", Type: api.Real, Has: true, Inits: []api.Expr{double(1.5, 15)}, At: 6},
		api.Decl{Static: true, Name: "p", Type: api.PInt, At: 26},
	))
	holds(t, "void f();\nextern void f ( ) ;\nvoid f(){}int f[2];", fine(
		api.Decl{Func: true, Name: "f"},
		api.Decl{Func: true, Extern: true, Name: "f", At: 17},
		api.Decl{Func: true, Name: "f", Has: true, At: 30, Body: block(38)},
		api.Decl{Name: "f", Type: api.Int, Len: 2, At: 40},
	))
	var l []api.Decl
	for n := range 800 {
		l = append(l, api.Decl{Name: "a", Type: api.Int, At: 6 * n})
	}
	holds(t, strings.Repeat("int a;", 800), fine(l...))
}

// A Len from 1 to MaxArray, with noughts ahead too, in declarations and in functions.
func TestLens(t *testing.T) {
	if api.MaxArray != 1000 || api.MaxArgs != 8 || api.MaxDeep != 40 {
		t.Fatal("other limits than the document's")
	}
	for _, n := range []int{1, 2, 9, 10, 255, 256, 999, 1000} {
		for _, zeros := range []string{"", "0", "000000"} {
			s := zeros + strconv.Itoa(n)
			holds(t, "int a["+s+"];", fine(api.Decl{Name: "a", Type: api.Int, Len: n}))
			at := len("int f(){double b[" + s + "];")
			f := api.Decl{Func: true, Name: "f", Type: api.Int, Has: true, Body: block(7, local(8, api.Real, "b", n), local(at, api.PInt, "c", n, num(5, at+11+len(s))))}
			holds(t, "int f(){double b["+s+"];int *c["+s+"] = 5;}", fine(f))
		}
	}
	for _, s := range []string{"0", "0000000000", "1001", "0000001001", "1002", "2000", "10000", "65537", "2147483648", "4294967295", "4294966296"} {
		for _, behind := range []string{"];", "", "; 1", "] = {1};", "1.5", " int"} {
			refused(t, "int a[", s+" "+behind, api.ErrRange)
			refused(t, "static double *abc[", s+" "+behind, api.ErrRange)
			refused(t, "int f() { if (1) { int a[", s+" "+behind, api.ErrRange)
			refused(t, "int b = 1; int f() { int a[1000]; int b; double a[", s+" "+behind, api.ErrRange)
		}
	}
	for _, s := range []string{"1.0", "0.0", "1000.0", "1001.5e3", "a", "-1", "+1", "(1)", "int", "", "[1]", "{1}", ";", "&a"} {
		refused(t, "int a[", s+"];", api.ErrSyntax)
		refused(t, "int f() { int *a[", s+"];", api.ErrSyntax)
	}
}

// Any number of inits may stand in an array's braces, though they are more than its Len.
func TestManyInits(t *testing.T) {
	for _, n := range []int{1, 2, 8, 9, 10, 500, 1001, 1240} {
		d := api.Decl{Name: "a", Type: api.Int, Len: 1, Has: true}
		for k := range n {
			d.Inits = append(d.Inits, num(uint32(k%10), 12+2*k))
		}
		s := ""
		for k := range n {
			s += "," + strconv.Itoa(k%10)
		}
		holds(t, "int a[1] = {"+s[1:]+"};", fine(d))
	}
	refused(t, "int a[1] = {"+strings.Repeat("1,", 1000), "};", api.ErrSyntax)
}
