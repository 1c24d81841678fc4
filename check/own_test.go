package check_test

import (
	"strings"
	"testing"
	"unsafe"

	"solder/api"
	"solder/check"
	"solder/helps"
	"solder/parse"
)

// ownTexts are texts by what is answered of them.
func ownTexts() map[string]string {
	all := map[string]string{
		"empty":         "",
		"one":           "int name;",
		"whole":         helps.Whole,
		"many":          "int b; " + strings.Repeat("extern int b;", 400),
		"inits":         "int b; int f(int x, int y, int z); int a[9] = {1, b, f(1, 2, 3), -4, a[5]}; int *p = 0;",
		"params":        "void f(int a, double *b, int *c, double d, int e); void g() { f(1, 0, 0, 1.5, 2); }",
		"noughts":       "int *p = 0; void f(int *q) { p = 0; f(0); if (0 == p) p == 0; int *r = 0; }",
		"locals":        "void f(int a) { int b[2]; { int *c = b; c = &a; } if (a) int d; else double d; while (a) int e; a; }",
		"strings":       helps.Whole + strings.Repeat(" ", 2000),
		"no name":       "int a; int f(int x) { return x + b; }",
		"told twice":    "int a; int f(int x) { int x; }",
		"no type":       "int a; int f(int x) { return x + 1.5; }",
		"an init extra": "int a[2] = {1, 2, 3};",
		"no body":       "static int f(); int g() { return f(); }",
	}
	for n, x := range wrongDecls() {
		all["wrong "+string(rune('a'+n))] = x.plain()
	}
	return all
}

// What is handed in is as it was, and so is the room behind its lists.
func TestKeepsWhatIsHandedIn(t *testing.T) {
	for what, s := range ownTexts() {
		m := parsed(t, s)
		want := ask(m)
		if told(m) != told(parsed(t, s)) {
			t.Errorf("P12.3: %s: what was handed in is now another", what)
		}
		r := helps.RoomyModule(m)
		before := told(helps.WholeModule(r))
		if got := ask(r); got != want {
			t.Errorf("P12.3: %s: with room behind its lists another answer", what)
		}
		if told(helps.WholeModule(r)) != before {
			t.Errorf("P12.3: %s: what was handed in, or the room behind it, is now another", what)
		}
	}
}

// What is answered shares no memory with what was handed in, nor with another answer, nor have two lists of it any.
func TestAnswersAreNewMemory(t *testing.T) {
	for what, s := range ownTexts() {
		for _, m := range []api.Module{parsed(t, s), helps.RoomyModule(parsed(t, s)), helps.CloneModule(parsed(t, s))} {
			want := ask(m)
			a, _, _ := check.Check(m)
			b, _, _ := check.Check(m)
			if helps.Meet(m, a, b) {
				t.Errorf("P12.3: %s: answers share memory with each other, or with what was handed in", what)
			}
			helps.SpoilModule(a)
			if told(b) != want.module || ask(m) != want {
				t.Errorf("P12.3: %s: what changes in an answer changes another one, or what was handed in", what)
			}
			helps.SpoilModule(m)
			if told(b) != want.module {
				t.Errorf("P12.3: %s: what changes in what was handed in changes an answer", what)
			}
		}
	}
}

// loose is a module whose texts stand in bytes that may change; they are answered, too.
func loose(m api.Module) (api.Module, *[][]byte) {
	var all [][]byte
	m = helps.CloneModule(m)
	helps.Names(&m, func(s *string) {
		if *s != "" {
			b := []byte(*s)
			all = append(all, b)
			*s = unsafe.String(&b[0], len(b))
		}
	})
	return m, &all
}

// The bytes of all names and operators change behind the call: so it is seen whether an answer has some of them.
func TestNamesAreNewMemory(t *testing.T) {
	for what, s := range ownTexts() {
		m := parsed(t, s)
		want := ask(m)
		l, all := loose(m)
		c, at, e := check.Check(l)
		if told(l) != told(m) {
			t.Errorf("P12.3: %s: what was handed in is now another", what)
		}
		for _, b := range *all {
			helps.Fill(b, '~')
		}
		if got := (answer{told(c), at, e}); got != want {
			t.Errorf("P12.3: %s: an answer has bytes of what was handed in: .. %s ..", what, helps.Around(got.module, want.module))
		}
	}
}

// An answer hangs on nothing that was asked ahead of it; checked again, what was handed in is answered the same.
func TestAskedAgain(t *testing.T) {
	first := map[string]answer{}
	seen := map[api.Errno]int{}
	mods := map[string]api.Module{}
	for what, s := range ownTexts() {
		mods[what], _, _ = parse.Parse(s)
	}
	for range 4 {
		for what, m := range mods {
			got := ask(m)
			if want, asked := first[what]; asked && got != want {
				t.Errorf("P12.3: %s: asked again it is another answer", what)
			}
			first[what] = got
			seen[got.e]++
		}
	}
	if len(seen) != 4 {
		t.Errorf("the test's texts lead to the errors %v alone", seen)
	}
}

// The whole text is right, and each name in it that becomes another one that isn't known makes it wrong there.
func TestWhole(t *testing.T) {
	right(t, helps.Whole)
	m := parsed(t, helps.Whole)
	uses := 0
	helps.Walk(&m, func(x *api.Expr) {
		if x.Kind != api.EName && x.Kind != api.ECall {
			return
		}
		own := x.Name
		x.Name = "unknown"
		if _, at, e := check.Check(m); at != x.At || e != api.ErrName {
			t.Errorf("P12.1: with another name for %s at %d: error %d at %d", own, x.At, e, at)
		}
		x.Name = own
		uses++
	}, func(*api.Stmt) {})
	if uses < 35 {
		t.Errorf("the test's text has %d names alone", uses)
	}
}
