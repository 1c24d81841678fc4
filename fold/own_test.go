package fold_test

import (
	"fmt"
	"strings"
	"testing"
	"unsafe"

	"solder/api"
	"solder/fold"
	"solder/helps"
)

// whole is a text that has each kind of everything.
func whole() string {
	return `static int a[3] = {1, -2, 3 << 1};
extern double d;
int *p = &a[1];
double r = 1.5e3 - -0.5;
double s[4] = {1.5, (double) -3};
double *none = 0;
double *q = s + 4;
double *t = &s[1] + 2 - 1;
static int *e = &a[3];
int f(double x, int *y);
int g() { int l[2]; l[0] = a[1] + getw(); return f(d * 2.0, &a[1]); }
double z = 0.0 / 0.0;
int w = !(1 < 2) || 1.5 >= 2.5;`
}

// ownTexts are texts by what is answered of them.
func ownTexts() map[string]string {
	return map[string]string{
		"empty":           "",
		"one":             "int name;",
		"whole":           whole(),
		"no Init":         "int a[10]; double b[10]; int *c; extern int d;",
		"arrays":          "int a[9] = {1, 2, 3, 4, 5, 6, 7, 8, 9}; static double b[3] = {1.5, 2.5}; int c[100];",
		"places":          "int a[9]; int *p = a; int *q = a; int *r = a + 1; extern double b[2]; double *s = &b[2]; static double *t = b;",
		"not constant":    "int a[2] = {1, 2}; int *p = a; int b = a[1]; int c = b;",
		"not constant, 2": "int a = 1; int b[5] = {1, 2, 3, 1 + a};",
	}
}

func told(m api.Module) string {
	return fmt.Sprintf("%+v", m)
}

// dataTold tells what Data answers.
func dataTold(m api.Module) string {
	l, at, e := fold.Data(m)
	return fmt.Sprint(sketch(l), at, e)
}

// allTold tells all that is answered of a module: its data, and what Eval says of each expression.
func allTold(m api.Module) string {
	s := dataTold(m)
	helps.Walk(&m, func(x *api.Expr) { s += fmt.Sprint(ask(m, *x)) }, func(*api.Stmt) {})
	return s
}

// What is handed in is as it was, and so is the room behind its lists.
func TestKeepsWhatIsHandedIn(t *testing.T) {
	for what, s := range ownTexts() {
		m := checked(t, s)
		before, want := told(m), allTold(m)
		if told(m) != before {
			t.Errorf("P13.2: %s: what was handed in is now another", what)
		}
		r := helps.RoomyModule(m)
		whole := told(helps.WholeModule(r))
		if got := allTold(r); got != want {
			t.Errorf("P13.2: %s: with room behind its lists another answer: %s", what, helps.Around(got, want))
		}
		if told(helps.WholeModule(r)) != whole {
			t.Errorf("P13.2: %s: what was handed in, or the room behind it, is now another", what)
		}
	}
}

// meet tells whether lists of data share memory with each other, or two lists within one.
func meet(all ...[]api.Datum) bool {
	meet := false
	data, bytes, refs := apart[api.Datum](&meet), apart[byte](&meet), apart[api.Ref](&meet)
	for _, l := range all {
		data(l)
		for _, x := range l {
			bytes(x.Bytes)
			refs(x.Refs)
		}
	}
	return meet
}

// apart answers what tells whether a list shares memory, or the room behind it, with another one that it was called with.
func apart[E any](meet *bool) func([]E) {
	seen := map[*E]struct{}{}
	return func(l []E) {
		whole := l[:cap(l)]
		for n := range whole {
			if _, twice := seen[&whole[n]]; twice {
				*meet = true
			}
			seen[&whole[n]] = struct{}{}
		}
	}
}

// spoil makes all that data have something else, and the room behind it.
func spoil(l []api.Datum) {
	for _, x := range l {
		helps.Fill(x.Bytes[:cap(x.Bytes)], 0xee)
		helps.Fill(x.Refs[:cap(x.Refs)], api.Ref{At: -1, Name: "spoilt", Add: -1})
	}
	helps.Fill(l[:cap(l)], api.Datum{Name: "spoilt", Bytes: []byte{1}})
}

func TestMeeting(t *testing.T) {
	some := func() []api.Datum {
		return []api.Datum{{Bytes: []byte{1, 2}, Refs: []api.Ref{{At: 1}}}, {Bytes: []byte{3}, Refs: make([]api.Ref, 0, 2)}}
	}
	a, b := some(), some()
	if meet(a, b) || !meet(a, a) || !meet(a, a[1:]) {
		t.Error("lists of data aren't told apart")
	}
	if b[0].Bytes = a[1].Bytes; !meet(a, b) {
		t.Error("shared bytes aren't seen")
	}
	b = some()
	if b[0].Refs = a[1].Refs[:1]; !meet(a, b) {
		t.Error("shared Refs aren't seen")
	}
	b = some()
	if b[1].Bytes = b[0].Bytes[:1]; !meet(b) {
		t.Error("bytes that one list has twice aren't seen")
	}
}

// What is answered shares no memory with what was handed in, nor with another answer, nor have two lists of it any.
func TestAnswersAreNewMemory(t *testing.T) {
	for what, s := range ownTexts() {
		for _, m := range []api.Module{checked(t, s), helps.RoomyModule(checked(t, s)), helps.CloneModule(checked(t, s))} {
			want, before := allTold(m), told(m)
			a, _, _ := fold.Data(m)
			b, at, e := fold.Data(m)
			if meet(a, b) {
				t.Errorf("P13.2: %s: answers share memory with each other, or within", what)
			}
			kept := sketch(b)
			if spoil(a); sketch(b) != kept || allTold(m) != want || told(m) != before {
				t.Errorf("P13.2: %s: what changes in an answer changes another one, or what was handed in", what)
			}
			consts := constants(m)
			first := fmt.Sprint(consts)
			helps.SpoilModule(m)
			if sketch(b) != kept || fmt.Sprint(consts) != first || e == api.OK && at != 0 {
				t.Errorf("P13.2: %s: what changes in what was handed in changes an answer", what)
			}
		}
	}
}

// constants are those of all expressions of a module.
func constants(m api.Module) (all []fold.Const) {
	helps.Walk(&m, func(x *api.Expr) { all = append(all, ask(m, *x).c) }, func(*api.Stmt) {})
	return all
}

// The bytes of all names change behind the calls: so it is seen whether an answer has some of them.
func TestNamesAreNewMemory(t *testing.T) {
	for what, s := range ownTexts() {
		m := checked(t, s)
		var bytes [][]byte
		l := helps.CloneModule(m)
		helps.Names(&l, func(s *string) {
			if *s != "" {
				b := []byte(*s)
				bytes = append(bytes, b)
				*s = unsafe.String(&b[0], len(b))
			}
		})
		data, _, _ := fold.Data(l)
		consts := constants(l)
		want, _, _ := fold.Data(m)
		for _, b := range bytes {
			helps.Fill(b, '~')
		}
		if got := sketch(data); got != sketch(want) {
			t.Errorf("P13.2: %s: data have bytes of what was handed in: %s", what, helps.Around(got, sketch(want)))
		}
		if got, want := fmt.Sprint(consts), fmt.Sprint(constants(m)); got != want {
			t.Errorf("P13.2: %s: a constant has bytes of what was handed in: %s", what, helps.Around(got, want))
		}
		if shared := sharedNames(data); shared != "" {
			t.Errorf("P13.2: %s: two parts of the data share the bytes of %s", what, shared)
		}
	}
}

// sharedNames is a name of which two parts of data have the same bytes, or none.
func sharedNames(l []api.Datum) string {
	seen := map[*byte]struct{}{}
	var all []string
	for _, x := range l {
		all = append(all, x.Name)
		for _, r := range x.Refs {
			all = append(all, r.Name)
		}
	}
	for _, s := range all {
		at := unsafe.StringData(s)
		if _, twice := seen[at]; twice {
			return s
		}
		seen[at] = struct{}{}
	}
	return ""
}

// An answer hangs on nothing that was asked ahead of it; asked again, it is the same.
func TestAskedAgain(t *testing.T) {
	first := map[string]string{}
	mods := map[string]api.Module{}
	for what, s := range ownTexts() {
		mods[what] = checked(t, s)
	}
	for range 4 {
		for what, m := range mods {
			got := allTold(m)
			if want, asked := first[what]; asked && got != want {
				t.Errorf("P13.2: %s: asked again it is another answer", what)
			}
			first[what] = got
		}
	}
}

// Of a fault nothing is left for the calls behind it.
func TestBehindFaults(t *testing.T) {
	bad := checked(t, "int a[2]; int b[3] = {1, 2, a[0]}; int c = b[0];")
	good := checked(t, whole())
	want := allTold(good)
	if !strings.Contains(want, "static a 01000000feffffff0600000000000000") {
		t.Errorf("P13.1: of the whole text: %s", helps.Short(want))
	}
	for range 20 {
		if got := dataTold(bad); got != "28 15" {
			t.Errorf("P13.2: of what isn't constant: %q", got)
		}
		fold.Binary("%", realOf(1), realOf(1))
		fold.Unary("~", realOf(1))
		if got := allTold(good); got != want {
			t.Errorf("P13.2: behind a fault another answer: %s", helps.Around(got, want))
		}
	}
}
