package bind_test

import (
	"fmt"
	"testing"
	"unsafe"

	"solder/api"
	"solder/bind"
	"solder/helps"
)

// whole are texts that have each kind of everything.
func whole() []string {
	return []string{helps.Whole, `extern int *p;
static int a[2] = {5};
double d = 2.5;
static int h(int p) { return p; }
extern double s[4];
int f(double x, int *q, double *n);
static int g() { return *s == 1.5 && f(d, a, s) == h(*p); }`}
}

// ownTexts are texts by what is answered of them.
func ownTexts() map[string][]string {
	return map[string][]string{
		"none":         nil,
		"empty":        {"", "", ""},
		"one":          {begins},
		"whole":        whole(),
		"whole, turn":  {whole()[1], whole()[0]},
		"eight":        {begins, "int b;", "static int b;", "extern int b; int *c = &b;", "static int b = 2;", "int f(int b);", "int g(int b) { return b; }", "int f(int c) { return c; }"},
		"nine":         {begins, "int b;", "", "", "", "", "", "", "int c;"},
		"twice":        {"int f(int v) { return v; }", begins, "int f(int w) { return w; }"},
		"not agreeing": {"int a[3];", begins, "extern int a[2]; int *p = a;"},
		"needed":       {"static int a;", "extern int a; int *p = &a;", begins},
		"no main":      {"int a = 1;", "extern int a; static int *p = &a;"},
	}
}

// allTold tells all that is answered of modules: their program, and their faces.
func allTold(mods []api.Module) string {
	s := fmt.Sprint(ask(mods))
	for _, m := range mods {
		defined, needed := bind.Faces(m)
		s += fmt.Sprintf(" %q %q", defined, needed)
	}
	return s
}

// remade are modules, each made again, in a list with room behind it.
func remade(mods []api.Module, again func(api.Module) api.Module) []api.Module {
	all := make([]api.Module, 0, len(mods)+2)
	for _, m := range mods {
		all = append(all, again(m))
	}
	return all
}

func modsTold(mods []api.Module) (s string) {
	for _, m := range mods {
		s += told(m) + " "
	}
	return s
}

// What is handed in is as it was, and so is the room behind its lists.
func TestKeepsWhatIsHandedIn(t *testing.T) {
	for what, texts := range ownTexts() {
		mods := checked(t, texts...)
		before, want := modsTold(mods), allTold(mods)
		if modsTold(mods) != before || modsTold(checked(t, texts...)) != before {
			t.Errorf("P14.3: %s: what was handed in is now another", what)
		}
		roomy := remade(mods, helps.RoomyModule)
		behind := one(t, "int behind;")
		helps.Fill(roomy[len(roomy):cap(roomy)], behind)
		wholes := modsTold(remade(roomy, helps.WholeModule))
		if got := allTold(roomy); got != want {
			t.Errorf("P14.3: %s: with room behind its lists another answer: %s", what, helps.Around(got, want))
		}
		if modsTold(remade(roomy, helps.WholeModule)) != wholes || modsTold(roomy[len(roomy):cap(roomy)]) != modsTold([]api.Module{behind, behind}) {
			t.Errorf("P14.3: %s: what was handed in, or the room behind it, is now another", what)
		}
	}
}

// What is answered shares no memory with what was handed in, nor with another answer, nor have two lists of it any.
func TestAnswersAreNewMemory(t *testing.T) {
	kept := func(m api.Module) api.Module { return m }
	for what, texts := range ownTexts() {
		for _, again := range []func(api.Module) api.Module{kept, helps.RoomyModule, helps.CloneModule} {
			mods := remade(checked(t, texts...), again)
			want, before := allTold(mods), modsTold(mods)
			a, _, _ := bind.Bind(mods)
			b, _, _ := bind.Bind(mods)
			if helps.Meet(append([]api.Module{a, b}, mods...)...) {
				t.Errorf("P14.3: %s: answers share memory with each other, or with what was handed in", what)
			}
			first := told(b)
			if helps.SpoilModule(a); told(b) != first || allTold(mods) != want || modsTold(mods) != before {
				t.Errorf("P14.3: %s: what changes in an answer changes another one, or what was handed in", what)
			}
			for _, m := range mods {
				helps.SpoilModule(m)
			}
			if told(b) != first {
				t.Errorf("P14.3: %s: what changes in what was handed in changes an answer", what)
			}
		}
	}
}

// One module at several places of the list: its parts in the program share nothing.
func TestOneModuleAgain(t *testing.T) {
	m := one(t, "static int a[3] = {1, 2, 3}; static int *f(int v) { int w = a[v + 1]; { return &a[w]; } }")
	mods := []api.Module{m, m, one(t, begins), m}
	got, at, e := bind.Bind(mods)
	if len(got.Decls) != 7 || at != 0 || e != api.OK || helps.Meet(got) || helps.Meet(got, m) {
		t.Errorf("P14.3: of one module at three places: error %d at %d, %s", e, at, shown(got))
	}
	if want := modelProgram(mods); told(got) != told(want) {
		t.Errorf("P14.1: of one module at three places: %s, want %s", shown(got), shown(want))
	}
}

// loose is a module whose texts stand in bytes that may change; what is answered changes them.
func loose(m api.Module) (api.Module, func()) {
	var all [][]byte
	m = helps.CloneModule(m)
	helps.Names(&m, func(s *string) {
		if *s != "" {
			b := []byte(*s)
			all = append(all, b)
			*s = unsafe.String(&b[0], len(b))
		}
	})
	return m, func() {
		for _, b := range all {
			helps.Fill(b, '~')
		}
	}
}

// The bytes of all names and operators change behind the calls: so it is seen whether an answer has some of them.
func TestNamesAreNewMemory(t *testing.T) {
	for what, texts := range ownTexts() {
		mods := checked(t, texts...)
		var all []api.Module
		var changes []func()
		for _, m := range mods {
			l, change := loose(m)
			all = append(all, l)
			changes = append(changes, change)
		}
		m, at, e := bind.Bind(all)
		var allFaces [][]string
		for _, l := range all {
			defined, needed := bind.Faces(l)
			allFaces = append(allFaces, defined, needed)
		}
		for _, change := range changes {
			change()
		}
		if got, want := (answer{told(m), at, e}), ask(mods); got != want {
			t.Errorf("P14.3: %s: an answer has bytes of what was handed in: .. %s ..", what, helps.Around(got.program, want.program))
		}
		for n, x := range mods {
			defined, needed := bind.Faces(x)
			if got, want := fmt.Sprint(allFaces[2*n:2*n+2]), fmt.Sprint([][]string{defined, needed}); got != want {
				t.Errorf("P14.3: %s: faces have bytes of what was handed in: %s, want %s", what, got, want)
			}
		}
	}
}

// The lists of names are new ones each time.
func TestFacesAreNewMemory(t *testing.T) {
	for _, s := range append(whole(), "int a; int b; extern int c; extern int d; int *p = &c; int *q = &d;") {
		m := one(t, s)
		defined, needed := bind.Faces(m)
		want := fmt.Sprint(defined, needed)
		again, more := bind.Faces(m)
		for _, l := range [][]string{defined, needed} {
			helps.Fill(l[:cap(l)], "spoilt")
		}
		if got := fmt.Sprint(again, more); got != want {
			t.Errorf("P14.3: Faces(%s): what changes in an answer changes another: %s, want %s", helps.Short(s), got, want)
		}
		if len(again) > 0 && len(more) > 0 {
			helps.Fill(again[:cap(again)], "spoilt")
			if got := fmt.Sprint(more); got != fmt.Sprint(secondOf(bind.Faces(m))) {
				t.Errorf("P14.3: Faces(%s): two lists of an answer share memory", helps.Short(s))
			}
		}
	}
}

func secondOf(_, l []string) []string {
	return l
}

// An answer hangs on nothing that was asked ahead of it; asked again, it is the same.
func TestAskedAgain(t *testing.T) {
	first := map[string]string{}
	seen := map[api.Errno]int{}
	all := map[string][]api.Module{}
	for what, texts := range ownTexts() {
		all[what] = checked(t, texts...)
	}
	for range 4 {
		for what, mods := range all {
			got := allTold(mods)
			if want, asked := first[what]; asked && got != want {
				t.Errorf("P14.3: %s: asked again it is another answer", what)
			}
			first[what] = got
			seen[ask(mods).e]++
		}
	}
	if len(seen) != 6 {
		t.Errorf("the test's texts lead to the errors %v alone", seen)
	}
	for what, texts := range ownTexts() {
		if len(texts) < 5 {
			allHolds(t, texts, checked(t, texts...))
		} else if got := allTold(checked(t, texts...)); got != first[what] {
			t.Errorf("P14.3: %s: checked again it is another answer", what)
		}
	}
}
