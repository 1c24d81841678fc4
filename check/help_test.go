package check_test

import (
	"fmt"
	"strings"
	"testing"

	"solder/api"
	"solder/check"
	"solder/helps"
	"solder/parse"
)

// answer is what Check answers, its module told.
type answer struct {
	module string
	at     int
	e      api.Errno
}

// told tells a module, each field of each part; an empty list is told as none is.
func told(m api.Module) string {
	return fmt.Sprintf("%+v", m)
}

// parsed is the module of a text in which nothing may be wrong.
func parsed(t *testing.T, text string) api.Module {
	t.Helper()
	m, at, e := parse.Parse(text)
	if e != api.OK {
		t.Fatalf("the test's text %s isn't parsed: error %d at %d", helps.Short(text), e, at)
	}
	return m
}

func ask(m api.Module) answer {
	c, at, e := check.Check(m)
	return answer{told(c), at, e}
}

// modelled is what the model answers, and why.
func modelled(m api.Module) (answer, string) {
	c, at, e, why := model(m)
	return answer{told(c), at, e}, why
}

// asModel says whether Check answers of a text what the model does, and of what is right whether all promises hold.
// It answers the error, and why the model tells it.
func asModel(t *testing.T, text string) (api.Errno, string) {
	t.Helper()
	m := parsed(t, text)
	want, why := modelled(m)
	got := ask(m)
	if got.at != want.at || got.e != want.e {
		t.Errorf("P12.1: Check(%s): error %d at %d, want %d at %d (%s)", helps.Short(text), got.e, got.at, want.e, want.at, why)
		return want.e, why
	}
	if got.module != want.module {
		t.Errorf("P12.1: Check(%s): .. %s .., want .. %s ..", helps.Short(text), helps.Around(got.module, want.module), helps.Around(want.module, got.module))
	}
	if got.e == api.OK {
		keepsAllElse(t, text)
		follows(t, text)
	}
	return want.e, why
}

// right says whether a text is right.
func right(t *testing.T, text string) {
	t.Helper()
	if got := ask(parsed(t, text)); got.e != api.OK || got.at != 0 {
		t.Errorf("P12.1: Check(%s): error %d at %d, want none", helps.Short(text), got.e, got.at)
	}
	asModel(t, text)
}

// wrong says whether a text is wrong at the place that is marked by a @.
func wrong(t *testing.T, marked string, e api.Errno) {
	t.Helper()
	ahead, behind, has := strings.Cut(marked, "@")
	if !has || strings.Contains(behind, "@") {
		t.Fatalf("the test's text %s has not one mark", helps.Short(marked))
	}
	want := answer{told(api.Module{}), len(ahead), e}
	if got := ask(parsed(t, ahead+behind)); got.e != want.e || got.at != want.at {
		t.Errorf("P12.1: Check(%s): error %d at %d, want %d at the mark, %d", helps.Short(marked), got.e, got.at, want.e, want.at)
	} else if got != want {
		t.Errorf("P12.1: Check(%s): beside an error a module: %s", helps.Short(marked), got.module)
	}
	asModel(t, ahead+behind)
}

// is says whether a text is wrong at its mark with an error, or, if that is none, right.
func is(t *testing.T, marked string, e api.Errno) {
	t.Helper()
	if e == api.OK {
		right(t, strings.Replace(marked, "@", "", 1))
		return
	}
	wrong(t, marked, e)
}

// becomes says whether a text is right, and how the module that was checked is sketched.
func becomes(t *testing.T, text, want string) {
	t.Helper()
	right(t, text)
	c, _, _ := check.Check(parsed(t, text))
	if got := sketch(c); got != want {
		t.Errorf("P12.1: Check(%s): %s, want %s", helps.Short(text), got, want)
	}
}

// keepsAllElse says whether a module that was checked is, but for types, names and Nums of names, what was handed in.
func keepsAllElse(t *testing.T, text string) {
	t.Helper()
	m := parsed(t, text)
	c, _, _ := check.Check(m)
	if a, b := told(bare(m)), told(bare(c)); a != b {
		t.Errorf("P12.1: Check(%s) changed something else: .. %s .. became .. %s ..", helps.Short(text), helps.Around(a, b), helps.Around(b, a))
	}
}

// bare is a module without what a check may tell: the types of its expressions, what params and locals are called, and
// the Nums of EName.
func bare(m api.Module) api.Module {
	c := helps.CloneModule(m)
	helps.Walk(&c, func(x *api.Expr) {
		x.Type = 0
		if x.Kind == api.EName {
			x.Name, x.Num = "", 0
		}
	}, func(s *api.Stmt) { s.Name = "" })
	for _, d := range c.Decls {
		for n := range d.Params {
			d.Params[n].Name = ""
		}
	}
	return c
}
