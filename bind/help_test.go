package bind_test

import (
	"fmt"
	"slices"
	"strconv"
	"strings"
	"testing"

	"solder/api"
	"solder/bind"
	"solder/check"
	"solder/helps"
	"solder/parse"
)

// begins is a module that has a main, and nothing else.
const begins = "int main() { return 0; }"

// checked are the modules of texts in which nothing may be wrong.
func checked(t *testing.T, texts ...string) []api.Module {
	t.Helper()
	var all []api.Module
	for _, text := range texts {
		m, at, e := parse.Parse(text)
		if e != api.OK {
			t.Fatalf("the test's text %s isn't parsed: error %d at %d", helps.Short(text), e, at)
		}
		c, at, e := check.Check(m)
		if e != api.OK {
			t.Fatalf("the test's text %s isn't right: error %d at %d", helps.Short(text), e, at)
		}
		all = append(all, c)
	}
	return all
}

// one is the module of a text in which nothing may be wrong.
func one(t *testing.T, text string) api.Module {
	t.Helper()
	return checked(t, text)[0]
}

// answer is what Bind answers, its program told.
type answer struct {
	program string
	at      int
	e       api.Errno
}

// told tells a module, each field of each part; an empty list is told as none is.
func told(m api.Module) string {
	return fmt.Sprintf("%+v", m)
}

func ask(mods []api.Module) answer {
	m, at, e := bind.Bind(mods)
	return answer{told(m), at, e}
}

// shown is a module's text, in one line.
func shown(m api.Module) string {
	return strings.Join(strings.Fields(parse.Show(m)), " ")
}

// bound are the modules of texts that must be bound, and their program.
func bound(t *testing.T, texts ...string) ([]api.Module, api.Module) {
	t.Helper()
	mods := checked(t, texts...)
	m, at, e := bind.Bind(mods)
	if at != 0 || e != api.OK {
		t.Errorf("P14.1: Bind(%q): error %d at %d, want none", texts, e, at)
	}
	return mods, m
}

// binds says whether texts are bound, and what their program is; and whether it is in all else as it must be.
func binds(t *testing.T, want string, texts ...string) {
	t.Helper()
	mods, m := bound(t, texts...)
	if got := shown(m); got != want {
		t.Errorf("P14.1: Bind(%q): %s, want %s", texts, got, want)
	}
	allHolds(t, texts, mods)
}

// fails says whether texts aren't bound: at the one that begins with a mark, an @, or at 0.
func fails(t *testing.T, e api.Errno, marked ...string) {
	t.Helper()
	at, texts := unmarked(marked)
	mods := checked(t, texts...)
	if got, want := ask(mods), (answer{told(api.Module{}), at, e}); got != want {
		t.Errorf("P14.1: Bind(%q): error %d at %d, want %d at %d; beside it %s", marked, got.e, got.at, e, at, helps.Short(got.program))
	}
	allHolds(t, texts, mods)
}

// unmarked are texts without their mark, and the number of that which had it.
func unmarked(marked []string) (at int, texts []string) {
	for n, s := range marked {
		text, has := strings.CutPrefix(s, "@")
		if has {
			at = n
		}
		texts = append(texts, text)
	}
	return at, texts
}

// inOrders says whether some texts are bound in each order, if no error is told; else that they are so in none: with that
// error, at the first of those that begin with a mark, or, if something is defined twice, at the second.
func inOrders(t *testing.T, e api.Errno, marked ...string) {
	t.Helper()
	for _, order := range helps.Orders(len(marked), 4) {
		var texts []string
		var marks []int
		for n, s := range helps.InOrder(marked, order) {
			text, has := strings.CutPrefix(s, "@")
			if has {
				marks = append(marks, n)
			}
			texts = append(texts, text)
		}
		at := 0
		switch e {
		case api.ErrTwice:
			at = marks[1]
		case api.ErrMatch, api.ErrNone:
			at = marks[0]
		}
		if got := ask(checked(t, texts...)); got.at != at || got.e != e {
			t.Errorf("P14.1: Bind(%q): error %d at %d, want %d at %d", texts, got.e, got.at, e, at)
		}
	}
	_, texts := unmarked(marked)
	allHolds(t, texts, checked(t, texts...))
}

// allHolds says whether all that the chapter promises holds of modules.
func allHolds(t *testing.T, texts []string, mods []api.Module) {
	t.Helper()
	m, at, e := bind.Bind(mods)
	if wantAt, wantE := modelFault(mods); at != wantAt || e != wantE {
		t.Errorf("P14.1: Bind(%q): error %d at %d, want %d at %d", texts, e, at, wantE, wantAt)
	}
	anyOrder(t, texts, mods, m, e)
	if e != api.OK {
		return
	}
	if want := modelProgram(mods); told(m) != told(want) {
		t.Errorf("P14.1: Bind(%q): .. %s .., want .. %s ..", texts, helps.Around(told(m), told(want)), helps.Around(told(want), told(m)))
	}
	if got, want := ask([]api.Module{m}), (answer{told(m), 0, api.OK}); got != want {
		t.Errorf("P14.1: Bind(%q) asked of what it answered: error %d at %d, .. %s ..", texts, got.e, got.at, helps.Around(got.program, want.program))
	}
	defined, needed := bind.Faces(m)
	if want := namesOf(m); !slices.Equal(defined, want) || len(needed) > 0 {
		t.Errorf("P14.1: Faces of the program of %q: %q and %q, want %q and none", texts, defined, needed, want)
	}
	for n, x := range mods {
		facesAsModel(t, texts[n], x)
	}
}

// namesOf are the names of a program's Decls, rising.
func namesOf(m api.Module) (all []string) {
	for _, d := range m.Decls {
		all = append(all, d.Name)
	}
	slices.Sort(all)
	return all
}

// anyOrder says whether modules in other orders are bound if they are so, with the same Decls but for the names of
// Static ones; else with the same error.
func anyOrder(t *testing.T, texts []string, mods []api.Module, m api.Module, e api.Errno) {
	t.Helper()
	for _, order := range helps.Orders(len(mods), 4) {
		got, _, gotE := bind.Bind(helps.InOrder(mods, order))
		if gotE != e {
			t.Errorf("P14.2: Bind(%q), in the order%s: error %d, want %d", texts, helps.Line(order), gotE, e)
			continue
		}
		if a, b := declsTold(got, order), declsTold(m, nil); !slices.Equal(a, b) {
			t.Errorf("P14.2: Bind(%q), in the order%s: the Decls are %s, want %s", texts, helps.Line(order), a, b)
		}
	}
}

// declsTold tells a program's Decls, in the order of what is told; Static ones are called by the number of the module
// where it stood ahead of an order.
func declsTold(m api.Module, order []int) (all []string) {
	m = helps.CloneModule(m)
	helps.Names(&m, func(name *string) {
		number, behind, has := strings.Cut(*name, ".")
		if now, e := strconv.Atoi(number); has && e == nil && order != nil {
			*name = strconv.Itoa(order[now]) + "." + behind
		}
	})
	for _, d := range m.Decls {
		all = append(all, told(api.Module{Decls: []api.Decl{d}}))
	}
	slices.Sort(all)
	return all
}

// faces says what a text's faces are: names with blanks between them.
func faces(t *testing.T, text, wantDefined, wantNeeded string) {
	t.Helper()
	m := one(t, text)
	defined, needed := bind.Faces(m)
	if !slices.Equal(defined, strings.Fields(wantDefined)) || !slices.Equal(needed, strings.Fields(wantNeeded)) {
		t.Errorf("P14.1: Faces(%s): %q and %q, want %q and %q", helps.Short(text), defined, needed, wantDefined, wantNeeded)
	}
	facesAsModel(t, text, m)
}

// facesAsModel says whether a module's faces are as the model has them.
func facesAsModel(t *testing.T, text string, m api.Module) {
	t.Helper()
	defined, needed := bind.Faces(m)
	wantDefined, wantNeeded := modelFaces(m)
	if !slices.Equal(defined, wantDefined) || !slices.Equal(needed, wantNeeded) {
		t.Errorf("P14.1: Faces(%s): %q and %q, want %q and %q", helps.Short(text), defined, needed, wantDefined, wantNeeded)
	}
}
