package parse_test

import (
	"fmt"
	"strings"
	"testing"
	"unsafe"

	"solder/api"
	"solder/helps"
	"solder/parse"
)

// ownTexts are texts by what is answered of them.
func ownTexts() map[string]string {
	all := map[string]string{
		"empty":       "",
		"one":         "int name;",
		"whole":       whole(),
		"many":        strings.Repeat("int a=b;", 400),
		"inits":       "int a[9] = {1, b, f(1, 2, 3), -4, a[5]};",
		"params":      "void f(int a, double *b, int *c, void d, int e);",
		"statements":  bodyHead + "int a; ; { return a; } if (a) ; else { } a = b = c;" + bodyTail,
		"no token":    "int a = 1.;",
		"too long":    strings.Repeat(" ", 8193),
		"no sentence": "int a; int f(int x) { return x; } int b[2] = {1, 2",
	}
	for n, x := range wrongs {
		all[fmt.Sprint("wrong ", n)] = x.text
	}
	return all
}

// What is answered may be changed and lengthened, and nothing else changes with it.
func TestAnswersAreNewMemory(t *testing.T) {
	for what, s := range ownTexts() {
		want := ask(s)
		a, _, _ := parse.Parse(s)
		b, _, _ := parse.Parse(s)
		helps.SpoilModule(a)
		if told(b) != want.module {
			t.Errorf("P11.3: %s: an answer shares its memory with another", what)
		}
		is(t, "P11.3", s, want)
	}
}

func TestListsAreTheirOwn(t *testing.T) {
	for what, s := range ownTexts() {
		m, _, _ := parse.Parse(s)
		if helps.Meet(m) {
			t.Errorf("P11.3: %s: two lists of an answer share memory", what)
		}
	}
}

// The text's bytes change behind the call: so it is seen whether an answer has some of them.
func TestNamesAreNoPiecesOfTheText(t *testing.T) {
	for what, s := range ownTexts() {
		if s == "" {
			continue
		}
		want := ask(s)
		b := []byte(s)
		m, at, e := parse.Parse(unsafe.String(&b[0], len(b)))
		if string(b) != s {
			t.Errorf("P11.3: %s: what was handed in is now another", what)
		}
		helps.Fill(b, '~')
		if got := (answer{told(m), at, e}); got != want {
			t.Errorf("P11.3: %s: an answer has the text's own bytes", what)
		}
	}
}

// Show changes nothing in what is handed in, nor behind it, and answers no piece of it.
func TestShowKeepsWhatIsHandedIn(t *testing.T) {
	for what, s := range ownTexts() {
		m, _, e := parse.Parse(s)
		if e != api.OK {
			continue
		}
		want := parse.Show(m)
		r := helps.RoomyModule(m)
		before := told(helps.WholeModule(r))
		if got := parse.Show(r); got != want {
			t.Errorf("P11.3: %s: with room behind its lists it is shown as %s, not %s", what, helps.Short(got), helps.Short(want))
		}
		if told(helps.WholeModule(r)) != before {
			t.Errorf("P11.3: %s: what was handed in is now another", what)
		}
	}
	b := []byte("name")
	m := api.Module{Decls: []api.Decl{{Name: unsafe.String(&b[0], len(b)), Type: api.Int}}}
	s := parse.Show(m)
	helps.Fill(b, '~')
	if s != "int name;\n" {
		t.Errorf("P11.3: what is shown has a name's own bytes: %s", s)
	}
}

// An answer hangs on nothing that was asked ahead of it.
func TestAskedAgain(t *testing.T) {
	first := map[string]answer{}
	seen := map[api.Errno]int{}
	for range 3 {
		for what, s := range ownTexts() {
			got := ask(s)
			if want, asked := first[what]; asked && got != want {
				t.Errorf("P11.3: %s: asked again it is another answer", what)
			}
			first[what] = got
			seen[got.e]++
		}
	}
	if len(seen) != 7 {
		t.Errorf("the test's texts lead to the errors %v alone", seen)
	}
}
