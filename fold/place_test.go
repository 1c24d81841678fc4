package fold_test

import (
	"fmt"
	"math/rand"
	"slices"
	"strconv"
	"testing"

	"solder/api"
	"solder/fold"
	"solder/helps"
)

// variable is one that there are places of.
type variable struct {
	text     string // its Decls
	name     string
	array    bool
	elements int
	of       int // a place's type
}

// first is an expression that is the variable's first place.
func (v variable) first() string {
	if v.array {
		return v.name
	}
	return "&" + v.name
}

// at is a place of the variable.
func (v variable) at(off int) fold.Const {
	return fold.Const{Type: v.of, Name: v.name, Off: off}
}

// variables are some of each kind.
func variables() (all []variable) {
	for _, number := range []string{"int", "double"} {
		of := map[string]int{"int": api.PInt, "double": api.PReal}[number]
		for _, ahead := range []string{"", "static ", "extern "} {
			all = append(all, variable{ahead + number + " x;", "x", false, 1, of})
			for _, length := range []int{1, 2, 5, 1000} {
				all = append(all, variable{ahead + number + " x[" + strconv.Itoa(length) + "];", "x", true, length, of})
			}
		}
		all = append(all,
			variable{"extern " + number + " x[4]; " + number + " x[4];", "x", true, 4, of},
			variable{number + " x; extern " + number + " x;", "x", false, 1, of},
			variable{"int y[9]; double w[8]; int z; extern " + number + " x[3]; int v[7];", "x", true, 3, of},
		)
	}
	return all
}

// places says whether an expression behind a variable is its place with an Off, or, where there is none, not constant
// at a place of the text.
func (v variable) places(t *testing.T, text string, off, fault int) {
	t.Helper()
	ahead := v.text + " void f() { "
	m := checked(t, ahead+text+"; }")
	x := m.Decls[len(m.Decls)-1].Body.Kids[0].Exprs[0]
	want := answer{v.at(off), 0, api.OK}
	if off < 0 || off > v.elements {
		want = answer{fold.Const{}, len(ahead) + fault, api.ErrConst}
	}
	if got := ask(m, x); got != want {
		t.Errorf("P13.1: Eval(%s) with %s: %v, want %v", text, helps.Short(v.text), got, want)
	}
	asModel(t, text, m, x)
}

// moves are words around the ends of v, and at those of words.
func (v variable) moves() []uint32 {
	all := ends()
	for _, n := range []int{v.elements - 1, v.elements, v.elements + 1} {
		all = append(all, uint32(n), uint32(-n))
	}
	return all
}

// signedText tells a word as what it means signed.
func signedText(w uint32) string {
	return strconv.Itoa(int(int32(w)))
}

// Each move by a word, from each end of each variable.
func TestMoves(t *testing.T) {
	for _, v := range variables() {
		v.places(t, v.first(), 0, 0)
		for _, w := range v.moves() {
			by := int(int32(w))
			for _, word := range []string{strconv.Itoa(int(w)), signedText(w), "(int) " + signedText(w)} {
				v.places(t, v.first()+" + "+word, by, 0)
				v.places(t, v.first()+" - "+word, -by, 0)
				v.places(t, "&("+v.first()+")["+word+"]", by, 0)
			}
			for _, from := range []int{1, v.elements / 2, v.elements} {
				if from == 0 || from > v.elements {
					continue
				}
				start := fmt.Sprintf("(%s + %d)", v.first(), from)
				v.places(t, start+" + "+strconv.Itoa(int(w)), from+by, 1)
				v.places(t, start+" - "+signedText(w), from-by, 1)
				v.places(t, "&"+start+"["+signedText(w)+"]", from+by, 0)
			}
		}
	}
}

// An Off is from 0 to how many elements there are: told one by one.
func TestHandToldPlaces(t *testing.T) {
	is(t, "a + 0", intsAt("a", 0))
	is(t, "a - 0", intsAt("a", 0))
	is(t, "a + 3", intsAt("a", 3))
	is(t, "&a[0]", intsAt("a", 0))
	is(t, "&a[2]", intsAt("a", 2))
	is(t, "&a[3]", intsAt("a", 3))
	not(t, "@&a[4]")
	not(t, "@&a[-1]")
	not(t, "@a + -1")
	is(t, "a - -1", intsAt("a", 1))
	is(t, "a + 3 - 3", intsAt("a", 0))
	is(t, "a + 3 + -1", intsAt("a", 2))
	is(t, "a + 3 + 4294967295", intsAt("a", 2))
	is(t, "a - 4294967295", intsAt("a", 1))
	is(t, "&(a + 3)[-3]", intsAt("a", 0))
	is(t, "&(a + 2)[4294967295]", intsAt("a", 1))
	is(t, "&i + 1", intsAt("i", 1))
	is(t, "&i + 1 - 1", intsAt("i", 0))
	is(t, "&(&i)[1]", intsAt("i", 1))
	is(t, "&(&d + 1)[-1]", realsAt("d", 0))
	not(t, "@a + 2147483647")
	not(t, "@a - 2147483648")
	not(t, "@a - -2147483648")
	not(t, "@a + -2147483648")
	not(t, "@a + 3 + 4294967295 + 2")
	is(t, "a + 3 * 1 - (4 - 2)", intsAt("a", 1))
	is(t, "&a[1 + (1 < 2)]", intsAt("a", 2))
	is(t, "&(&(&a[1])[1])[1]", intsAt("a", 3))
	is(t, "&(a + 1)[1] - 2", intsAt("a", 0))
	// Each sum on the way must be one: it doesn't help to come back.
	is(t, "a + 1 + 1 + 1 - 3", intsAt("a", 0))
	not(t, "@a + 4 - 1")
	not(t, "@a - 1 + 1")
	not(t, "&(@a - 1)[1]")
	not(t, "&(@a + 4)[-1]")
	not(t, "&(@&a[4])[-1]")
	not(t, "@&i + 2 - 1")
	not(t, "@&a[-1] + 1")
	is(t, "a + (4 - 1)", intsAt("a", 3))
	is(t, "a + (0 - 1 + 1)", intsAt("a", 0))
	// A local or a param is no variable that a module defines, though an array's name is its place too.
	not(t, "@l")
	not(t, "&@l[0]")
	not(t, "@&m")
	not(t, "@&n")
}

// A local hides a variable; behind its block the variable is meant again.
func TestHiddenVariables(t *testing.T) {
	m := checked(t, "int a[3]; int x; void f(int x) { { int a[2]; a; &a[1]; &x; } a; &a[1]; } void g(int *a) { a; a + 1; &x; }")
	f, g := m.Decls[2].Body.Kids, m.Decls[3].Body.Kids
	for n, c := range []struct {
		x    api.Expr
		want fold.Const
	}{
		{f[0].Kids[1].Exprs[0], fold.Const{}}, {f[0].Kids[2].Exprs[0], fold.Const{}}, {f[0].Kids[3].Exprs[0], fold.Const{}},
		{f[1].Exprs[0], intsAt("a", 0)}, {f[2].Exprs[0], intsAt("a", 1)},
		{g[0].Exprs[0], fold.Const{}}, {g[1].Exprs[0], fold.Const{}}, {g[2].Exprs[0], intsAt("x", 0)},
	} {
		want := answer{c.want, 0, api.OK}
		if c.want.Name == "" {
			// Where it stands, or its first part; but behind the & of an index that part is asked for.
			want = answer{fold.Const{}, c.x.At, api.ErrConst}
			if c.x.Kind == api.EUnary && c.x.Kids[0].Kind == api.EIndex {
				want.at++
			}
		}
		if got := ask(m, c.x); got != want {
			t.Errorf("P13.1: expression %d: Eval: %v, want %v", n, got, want)
		}
	}
}

// Sums of many steps, right while each of them is.
func TestManySteps(t *testing.T) {
	source := rand.New(rand.NewSource(60))
	right := 0
	for range 3000 {
		v := variables()[source.Intn(len(variables()))]
		text, off, held := v.first(), 0, true
		for range 1 + source.Intn(6) {
			by := source.Intn(2*v.elements+3) - v.elements - 1
			if source.Intn(4) > 0 {
				by = source.Intn(v.elements+1) - off
			}
			switch source.Intn(3) {
			case 0:
				text += fmt.Sprintf(" + %d", by)
			case 1:
				text += fmt.Sprintf(" - %d", -by)
			default:
				text = fmt.Sprintf("&(%s)[%d]", text, by)
			}
			off += by
			held = held && 0 <= off && off <= v.elements
		}
		m := checked(t, v.text+" void f() { "+text+"; }")
		x := m.Decls[len(m.Decls)-1].Body.Kids[0].Exprs[0]
		got := ask(m, x)
		if held {
			right++
			if got != (answer{v.at(off), 0, api.OK}) {
				t.Errorf("P13.1: Eval(%s) with %s: %v, want the Off %d", text, helps.Short(v.text), got, off)
			}
		} else if got.c != (fold.Const{}) || got.e != api.ErrConst {
			t.Errorf("P13.1: Eval(%s) with %s: %v, but a step leads beyond", text, helps.Short(v.text), got)
		}
		asModel(t, text, m, x)
	}
	if right < 800 || right > 2500 {
		t.Errorf("of the test's sums %d are right", right)
	}
}

// Names that are alike, with another type and Len each, are told apart.
func TestManyVariables(t *testing.T) {
	var names []string
	text := ""
	for n := range 200 {
		name := "v" + strconv.Itoa(n*7%200)
		names = append(names, name)
		text += fmt.Sprintf("%s %s[%d]; ", []string{"int", "double"}[n%2], name, n+1)
	}
	m := checked(t, text)
	for n, d := range m.Decls {
		of := []int{api.PInt, api.PReal}[n%2]
		name := api.Expr{Kind: api.EName, Name: names[n], Num: 1, Type: of}
		for _, off := range []int{0, 1, n, n + 1, n + 2} {
			x := api.Expr{Kind: api.EBinary, Op: "+", Kids: []api.Expr{name, {Kind: api.ENum, Num: uint32(off), Type: api.Int}}, Type: of, At: d.At}
			want := answer{fold.Const{Type: of, Name: names[n], Off: off}, 0, api.OK}
			if off > n+1 {
				want = answer{fold.Const{}, d.At, api.ErrConst}
			}
			if got := ask(m, x); got != want {
				t.Errorf("P13.1: Eval(%s + %d): %v, want %v", names[n], off, got, want)
			}
		}
	}
	if !slices.Contains(names, "v199") {
		t.Error("the test's names are others")
	}
}
