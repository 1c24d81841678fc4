package parse_test

import (
	"fmt"
	"strings"
	"testing"
	"unsafe"

	"solder/api"
	"solder/helps"
	"solder/parse"
)

// ownTexts are texts by what is answered of them.
func ownTexts() map[string]string {
	all := map[string]string{
		"empty":       "",
		"one":         "int name;",
		"whole":       whole(),
		"many":        strings.Repeat("int a=b;", 400),
		"inits":       "int a[9] = {1, b, f(1, 2, 3), -4, a[5]};",
		"params":      "void f(int a, double *b, int *c, void d, int e);",
		"statements":  bodyHead + "int a; ; { return a; } if (a) ; else { } a = b = c;" + bodyTail,
		"no token":    "int a = 1.;",
		"too long":    strings.Repeat(" ", 8193),
		"no sentence": "int a; int f(int x) { return x; } int b[2] = {1, 2",
	}
	for n, x := range wrongs {
		all[fmt.Sprint("wrong ", n)] = x.text
	}
	return all
}

// eachList calls with all lists of a module, as they are and with the room behind them.
func eachList(m api.Module, decls func([]api.Decl), params func([]api.Param), stmts func([]api.Stmt), exprs func([]api.Expr)) {
	var inExprs func([]api.Expr)
	inExprs = func(l []api.Expr) {
		for _, x := range l {
			inExprs(x.Kids)
		}
		exprs(l)
	}
	var inStmts func([]api.Stmt)
	inStmts = func(l []api.Stmt) {
		for _, s := range l {
			inExprs(s.Exprs)
			inStmts(s.Kids)
		}
		stmts(l)
	}
	for _, d := range m.Decls {
		inExprs(d.Inits)
		params(d.Params)
		inExprs(d.Body.Exprs)
		inStmts(d.Body.Kids)
	}
	decls(m.Decls)
}

// spoil makes all that a module has something else, and the room behind it.
func spoil(m api.Module) {
	eachList(m,
		func(l []api.Decl) { helps.Fill(l[:cap(l)], api.Decl{Name: "spoilt", Type: 9, At: -1}) },
		func(l []api.Param) { helps.Fill(l[:cap(l)], api.Param{Name: "spoilt", Type: 9, At: -1}) },
		func(l []api.Stmt) { helps.Fill(l[:cap(l)], api.Stmt{Kind: 99, Name: "spoilt", At: -1}) },
		func(l []api.Expr) { helps.Fill(l[:cap(l)], api.Expr{Kind: 99, Name: "spoilt", At: -1}) },
	)
}

// What is answered may be changed and lengthened, and nothing else changes with it.
func TestAnswersAreNewMemory(t *testing.T) {
	for what, s := range ownTexts() {
		want := ask(s)
		a, _, _ := parse.Parse(s)
		b, _, _ := parse.Parse(s)
		spoil(a)
		if told(b) != want.module {
			t.Errorf("P11.3: %s: an answer shares its memory with another", what)
		}
		is(t, "P11.3", s, want)
	}
}

// counted says whether lists stand in memory of which no other list of the same answer has any, nor any room behind it.
func counted[E any](seen map[*E]bool) func([]E) {
	return func(l []E) {
		for n := range l[:cap(l)] {
			if seen[&l[:cap(l)][n]] {
				seen[nil] = true
			}
			seen[&l[:cap(l)][n]] = true
		}
	}
}

func TestListsAreTheirOwn(t *testing.T) {
	for what, s := range ownTexts() {
		m, _, _ := parse.Parse(s)
		decls, params, stmts, exprs := map[*api.Decl]bool{}, map[*api.Param]bool{}, map[*api.Stmt]bool{}, map[*api.Expr]bool{}
		eachList(m, counted(decls), counted(params), counted(stmts), counted(exprs))
		if decls[nil] || params[nil] || stmts[nil] || exprs[nil] {
			t.Errorf("P11.3: %s: two lists of an answer share memory", what)
		}
	}
}

// The text's bytes change behind the call: so it is seen whether an answer has some of them.
func TestNamesAreNoPiecesOfTheText(t *testing.T) {
	for what, s := range ownTexts() {
		if s == "" {
			continue
		}
		want := ask(s)
		b := []byte(s)
		m, at, e := parse.Parse(unsafe.String(&b[0], len(b)))
		if string(b) != s {
			t.Errorf("P11.3: %s: what was handed in is now another", what)
		}
		helps.Fill(b, '~')
		if got := (answer{told(m), at, e}); got != want {
			t.Errorf("P11.3: %s: an answer has the text's own bytes", what)
		}
	}
}

// roomy is a module whose lists have room behind them, with something in it.
func roomy(m api.Module) api.Module {
	var exprs func([]api.Expr) []api.Expr
	exprs = func(l []api.Expr) []api.Expr {
		all := make([]api.Expr, 0, len(l)+2)
		for _, x := range l {
			x.Kids = exprs(x.Kids)
			all = append(all, x)
		}
		return append(all, api.Expr{Name: "behind"})[:len(l)]
	}
	var stmts func([]api.Stmt) []api.Stmt
	stmts = func(l []api.Stmt) []api.Stmt {
		all := make([]api.Stmt, 0, len(l)+2)
		for _, s := range l {
			s.Exprs, s.Kids = exprs(s.Exprs), stmts(s.Kids)
			all = append(all, s)
		}
		return append(all, api.Stmt{Name: "behind"})[:len(l)]
	}
	all := make([]api.Decl, 0, len(m.Decls)+2)
	for _, d := range m.Decls {
		d.Inits = exprs(d.Inits)
		d.Params = append(append(make([]api.Param, 0, len(d.Params)+2), d.Params...), api.Param{Name: "behind"})[:len(d.Params)]
		d.Body = stmts([]api.Stmt{d.Body})[0]
		all = append(all, d)
	}
	return api.Module{Decls: append(all, api.Decl{Name: "behind"})[:len(m.Decls)]}
}

// withRoom tells a module, and the room behind its lists.
func withRoom(m api.Module) string {
	s := told(api.Module{Decls: m.Decls[:cap(m.Decls)]})
	eachList(m,
		func(l []api.Decl) { s += fmt.Sprint(len(l[:cap(l)])) },
		func(l []api.Param) { s += fmt.Sprint(l[:cap(l)]) },
		func(l []api.Stmt) { s += fmt.Sprint(l[:cap(l)]) },
		func(l []api.Expr) { s += fmt.Sprint(l[:cap(l)]) },
	)
	return s
}

// Show changes nothing in what is handed in, nor behind it, and answers no piece of it.
func TestShowKeepsWhatIsHandedIn(t *testing.T) {
	for what, s := range ownTexts() {
		m, _, e := parse.Parse(s)
		if e != api.OK {
			continue
		}
		want := parse.Show(m)
		r := roomy(m)
		before := withRoom(r)
		if got := parse.Show(r); got != want {
			t.Errorf("P11.3: %s: with room behind its lists it is shown as %s, not %s", what, short(got), short(want))
		}
		if withRoom(r) != before {
			t.Errorf("P11.3: %s: what was handed in is now another", what)
		}
	}
	b := []byte("name")
	m := api.Module{Decls: []api.Decl{{Name: unsafe.String(&b[0], len(b)), Type: api.Int}}}
	s := parse.Show(m)
	helps.Fill(b, '~')
	if s != "int name;\n" {
		t.Errorf("P11.3: what is shown has a name's own bytes: %s", s)
	}
}

// An answer hangs on nothing that was asked ahead of it.
func TestAskedAgain(t *testing.T) {
	first := map[string]answer{}
	seen := map[api.Errno]int{}
	for range 3 {
		for what, s := range ownTexts() {
			got := ask(s)
			if want, asked := first[what]; asked && got != want {
				t.Errorf("P11.3: %s: asked again it is another answer", what)
			}
			first[what] = got
			seen[got.e]++
		}
	}
	if len(seen) != 7 {
		t.Errorf("the test's texts lead to the errors %v alone", seen)
	}
}
