package bind_test

import (
	"fmt"
	"math"
	"math/rand"
	"testing"

	"solder/api"
	"solder/bind"
	"solder/helps"
	"solder/parse"
)

// Modules that Check did not answer: nothing is promised of them, but the calls answer something, and end.

// ended says whether Bind answers the same twice, and no module beside an error; and that Faces ends.
func ended(t *testing.T, what string, mods ...api.Module) {
	t.Helper()
	defer func() {
		if x := recover(); x != nil {
			t.Errorf("of %s nothing is answered: %v", what, x)
		}
	}()
	m, at, e := bind.Bind(mods)
	if e != api.OK && len(m.Decls) > 0 || e == api.OK && at != 0 {
		t.Errorf("of %s Bind answers error %d at %d, and %d Decls", what, e, at, len(m.Decls))
	}
	if _, at2, e2 := bind.Bind(mods); at2 != at || e2 != e {
		t.Errorf("of %s error %d at %d, and then %d at %d", what, e, at, e2, at2)
	}
	for _, m := range mods {
		defined, needed := bind.Faces(m)
		again, more := bind.Faces(m)
		if fmt.Sprint(defined, needed) != fmt.Sprint(again, more) {
			t.Errorf("of %s Faces answers %q and %q, and then %q and %q", what, defined, needed, again, more)
		}
	}
}

// ofExpr is a module with an expression.
func ofExpr(x api.Expr) api.Module {
	return ofStmt(api.Stmt{Kind: api.SExpr, Exprs: []api.Expr{x}})
}

// ofStmt is a module with a statement.
func ofStmt(s api.Stmt) api.Module {
	return api.Module{Decls: []api.Decl{
		{Func: true, Name: "main", Has: true, Type: api.Int, Body: api.Stmt{Kind: api.SBlock, Kids: []api.Stmt{s}}},
		{Name: "a", Static: true, Has: true, Type: api.Int, Inits: s.Exprs},
		{Func: true, Name: "g", Has: true, Body: s},
		{Func: true, Name: "f", Body: s},
	}}
}

func TestStrangeParts(t *testing.T) {
	kids := []api.Expr{{Kind: api.ENum, Num: 1}, {Kind: api.EName, Name: "a"}, {Kind: api.ECall, Name: "f"}, {}}
	stmts := []api.Stmt{{Kind: api.SExpr}, {}, {Kind: api.SIf}, {Kind: api.SBlock, Exprs: kids}}
	for _, kind := range []int{-1, 0, 1, 2, 3, 4, 5, 6, 7, 8, 9, 10, 100, math.MaxInt, math.MinInt} {
		for n := range 5 {
			for _, name := range []string{"", "a", "f", "putw", "$0", "0.a", "main"} {
				x := api.Expr{Kind: kind, Op: "-", Kids: kids[:n], Name: name, Num: uint32(kind), Type: 7}
				ended(t, "a strange expression", ofExpr(x), ofExpr(x))
				ended(t, "a strange expression in others", ofExpr(api.Expr{Kind: api.EBinary, Op: "+", Kids: []api.Expr{x, x}}))
			}
			for k := range 5 {
				ended(t, "a strange statement", ofStmt(api.Stmt{Kind: kind, Exprs: kids[:n], Kids: stmts[:k], Name: "$1", Type: kind, Len: kind}))
			}
			d := api.Decl{Name: "x", Type: kind, Len: kind, Has: true, Inits: kids[:n], Params: []api.Param{{Type: kind}, {}}, Body: api.Stmt{Kind: kind, Exprs: kids[:n], Kids: stmts[:n]}}
			for bits := range 16 {
				d.Func, d.Static, d.Extern, d.Has = bits&1 > 0, bits&2 > 0, bits&4 > 0, bits&8 > 0
				for _, name := range []string{"x", "main", "", "0.x", "getw"} {
					d.Name = name
					other := d
					other.Static = !d.Static
					ended(t, "strange declarations", api.Module{Decls: []api.Decl{d, other, d}}, api.Module{Decls: []api.Decl{other, {Name: "x"}}})
				}
			}
		}
	}
}

// Lists that hold themselves, and lists that are too long to have been parsed: they are refused.
func TestCircles(t *testing.T) {
	for kind := range 11 {
		for n := 1; n <= 3; n++ {
			l := make([]api.Expr, n)
			for k := range l {
				l[k] = api.Expr{Kind: kind, Op: "-", Name: "f", Kids: l}
			}
			refused(t, "expressions in themselves", ofExpr(l[0]))
			stmts := make([]api.Stmt, n)
			for k := range stmts {
				stmts[k] = api.Stmt{Kind: kind, Exprs: []api.Expr{{Kind: api.ENum}}[:min(1, kind%3)], Kids: stmts}
			}
			refused(t, "statements in themselves", ofStmt(stmts[0]))
		}
	}
	wide := make([]api.Expr, 100000)
	for k := range wide {
		wide[k] = api.Expr{Kind: api.ECall, Name: "f", Kids: wide}
	}
	refused(t, "many expressions in themselves", ofExpr(wide[0]))
	deep := api.Expr{Kind: api.ENum}
	for range 100000 {
		deep = api.Expr{Kind: api.EUnary, Op: "-", Kids: []api.Expr{deep}}
	}
	refused(t, "a deep expression", ofExpr(deep))
	// Each level has the one below twice: so many parts can't be gone through.
	twice := api.Expr{Kind: api.ENum}
	for range 200 {
		twice = api.Expr{Kind: api.EBinary, Op: "+", Kids: []api.Expr{twice, twice}}
	}
	refused(t, "a wide expression", ofExpr(twice))
	refused(t, "a long list", api.Module{Decls: make([]api.Decl, 100000)})
	refused(t, "many params", api.Module{Decls: []api.Decl{{Func: true, Name: "f", Params: make([]api.Param, 100000)}}})
}

// refused says whether a module isn't bound, wherever it stands, and whatever else is wrong: it is none.
func refused(t *testing.T, what string, m api.Module) {
	t.Helper()
	ended(t, what, m)
	for n := range 4 {
		mods := make([]api.Module, 4)
		helps.Fill(mods, one(t, "int t; "))
		mods[n] = m
		if got, at, e := bind.Bind(mods); at != n || e != api.ErrFull || len(got.Decls) > 0 {
			t.Errorf("of %s at %d: error %d at %d, %d Decls, want %d at %d", what, n, e, at, len(got.Decls), api.ErrFull, n)
		}
	}
}

// Trees that are made of parts at random.
func TestAnyTrees(t *testing.T) {
	parts := helps.Any{
		Pick:  rand.New(rand.NewSource(41)).Intn,
		Names: []string{"a", "f", "putw", "$0", "main", "", "g", "0.a"},
		Ops:   []string{"+"},
	}
	for range 3000 {
		ended(t, "trees made at random", ofStmt(parts.Stmt(3)), ofExpr(parts.Expr(4)))
	}
}

// Modules that were parsed, and not checked.
func TestNotChecked(t *testing.T) {
	for _, texts := range ownTexts() {
		var mods []api.Module
		for _, s := range append(texts, "int a; int a; static int b() { return c; } extern int b; int main = main;") {
			m, _, _ := parse.Parse(s)
			mods = append(mods, m)
			ended(t, "a module that wasn't checked", m)
		}
		ended(t, "modules that weren't checked", mods...)
	}
}
