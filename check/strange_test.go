package check_test

import (
	"math"
	"math/rand"
	"testing"

	"solder/api"
	"solder/check"
	"solder/helps"
)

// Modules that Parse did not answer: nothing is promised of them, but Check answers something, and ends.

// ofExpr is a module with an expression.
func ofExpr(x api.Expr) api.Module {
	s := api.Stmt{Kind: api.SExpr, Exprs: []api.Expr{x}}
	return api.Module{Decls: []api.Decl{
		{Func: true, Name: "f", Has: true, Body: api.Stmt{Kind: api.SBlock, Kids: []api.Stmt{s}}},
		{Name: "a", Has: true, Type: api.Int, Inits: []api.Expr{x}},
	}}
}

// ofStmt is a module with a statement.
func ofStmt(s api.Stmt) api.Module {
	return api.Module{Decls: []api.Decl{
		{Func: true, Name: "f", Has: true, Body: api.Stmt{Kind: api.SBlock, Kids: []api.Stmt{s}}},
		{Func: true, Name: "g", Has: true, Body: s},
	}}
}

// ends says whether Check answers the same twice, and no module beside an error.
func ends(t *testing.T, what string, m api.Module) {
	t.Helper()
	defer func() {
		if x := recover(); x != nil {
			t.Errorf("of %s nothing is answered: %v", what, x)
		}
	}()
	c, at, e := check.Check(m)
	if e != api.OK && len(c.Decls) > 0 {
		t.Errorf("of %s a module is answered beside the error %d", what, e)
	}
	if _, at2, e2 := check.Check(m); at2 != at || e2 != e {
		t.Errorf("of %s error %d at %d, and then %d at %d", what, e, at, e2, at2)
	}
}

func TestStrangeParts(t *testing.T) {
	kids := []api.Expr{{Kind: api.ENum, Num: 1}, {Kind: api.EName, Name: "a"}, {Kind: api.EUnary, Op: "-"}, {}}
	stmts := []api.Stmt{{Kind: api.SExpr}, {}, {Kind: api.SIf}, {Kind: api.SBlock}}
	for _, kind := range []int{-1, 0, 1, 2, 3, 4, 5, 6, 7, 8, 9, 10, 100, math.MaxInt, math.MinInt} {
		for n := range 5 {
			for _, op := range []string{"", "-", "+", "&", "=", "?", "if", "=="} {
				for _, name := range []string{"", "a", "f", "putw"} {
					x := api.Expr{Kind: kind, Op: op, Kids: kids[:n], Name: name, Num: uint32(kind), Type: 7}
					ends(t, "a strange expression", ofExpr(x))
					ends(t, "a strange expression in others", ofExpr(api.Expr{Kind: api.EBinary, Op: "+", Kids: []api.Expr{x, x}}))
				}
			}
			for k := range 5 {
				s := api.Stmt{Kind: kind, Exprs: kids[:n], Kids: stmts[:k], Name: "$1", Type: kind, Len: kind}
				ends(t, "a strange statement", ofStmt(s))
				ends(t, "a strange statement in others", ofStmt(api.Stmt{Kind: api.SIf, Exprs: kids[:1], Kids: []api.Stmt{s, s}}))
			}
			ends(t, "a strange declaration", api.Module{Decls: []api.Decl{
				{Name: "x", Type: api.Int, Len: kind, Has: true, Inits: kids[:n]}, {Func: true, Name: "f", Type: kind, Len: kind, Inits: kids[:n], Params: []api.Param{{Type: kind}, {}}},
				{Static: true, Extern: true, Name: "y", Type: kind, Inits: kids[:n], Body: api.Stmt{Kind: kind, Exprs: kids[:n], Kids: stmts[:n]}, Params: []api.Param{{Name: "p", Type: 1}}},
			}})
		}
	}
}

// Lists that hold themselves, and lists that are too long to have been parsed.
func TestCircles(t *testing.T) {
	for kind := range 11 {
		for n := 1; n <= 3; n++ {
			l := make([]api.Expr, n)
			for k := range l {
				l[k] = api.Expr{Kind: kind, Op: "-", Name: "f", Kids: l}
			}
			ends(t, "expressions in themselves", ofExpr(l[0]))
			stmts := make([]api.Stmt, n)
			for k := range stmts {
				stmts[k] = api.Stmt{Kind: kind, Exprs: []api.Expr{{Kind: api.ENum}}[:min(1, kind%3)], Kids: stmts}
			}
			ends(t, "statements in themselves", ofStmt(stmts[0]))
		}
	}
	deep := api.Expr{Kind: api.ENum}
	for range 100000 {
		deep = api.Expr{Kind: api.EUnary, Op: "-", Kids: []api.Expr{deep}}
	}
	ends(t, "a deep expression", ofExpr(deep))
	ends(t, "a long list", api.Module{Decls: make([]api.Decl, 100000)})
}

// Trees that are made of parts at random.
func TestAnyTrees(t *testing.T) {
	parts := helps.Any{
		Pick:  rand.New(rand.NewSource(40)).Intn,
		Names: []string{"a", "f", "putw", "$0", "main", ""},
		Ops:   []string{"-", "+", "&", "*", "==", "&&", "%", "!"},
	}
	for range 5000 {
		ends(t, "a tree made at random", ofStmt(parts.Stmt(3)))
		ends(t, "an expression made at random", ofExpr(parts.Expr(4)))
	}
}
