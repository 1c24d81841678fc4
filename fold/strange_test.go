package fold_test

import (
	"math"
	"math/rand"
	"testing"

	"solder/api"
	"solder/fold"
	"solder/helps"
)

// Modules that Check did not answer: nothing is promised of them, but the calls answer something, and end.

// ended says whether Eval and Data answer the same twice, and nothing beside an error.
func ended(t *testing.T, what string, m api.Module, x api.Expr) {
	t.Helper()
	defer func() {
		if x := recover(); x != nil {
			t.Errorf("of %s nothing is answered: %v", what, x)
		}
	}()
	got := ask(m, x)
	if got.e != api.OK && got.c != (fold.Const{}) || got.e == api.OK && got.at != 0 || got != ask(m, x) {
		t.Errorf("of %s Eval answers %v, and then %v", what, got, ask(m, x))
	}
	l, at, e := fold.Data(m)
	if e != api.OK && len(l) != 0 || e == api.OK && at != 0 || dataTold(m) != dataTold(m) {
		t.Errorf("of %s Data answers error %d at %d, and %s", what, e, at, helps.Short(sketch(l)))
	}
}

// ofExpr is a module with some variables that have an expression as an Init.
func ofExpr(x api.Expr) api.Module {
	return api.Module{Decls: []api.Decl{
		{Name: "a", Type: api.Int, Len: 3, Has: true, Inits: []api.Expr{x, x, x}},
		{Name: "f", Func: true, Type: api.Int},
		{Name: "p", Type: api.PInt, Has: true, Inits: []api.Expr{x}},
		{Name: "q", Type: api.PReal, Inits: []api.Expr{x}},
		{Name: "", Type: api.Real, Inits: []api.Expr{x}},
	}}
}

func TestStrangeExprs(t *testing.T) {
	kids := []api.Expr{{Kind: api.ENum, Num: 1, Type: api.Int}, {Kind: api.EName, Name: "a"}, {Kind: api.EUnary, Op: "&"}, {}}
	for _, kind := range []int{-1, 0, 1, 2, 3, 4, 5, 6, 7, 8, 9, 10, 100, math.MaxInt, math.MinInt} {
		for n := range 5 {
			for _, op := range []string{"", "-", "+", "&", "=", "?", "if", "=="} {
				for _, name := range []string{"", "a", "f", "p", "$0"} {
					for _, typed := range []int{-1, 0, 1, 2, 3, 4, 5} {
						x := api.Expr{Kind: kind, Op: op, Kids: kids[:n], Name: name, Num: uint32(typed), Bits: 5, Type: typed}
						ended(t, "a strange expression", ofExpr(x), x)
						for _, y := range []api.Expr{
							{Kind: api.EBinary, Op: "+", Kids: []api.Expr{x, x}},
							{Kind: api.EUnary, Op: "&", Kids: []api.Expr{x}},
							{Kind: api.EUnary, Op: "&", Kids: []api.Expr{{Kind: api.EIndex, Kids: []api.Expr{x, x}}}},
							{Kind: api.ECast, Num: uint32(typed), Kids: []api.Expr{x}},
						} {
							ended(t, "a strange expression in others", ofExpr(y), y)
						}
					}
				}
			}
		}
	}
}

func TestStrangeDecls(t *testing.T) {
	one := api.Expr{Kind: api.ENum, Num: 1, Type: api.Int}
	place := api.Expr{Kind: api.EName, Name: "x", Num: 1, Type: api.PInt}
	for _, length := range []int{math.MinInt, -1, 0, 1, 2, 999, 1000, 1001, 1 << 40, math.MaxInt} {
		for typed := -1; typed < 7; typed++ {
			for inits := range 5 {
				for _, with := range []api.Expr{one, place, {Kind: api.EReal}, {Kind: api.ENum, Type: api.PInt}} {
					d := api.Decl{Name: "x", Type: typed, Len: length, At: 5}
					for range inits {
						d.Inits = append(d.Inits, with)
					}
					for _, change := range []func(*api.Decl){func(*api.Decl) {}, func(d *api.Decl) { d.Extern = true }, func(d *api.Decl) { d.Func = true }, func(d *api.Decl) { d.Static, d.Extern = true, true }} {
						changed := d
						change(&changed)
						m := api.Module{Decls: []api.Decl{changed, d}}
						ended(t, "a strange declaration", m, api.Expr{Kind: api.EBinary, Op: "-", Kids: []api.Expr{place, one}})
						ended(t, "a strange declaration", m, api.Expr{Kind: api.EUnary, Op: "&", Kids: []api.Expr{place}})
					}
				}
			}
		}
	}
}

// No module has an array of pointers; of one that was made by hand each place is where it stands.
func TestPointersInLine(t *testing.T) {
	ints, reals := checked(t, "int a[3]; int *p = &a[1];"), checked(t, "double b[2]; double *q = b + 2;")
	place, other := ints.Decls[1].Inits[0], reals.Decls[1].Inits[0]
	nothing := api.Expr{Kind: api.ENum, Type: api.PInt}
	m := api.Module{Decls: []api.Decl{ints.Decls[0], reals.Decls[0],
		{Name: "l", Type: api.PInt, Len: 4, Inits: []api.Expr{nothing, place, place}},
		{Name: "k", Type: api.PReal, Len: 3, Inits: []api.Expr{other, nothing, other}},
	}}
	l, _, e := fold.Data(m)
	if got := sketch(l); e != api.OK || got != "a "+eight+eight+"; b "+eight+eight+"; l "+eight+eight+" 4:a+4 8:a+4; k "+eight+eight+" 0:b+16 8:b+16" {
		t.Errorf("P13.1: Data of arrays of pointers: %d, %s", e, got)
	}
}

// Lists that hold themselves, and expressions that are too deep to have been parsed.
func TestCircles(t *testing.T) {
	for kind := range 11 {
		for n := 1; n <= 3; n++ {
			for _, op := range []string{"-", "&", "+"} {
				l := make([]api.Expr, n)
				for k := range l {
					l[k] = api.Expr{Kind: kind, Op: op, Name: "a", Kids: l}
				}
				ended(t, "expressions in themselves", ofExpr(l[0]), l[0])
				l[n-1] = api.Expr{Kind: api.EUnary, Op: "&", Kids: l[:1]}
				ended(t, "expressions in themselves", ofExpr(l[0]), l[0])
			}
		}
	}
	deep := api.Expr{Kind: api.ENum}
	for range 100000 {
		deep = api.Expr{Kind: api.EUnary, Op: "-", Kids: []api.Expr{deep}}
	}
	ended(t, "a deep expression", ofExpr(deep), deep)
	// Each level has the one below twice: so many parts can't be gone through.
	wide := api.Expr{Kind: api.ENum}
	for range 200 {
		wide = api.Expr{Kind: api.EBinary, Op: "+", Kids: []api.Expr{wide, wide}}
	}
	ended(t, "a wide expression", ofExpr(wide), wide)
	call := api.Expr{Kind: api.ECall, Kids: make([]api.Expr, 100000)}
	helps.Fill(call.Kids, api.Expr{Kind: api.ENum})
	ended(t, "a call with many arguments", ofExpr(call), call)
}

// Trees that are made of parts at random.
func TestAnyTrees(t *testing.T) {
	source := rand.New(rand.NewSource(62))
	names := []string{"a", "f", "p", "$0", ""}
	ops := []string{"-", "+", "&", "*", "==", "&&", "%", "!"}
	var expr func(deep int) api.Expr
	expr = func(deep int) api.Expr {
		x := api.Expr{Kind: source.Intn(10), Op: ops[source.Intn(len(ops))], Name: names[source.Intn(len(names))], Num: uint32(source.Intn(3)), Type: source.Intn(6), At: source.Intn(100)}
		for range source.Intn(3) {
			if deep > 0 {
				x.Kids = append(x.Kids, expr(deep-1))
			}
		}
		return x
	}
	for range 20000 {
		x := expr(4)
		ended(t, "a tree made at random", ofExpr(x), x)
	}
}
