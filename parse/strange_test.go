package parse_test

import (
	"math"
	"math/rand"
	"strings"
	"testing"

	"solder/api"
	"solder/parse"
)

// Modules that Parse did not answer: Show answers some text, and ends.

// ofExpr is a module with an expression.
func ofExpr(x api.Expr) api.Module {
	return api.Module{Decls: []api.Decl{{Name: "a", Has: true, Inits: []api.Expr{x}}, inBody(alone(0, x))}}
}

// ofStmt is a module with a statement.
func ofStmt(s api.Stmt) api.Module {
	return api.Module{Decls: []api.Decl{inBody(s), {Func: true, Has: true, Body: s}}}
}

// ends says whether Show answers of a module the same text twice, and of no more bytes than parts could have.
func ends(t *testing.T, what string, m api.Module) {
	t.Helper()
	defer func() {
		if x := recover(); x != nil {
			t.Errorf("P11.2: of %s nothing is shown: %v", what, x)
		}
	}()
	s := parse.Show(m)
	if len(s) > 1<<23 {
		t.Errorf("P11.2: of %s are shown %d bytes", what, len(s))
	}
	if again := parse.Show(m); again != s {
		t.Errorf("P11.2: of %s is shown another text the next time", what)
	}
}

// Each Kind, those that are none too, with each number of parts.
func TestStrangeParts(t *testing.T) {
	kids := []api.Expr{num(1, 0), name("a", 0), unary("-", 0, num(1, 0)), {}}
	stmts := []api.Stmt{alone(0), {}, choice(0, num(1, 0), alone(0)), block(0)}
	for _, kind := range []int{-1, 0, 1, 2, 3, 4, 5, 6, 7, 8, 9, 10, 100, math.MaxInt, math.MinInt} {
		for n := range 5 {
			for _, op := range []string{"", "-", "+", "&", "=", "?", "if", "+ +", strings.Repeat("-", 100)} {
				x := api.Expr{Kind: kind, Op: op, Kids: kids[:n], Name: op, Num: 7, Bits: 1 << 63}
				ends(t, "a strange expression", ofExpr(x))
				ends(t, "a strange expression in others", ofExpr(binary("+", unary(op, 0, x), index(x, x))))
			}
			for k := range 5 {
				s := api.Stmt{Kind: kind, Exprs: kids[:n], Kids: stmts[:k], Name: "$1", Type: kind, Len: kind}
				ends(t, "a strange statement", ofStmt(s))
				ends(t, "a strange statement in others", ofStmt(choice(0, num(1, 0), s, loop(0, num(1, 0), s))))
			}
			ends(t, "a strange declaration", api.Module{Decls: []api.Decl{
				{Type: kind, Len: kind, Has: true, Inits: kids[:n]}, {Static: true, Extern: true, Has: n > 0, Inits: kids[:n]},
				{Func: true, Type: kind, Len: kind, Inits: kids[:n], Has: n > 1, Body: api.Stmt{Kind: kind}, Params: []api.Param{{Type: kind}, {}}},
				{Body: block(0), Params: []api.Param{{}}},
			}})
		}
	}
	for _, bits := range []uint64{1 << 63, 0x7ff0 << 48, 0xfff0 << 48, 0x7ff8 << 48, 0x7ff1 << 48, math.MaxUint64, math.Float64bits(-1.5)} {
		ends(t, "a strange real", ofExpr(api.Expr{Kind: api.EReal, Bits: bits}))
	}
	ends(t, "a strange cast", ofExpr(cast(math.MaxUint32, 0, num(1, 0))))
}

// Lists that hold themselves.
func TestCircles(t *testing.T) {
	for kind := range 11 {
		for n := 1; n <= 3; n++ {
			l := make([]api.Expr, n)
			for k := range l {
				l[k] = api.Expr{Kind: kind, Op: "-", Name: "f", Kids: l}
			}
			ends(t, "expressions in themselves", ofExpr(l[0]))
			stmts := make([]api.Stmt, n)
			for k := range stmts {
				stmts[k] = api.Stmt{Kind: kind, Name: "a", Exprs: []api.Expr{num(1, 0)}, Kids: stmts}
			}
			ends(t, "statements in themselves", ofStmt(stmts[0]))
		}
	}
	long := make([]api.Expr, 100000)
	for k := range long {
		long[k] = api.Expr{Kind: api.ECall, Name: "f", Kids: long}
	}
	ends(t, "many expressions in themselves", ofExpr(long[0]))
}

// More parts, deeper and greater ones than a text may have.
func TestMuch(t *testing.T) {
	deep, twice := num(1, 0), num(1, 0)
	stmt, more := alone(0), alone(0)
	for range 100000 {
		deep = unary("-", 0, deep)
		twice = binary("+", twice, twice)
		stmt = block(0, stmt)
		more = choice(0, num(1, 0), more, more)
	}
	ends(t, "a deep expression", ofExpr(deep))
	ends(t, "an expression of the same twice", ofExpr(twice))
	ends(t, "a deep statement", ofStmt(stmt))
	ends(t, "a statement of the same twice", ofStmt(more))
	ends(t, "many declarations", api.Module{Decls: make([]api.Decl, 1000000)})
	ends(t, "many inits", api.Module{Decls: []api.Decl{{Has: true, Len: 1, Inits: make([]api.Expr, 1000000)}}})
	ends(t, "many params", api.Module{Decls: []api.Decl{{Func: true, Params: make([]api.Param, 1000000)}}})
	ends(t, "many statements", ofStmt(block(0, make([]api.Stmt, 1000000)...)))
	ends(t, "many arguments", ofExpr(call("f", 0, make([]api.Expr, 1000000)...)))
	name := strings.Repeat("n", 1<<22)
	var l []api.Decl
	for range 2000 {
		l = append(l, api.Decl{Name: name, Func: true, Params: []api.Param{{Name: name}}, Has: true, Body: block(0, local(0, 1, name, 0, call(name, 0)))})
	}
	ends(t, "long names", api.Module{Decls: l})
	ends(t, "long names", ofExpr(api.Expr{Kind: api.EUnary, Op: name, Kids: []api.Expr{num(1, 0)}}))
	ends(t, "long names", ofExpr(api.Expr{Kind: api.EBinary, Op: name, Kids: []api.Expr{num(1, 0), num(2, 0)}}))
}

// A module that was parsed and then checked has other names, and types: it is shown with these.
func TestShownOfOthers(t *testing.T) {
	m := parsed(t, "int f(int x) { double y = x + 1; return y; }")
	m.Decls[0].Params[0].Name = "$0"
	body := m.Decls[0].Body.Kids
	body[0].Name, body[0].Exprs[0].Kids[0].Name, body[0].Exprs[0].Type = "$1", "$0", api.Int
	body[1].Exprs[0].Name = "$1"
	want := "int f(int $0) {\n\tdouble $1 = $0 + 1;\n\treturn $1;\n}\n"
	if got := parse.Show(m); got != want {
		t.Errorf("P11.2: shown is %s, want %s", got, want)
	}
}

// random are any numbers and texts.
type random struct {
	*rand.Rand
}

func (r random) number() int {
	return []int{0, 1, 2, 3, 4, 5, 6, 7, 8, 9, -1, 1000, math.MaxInt, math.MinInt}[r.Intn(14)]
}

func (r random) word() string {
	return []string{"", "a", "$0", "-", "+", "&", "=", "int", "\x00\xff", strings.Repeat("x", 41), "*", "||"}[r.Intn(12)]
}

func (r random) exprs(deep int) (l []api.Expr) {
	for range r.Intn(4) {
		x := api.Expr{Kind: r.number(), Op: r.word(), Name: r.word(), Num: r.Uint32(), Bits: r.Uint64(), Type: r.number(), At: r.number()}
		if deep > 0 {
			x.Kids = r.exprs(deep - 1)
		}
		l = append(l, x)
	}
	return l
}

func (r random) stmts(deep int) (l []api.Stmt) {
	for range r.Intn(4) {
		s := api.Stmt{Kind: r.number(), Exprs: r.exprs(2), Name: r.word(), Type: r.number(), Len: r.number(), At: r.number()}
		if deep > 0 {
			s.Kids = r.stmts(deep - 1)
		}
		l = append(l, s)
	}
	return l
}

func TestRandomModules(t *testing.T) {
	r := random{rand.New(rand.NewSource(50))}
	for range 20000 {
		var m api.Module
		for range r.Intn(4) {
			d := api.Decl{Func: r.Intn(2) == 0, Static: r.Intn(2) == 0, Extern: r.Intn(2) == 0, Has: r.Intn(2) == 0, Name: r.word(), Type: r.number(), Len: r.number(), Inits: r.exprs(2)}
			for range r.Intn(3) {
				d.Params = append(d.Params, api.Param{Name: r.word(), Type: r.number(), At: r.number()})
			}
			if l := r.stmts(2); len(l) > 0 {
				d.Body = l[0]
			}
			m.Decls = append(m.Decls, d)
		}
		ends(t, "a random module", m)
	}
}
