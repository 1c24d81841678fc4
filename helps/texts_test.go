package helps_test

import (
	"strings"
	"testing"

	"solder/api"
	"solder/helps"
	"solder/lex"
	"solder/parse"
)

// A text that is filled is a token text that is as long as may be: with one piece more it is none.
func TestFilled(t *testing.T) {
	for _, c := range []struct{ head, piece, tail string }{{"void f(){", ";", "}"}, {"void f() {", "1;", "@b;}"}, {"", "int f();", ""}, {"", "int f(int a,int b);", "@double f();"}, {"int a=1", "+-1", ";"}} {
		text := helps.Filled(c.head, c.piece, c.tail)
		plain := strings.Replace(text, "@", "", 1)
		middle := strings.TrimSuffix(strings.TrimPrefix(text, c.head), c.tail)
		if strings.Trim(strings.ReplaceAll(middle, c.piece, ""), " ") != "" || !strings.HasPrefix(text, c.head) || !strings.HasSuffix(text, c.tail) {
			t.Errorf("%q, %q, %q: filled it is %s", c.head, c.piece, c.tail, helps.Short(text))
		}
		if _, _, e := lex.Lex(plain); e != api.OK {
			t.Errorf("%q, %q, %q: filled it has error %d", c.head, c.piece, c.tail, e)
		}
		if _, _, e := lex.Lex(c.piece + " " + plain); e != api.ErrFull {
			t.Errorf("%q, %q, %q: filled, and a piece more, it has error %d", c.head, c.piece, c.tail, e)
		}
	}
}

// The whole text has each kind of expression, statement and type.
func TestWhole(t *testing.T) {
	m, at, e := parse.Parse(helps.Whole)
	if e != api.OK {
		t.Fatalf("the whole text has error %d at %d", e, at)
	}
	exprs, stmts := map[int]int{}, map[int]int{}
	helps.Walk(&m, func(x *api.Expr) { exprs[x.Kind]++ }, func(s *api.Stmt) { stmts[s.Kind]++ })
	if len(exprs) != api.ECast || len(stmts) != api.SLocal {
		t.Errorf("the whole text has the expressions %v, the statements %v", exprs, stmts)
	}
}

// Trees that are made have each kind of part and of text, and are as deep as may be.
func TestAny(t *testing.T) {
	n := 0
	parts := helps.Any{
		Pick: func(all int) int {
			n = (n*1103515245 + 12345) & (1<<31 - 1)
			return (n >> 16) % all
		},
		Names: []string{"a", "b", "c"},
		Ops:   []string{"+", "-"},
	}
	exprs, stmts, texts := map[int]int{}, map[int]int{}, map[string]int{}
	deepest := 0
	for range 300 {
		s := parts.Stmt(3)
		deepest = max(deepest, levels(s))
		m := api.Module{Decls: []api.Decl{{Func: true, Body: api.Stmt{Kids: []api.Stmt{s}}}}}
		helps.Walk(&m, func(x *api.Expr) {
			exprs[x.Kind]++
			texts[x.Name]++
			texts[x.Op]++
		}, func(s *api.Stmt) { stmts[s.Kind]++ })
	}
	if len(exprs) != api.ECast+1 || len(stmts) != api.SLocal+1 || len(texts) != 5 || deepest != 4 {
		t.Errorf("trees have the expressions %v, the statements %v, the texts %v, and %d levels", exprs, stmts, texts, deepest)
	}
}

// levels is how many statements are in one another.
func levels(s api.Stmt) int {
	most := 0
	for _, kid := range s.Kids {
		most = max(most, levels(kid))
	}
	return most + 1
}
