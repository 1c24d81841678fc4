package parse_test

import (
	"math/rand"
	"strings"
	"testing"

	"solder/api"
)

// made is a text that is made by the rows, no longer than one may be, and its module.
func made(source *rand.Rand, tokens int) (string, api.Module) {
	for {
		m := newMaker(source, tokens)
		want := m.module()
		if s := m.text.String(); len(s) <= 8192 {
			return s, want
		}
		tokens /= 2
	}
}

// eachExpr calls with all expressions of a list, and those within them.
func eachExpr(l []api.Expr, with func(api.Expr)) {
	for _, x := range l {
		with(x)
		eachExpr(x.Kids, with)
	}
}

// eachPart calls with all statements and expressions of a module.
func eachPart(m api.Module, stmt func(api.Stmt), expr func(api.Expr)) {
	var all func([]api.Stmt)
	all = func(l []api.Stmt) {
		for _, s := range l {
			stmt(s)
			eachExpr(s.Exprs, expr)
			all(s.Kids)
		}
	}
	for _, d := range m.Decls {
		eachExpr(d.Inits, expr)
		if d.Func && d.Has {
			all([]api.Stmt{d.Body})
		}
	}
}

// Texts that are made by the rows tell the trees that are made with them, each At among them.
func TestMadeTexts(t *testing.T) {
	source := rand.New(rand.NewSource(30))
	stmts, exprs, types := map[int]int{}, map[int]int{}, map[int]int{}
	for n := range 600 {
		s, want := made(source, 5+source.Intn(150)+n%20*20)
		holds(t, s, answer{told(want), 0, api.OK})
		eachPart(want, func(s api.Stmt) { stmts[s.Kind]++ }, func(x api.Expr) { exprs[x.Kind]++ })
		for _, d := range want.Decls {
			types[d.Type]++
		}
	}
	for kind := 1; kind <= 8; kind++ {
		if stmts[kind] < 50 {
			t.Errorf("the test's texts have %d statements alone of Kind %d", stmts[kind], kind)
		}
	}
	for kind := 1; kind <= 9; kind++ {
		if exprs[kind] < 100 {
			t.Errorf("the test's texts have %d expressions alone of Kind %d", exprs[kind], kind)
		}
	}
	if len(types) != 5 {
		t.Errorf("the test's texts have the types %v alone", types)
	}
}

// joined is a text of tokens, with blanks between.
func joined(l []string) string {
	return strings.Join(l, " ")
}

// Texts that are made by the rows, with a few tokens changed.
func TestMadeTextsChanged(t *testing.T) {
	source := rand.New(rand.NewSource(31))
	seen := map[api.Errno]int{}
	for range 4000 {
		s, _ := made(source, 5+source.Intn(60))
		var l []string
		for _, x := range tokensOf(t, s) {
			l = append(l, x.Text)
		}
		for range 1 + source.Intn(3) {
			at := source.Intn(len(l))
			switch other := others()[source.Intn(len(others()))]; source.Intn(4) {
			case 0:
				l[at] = other
			case 1:
				l = append(l[:at:at], append([]string{other}, l[at:]...)...)
			case 2:
				l[at] = l[source.Intn(len(l))]
			default:
				if len(l) > 1 {
					l = append(l[:at:at], l[at+1:]...)
				}
			}
		}
		seen[asModel(t, joined(l))]++
	}
	if seen[api.OK] < 100 || seen[api.ErrSyntax] < 1000 {
		t.Errorf("the test's texts lead to the errors %v", seen)
	}
}

// All texts of a few tokens, behind several heads.
func TestAllShortTexts(t *testing.T) {
	seen := map[api.Errno]int{}
	for _, c := range []struct {
		head, tokens string
		most         int
	}{
		{"", "static int * a ; = 1 [ ] ( ) { }", 3},
		{"", "extern void a ( ) ;", 6},
		{"int a ", "= 1 ; [ ] { } ,", 5},
		{"int f ( ", "void int * a , ) ;", 5},
		{"int a = ", "b 1 ( ) - = [ ] , ;", 4},
		{"int a = b ( ", "b , ) ( ; int", 5},
		{"int a = ( ", "int * ) 1 ( ;", 5},
		{"void f ( ) { ", "if ( a ) else ; { }", 4},
		{"void f ( ) { if ( a ) ", "if ( a ) else ; }", 5},
		{"void f ( ) { ", "return 1 ; int a = }", 4},
		{"void f ( ) { while ( 1 ) ", "break continue ; { } else", 4},
		{"int a [ ", "0 1 1000 1001 ] ; 1.0", 3},
	} {
		var all func(string, int)
		all = func(s string, n int) {
			seen[asModel(t, s)]++
			for x := range strings.SplitSeq(c.tokens, " ") {
				if n > 0 {
					all(s+x+" ", n-1)
				}
			}
		}
		all(c.head, c.most)
	}
	if seen[api.OK] < 100 || seen[api.ErrSyntax] < 10000 || seen[api.ErrRange] < 10 {
		t.Errorf("the test's texts lead to the errors %v", seen)
	}
}

// Whatever tokens there are, and whatever bytes, the call ends.
func TestAnyTexts(t *testing.T) {
	source := rand.New(rand.NewSource(32))
	for n := range 2000 {
		var l []string
		for range source.Intn(20) {
			l = append(l, others()[source.Intn(len(others()))])
		}
		asModel(t, joined(l))
		asModel(t, bodyHead+joined(l))
		if n%100 == 0 {
			b := make([]byte, source.Intn(9000))
			source.Read(b)
			asModel(t, string(b))
		}
	}
}

// The same tokens with other things between tell the same tree: each At is that of the same token.
func TestMoreBetween(t *testing.T) {
	source := rand.New(rand.NewSource(33))
	gaps := []string{" ", "\n", "\t", "\r\n", "/**/ ", "// ( int\n", " /* ; */ "}
	for range 300 {
		s, want := made(source, 5+source.Intn(100))
		places := map[int]int{}
		more := ""
		for _, x := range tokensOf(t, s) {
			more += gaps[source.Intn(len(gaps))]
			places[x.At] = len(more)
			more += x.Text + " "
		}
		if len(more) <= 8192 {
			is(t, "P11.1", more, answer{told(moved(want, func(at int) int { return places[at] })), 0, api.OK})
		}
	}
}

// Two texts one behind the other tell what the one tells, and then the other; of what is wrong, the first.
func TestTwoTexts(t *testing.T) {
	source := rand.New(rand.NewSource(34))
	for range 300 {
		a, first := made(source, 5+source.Intn(100))
		b, second := made(source, 5+source.Intn(100))
		if len(a)+len(b) >= 8192 {
			continue
		}
		second = moved(second, by(len(a)+1))
		is(t, "P11.1", a+"\n"+b, answer{told(api.Module{Decls: append(first.Decls, second.Decls...)}), 0, api.OK})
		for _, x := range wrongs {
			is(t, "P11.1", a+"\n"+x.text, wrong(len(a)+1+x.at, x.e))
			is(t, "P11.1", x.text+"\n"+b, wrong(x.at, x.e))
		}
	}
}
