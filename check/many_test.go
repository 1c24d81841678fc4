package check_test

import (
	"math/rand"
	"slices"
	"strings"
	"testing"

	"solder/api"
	"solder/check"
	"solder/helps"
	"solder/lex"
	"solder/parse"
)

// made is a text of a module that is right, no longer or deeper than it may be.
func made(source *rand.Rand, stmts int) string {
	for {
		s := newMaker(source, stmts).module()
		_, _, e := parse.Parse(s)
		if e == api.OK {
			return s
		}
		if e == api.ErrSyntax || e == api.ErrLex {
			panic("no module was made: " + s)
		}
		stmts--
	}
}

// Modules that are made so that all in them is right, are right.
func TestMadeTexts(t *testing.T) {
	source := rand.New(rand.NewSource(50))
	stmts, exprs, types, ops := map[int]int{}, map[int]int{}, map[int]int{}, map[string]int{}
	noughts, hidden := 0, 0
	for n := range 600 {
		s := made(source, 1+n%60)
		right(t, s)
		m := parsed(t, s)
		c, _, _, _ := model(m)
		helps.Walk(&c, func(x *api.Expr) {
			exprs[x.Kind]++
			types[x.Type]++
			ops[x.Op]++
			if x.Kind == api.ENum && x.Type != api.Int {
				noughts++
			}
		}, func(s *api.Stmt) { stmts[s.Kind]++ })
		helps.Walk(&m, func(x *api.Expr) {
			if x.Kind == api.EName && (x.Name == "putw" || x.Name == "getw" || x.Name == "main" || x.Name == "f1") {
				hidden++
			}
		}, func(*api.Stmt) {})
	}
	for kind := 1; kind <= 8; kind++ {
		if stmts[kind] < 100 {
			t.Errorf("the test's texts have %d statements alone of Kind %d", stmts[kind], kind)
		}
	}
	for kind := 1; kind <= 9; kind++ {
		if exprs[kind] < 200 {
			t.Errorf("the test's texts have %d expressions alone of Kind %d", exprs[kind], kind)
		}
	}
	if len(types) != 5 || len(ops) != 21 || noughts < 200 || hidden < 200 {
		t.Errorf("the test's texts have the types %v, the operators %v, %d noughts, %d locals with the names of functions", types, ops, noughts, hidden)
	}
}

// sorts are tokens that may stand for one another; the names of a text are another sort.
func sorts() [][]string {
	return [][]string{
		{"0", "1", "1.5", "0.0", "2"},
		{"int", "double", "void"},
		{"+", "-", "*", "/", "%", "<<", ">>", "<", "<=", ">", ">=", "==", "!=", "&", "^", "|", "&&", "||", "="},
		{"!", "~", "-", "*", "&"},
		{"break", "continue", "return"},
		{"static", "extern"},
	}
}

// changed is a text with some tokens that became others of their sort, or went, or came.
func changed(source *rand.Rand, text string) string {
	tokens, _, _ := lex.Lex(text)
	all := sorts()
	var l, names []string
	for _, x := range tokens[:len(tokens)-1] {
		l = append(l, x.Text)
		if x.Kind == api.TName {
			names = append(names, x.Text)
		}
	}
	all = append(all, append(names, "unknown", "putd"))
	for range 1 + source.Intn(3) {
		at := source.Intn(len(l))
		sort := all[source.Intn(len(all))]
		for _, s := range all {
			if slices.Contains(s, l[at]) {
				sort = s
			}
		}
		switch source.Intn(12) {
		case 0:
			l[at] = ""
		case 1:
			l[at] += " " + []string{"static", "extern", "*", "-", "0", ";", "!", "[1]", "&"}[source.Intn(9)]
		case 2:
			l[at], l[(at+1)%len(l)] = l[(at+1)%len(l)], l[at]
		default:
			if slices.Contains(sort, l[at]) {
				l[at] = sort[source.Intn(len(sort))]
			}
		}
	}
	return strings.Join(l, " ")
}

// Such modules with a few tokens changed: most become wrong, each for its reason.
func TestMadeTextsChanged(t *testing.T) {
	source := rand.New(rand.NewSource(51))
	seen := map[string]int{}
	for n := range 6000 {
		s := changed(source, made(source, 1+n%20))
		if _, _, e := parse.Parse(s); e != api.OK {
			continue
		}
		_, why := asModel(t, s)
		seen[why]++
	}
	for _, why := range []string{"right", "no variable", "no function", "a param's name twice", "how many arguments", "an argument's type", "an init's type", "a condition's type", "a return's type", "a return without one", "a local's type", "a Void local", "a Void param", "a Void variable", "no lvalue", "two definitions", "a function and a variable", "an Extern with Inits", "another Type", "another Static", "other Params", "a Static function without a body", "a Decl of what is known from the beginning", "no main"} {
		if seen[why] == 0 {
			t.Errorf("none of the test's texts leads to: %s", why)
		}
	}
}

// All texts of a few pieces, behind several heads: those that are parsed.
func TestAllShortTexts(t *testing.T) {
	seen := map[api.Errno]int{}
	for _, c := range []struct {
		head, pieces, tail string
		most               int
	}{
		{"void f(int p) {", "{|}|int x;|x = 1;|if (1)|else|p;|double p;|int x = x;", "}", 5},
		{"void f() {", "{|}|while (1)|break;|if (1)|else|continue;|;", "}", 5},
		{"", "int x;|extern int x;|static int x;|int x();|int x() { }|static int x();|static int x() { }|double x;|int y = x;", "", 4},
		{"int *p; double d; int f() { return", "p|0|+|==|(|)|d|1|-|*|&|=", "; }", 5},
		{"double d; int a[2] = {", "0|1|,|1.5|a|d|*|b", "};", 5},
		{"int g(int x, double *y); int h(); int f() { g(", "0|1|,|h()|putw(1)|1.5|f|(|)", "); }", 5},
		{"static int g(); int f(", "int x|double x|void x|,|void", "); static int g() { }", 5},
	} {
		pieces := strings.Split(c.pieces, "|")
		var all func(string, int)
		all = func(s string, n int) {
			if _, _, e := parse.Parse(s + " " + c.tail); e == api.OK {
				e, _ := asModel(t, s+" "+c.tail)
				seen[e]++
			}
			for _, x := range pieces {
				if n > 0 {
					all(s+" "+x, n-1)
				}
			}
		}
		all(c.head, c.most)
	}
	if seen[api.OK] < 1000 || seen[api.ErrName] < 1000 || seen[api.ErrType] < 1000 || seen[api.ErrRange] < 5 {
		t.Errorf("the test's texts lead to the errors %v", seen)
	}
}

// A module ahead of another one, which has no names of it: of what is wrong the first is told, but a Static function
// without a body at last; what is right stays so, and what it becomes doesn't hang on what is ahead.
func TestTwoTexts(t *testing.T) {
	source := rand.New(rand.NewSource(52))
	for range 40 {
		a, b := made(source, 10), second
		right(t, a+b)
		for _, x := range wrongDecls() {
			if strings.Contains(x.text, "main") {
				continue
			}
			wrong(t, a+x.text, x.e)
			wrong(t, a+x.text+b, x.e)
		}
	}
}

// second is a text that is right, with names that no other text here has.
const second = " int second1 = 1; double second2(int x) { double y = second2(x = 1); return y; }"

// What a text becomes stands in what it becomes with more behind.
func TestMoreBehind(t *testing.T) {
	source := rand.New(rand.NewSource(53))
	for range 100 {
		s := made(source, 20)
		alone, _, _ := check.Check(parsed(t, s))
		both, _, _ := check.Check(parsed(t, s+second))
		if !strings.HasPrefix(sketch(both), sketch(alone)+" int second1") {
			t.Errorf("P12.1: with more behind, %s becomes another module", helps.Short(s))
		}
	}
}
