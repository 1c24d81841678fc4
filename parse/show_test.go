package parse_test

import (
	"math"
	"math/rand"
	"strings"
	"testing"

	"solder/api"
	"solder/helps"
	"solder/parse"
)

// Show's lines, blanks and brackets.
const pretty = `static int a[3] = {1, -2, 3};
extern double d;
int *p = &a[1];
double *h();
void f(double x, int *q);
int main() {
	double *y[2] = p;
	while (i < 3) {
		if (a[i] == 1)
			continue;
		else
			break;
	}
	if (1)
		if (2)
			;
		else if (3) {
			return;
		}
		else {
		}
	while (0)
		f(y[0], a + 1);
	return *p = (int) 2.5;
}
`

func TestShownLines(t *testing.T) {
	var bare []string
	for _, x := range tokensOf(t, pretty) {
		bare = append(bare, x.Text)
	}
	for _, s := range []string{pretty, strings.ReplaceAll(pretty, "\t", ""), joined(bare)} {
		if got := parse.Show(parsed(t, s)); got != pretty {
			t.Errorf("P11.2: of %s is shown %s", helps.Short(s), got)
		}
		shown(t, s)
	}
	if got := parse.Show(api.Module{}); got != "" {
		t.Errorf("P11.2: of nothing is shown %q", got)
	}
}

// Expressions are shown with no brackets but those that must be there, and blanks where signs would become others.
func TestShownExprs(t *testing.T) {
	for _, c := range [][2]string{
		{"((1))+(2*3)", "1 + 2 * 3"}, {"(1+2)*3", "(1 + 2) * 3"}, {"(a-b)-c", "a - b - c"}, {"a-(b-c)", "a - (b - c)"}, {"a-(b*c)", "a - b * c"}, {"(a*b)/c", "a * b / c"}, {"a*(b/c)", "a * (b / c)"}, {"a<(b<c)", "a < (b < c)"}, {"(a||b)&&c", "(a || b) && c"}, {"a||(b&&c)", "a || b && c"}, {"a|(b^c)", "a | b ^ c"}, {"a&(b^c)", "a & (b ^ c)"}, {"a==(b<c)", "a == b < c"}, {"a<<(b+c)", "a << b + c"}, {"(a<<b)+c", "(a << b) + c"},
		{"a=(b=c)", "a = b = c"}, {"(a=b)=c", "(a = b) = c"}, {"a=(b+c)", "a = b + c"}, {"(a+b)=c", "a + b = c"}, {"a+(b=c)", "a + (b = c)"}, {"(a=b)+c", "(a = b) + c"}, {"-(a=b)", "-(a = b)"}, {"f((a=b),(c))", "f(a = b, c)"}, {"a[(b=c)]", "a[b = c]"}, {"(a=b)[c]", "(a = b)[c]"},
		{"--a", "- -a"}, {"-(-a)", "- -a"}, {"& &a", "& &a"}, {"&(&(&a))", "& & &a"}, {"!!a", "! !a"}, {"-~a", "-~a"}, {"*&a", "*&a"}, {"&*a", "&*a"}, {"-(a+b)", "-(a + b)"}, {"-(a-b)", "-(a - b)"}, {"&(a&b)", "&(a & b)"}, {"a& &b", "a & &b"}, {"a&&&b", "a && &b"}, {"a/ *b", "a / *b"}, {"a--b", "a - -b"}, {"-1", "-1"}, {"-(1.5)", "-1.5"},
		{"(int)a", "(int) a"}, {"(int*)(a+1)", "(int *) (a + 1)"}, {"(double*)-a", "(double *) -a"}, {"-(double)a", "-(double) a"}, {"(void)(int)a", "(void) (int) a"}, {"((int)a)[1]", "((int) a)[1]"}, {"(int)(a[1])", "(int) a[1]"}, {"(int)(a=b)", "(int) (a = b)"}, {"(int)a*b", "(int) a * b"}, {"(int)(a*b)", "(int) (a * b)"},
		{"-(a[1])", "-a[1]"}, {"(-a)[1]", "(-a)[1]"}, {"(*a)[1]", "(*a)[1]"}, {"(a[1])[2]", "a[1][2]"}, {"(a)[1]", "a[1]"}, {"(f())[1]", "f()[1]"}, {"(a+b)[1]", "(a + b)[1]"}, {"(1)[2]", "1[2]"}, {"(1.5)[a]", "1.5[a]"},
		{"00017", "17"}, {"4294967295", "4294967295"}, {"0000000000", "0"}, {"f ( )", "f()"}, {"f(1,2)", "f(1, 2)"},
	} {
		s := "int x = " + c[0] + ";"
		if got := parse.Show(parsed(t, s)); got != "int x = "+c[1]+";\n" {
			t.Errorf("P11.2: of %s is shown %s", s, got)
		}
		shown(t, s)
	}
}

// Reals are shown as such, to the last bit.
func TestShownReals(t *testing.T) {
	for _, c := range [][2]string{
		{"0.0", "0.0"}, {"1.0", "1.0"}, {"1.50", "1.5"}, {"00.5e0", "0.5"}, {"100.0", "100.0"}, {"1.0e5", "100000.0"}, {"0.0e300", "0.0"}, {"0.1e1", "1.0"}, {"2.5e-1", "0.25"}, {"1.0e999", "1.0e999"}, {"1.0e-999", "0.0"}, {"9.9e400", "1.0e999"},
		{"1.0e21", "1.0e+21"}, {"1.5e300", "1.5e+300"}, {"1.0e-300", "1.0e-300"}, {"4.9e-324", "5.0e-324"}, {"1.7976931348623157e308", "1.7976931348623157e+308"},
	} {
		s := "double x = " + c[0] + ";"
		if got := parse.Show(parsed(t, s)); got != "double x = "+c[1]+";\n" {
			t.Errorf("P11.2: of %s is shown %s", s, got)
		}
		shown(t, s)
	}
	source := rand.New(rand.NewSource(40))
	for range 20000 {
		x := math.Float64frombits(source.Uint64() >> 1)
		if math.IsNaN(x) {
			continue
		}
		shows(t, api.Module{Decls: []api.Decl{{Name: "x", Type: api.Real, Has: true, Inits: []api.Expr{double(x, 0)}}}})
	}
}

// shows says whether what is shown of a module that some text tells is parsed to it, but for all At.
func shows(t *testing.T, m api.Module) {
	t.Helper()
	s := parse.Show(m)
	n, at, e := parse.Parse(s)
	if e != api.OK || told(placeless(n)) != told(placeless(m)) || parse.Show(n) != s {
		t.Errorf("P11.2: shown is %s, answered is error %d at %d, and %s", helps.Short(s), e, at, helps.Short(parse.Show(n)))
	}
}

// wild is any expression, in which what isn't an atom stands at all places.
func wild(source *rand.Rand, deep int) api.Expr {
	kid := func() api.Expr { return wild(source, deep-1) }
	kind := 1 + source.Intn(9)
	if deep == 0 {
		kind = 1 + source.Intn(3)
	}
	switch kind {
	case api.EReal:
		return double(float64(source.Intn(1000))/8, 0)
	case api.EName:
		return name("a", 0)
	case api.EUnary:
		return unary([]string{"-", "!", "~", "*", "&"}[source.Intn(5)], 0, kid())
	case api.EBinary:
		all, _ := allOperators()
		return binary(all[source.Intn(len(all))], kid(), kid())
	case api.EAssign:
		return assign(kid(), kid())
	case api.ECall:
		var args []api.Expr
		for range source.Intn(4) {
			args = append(args, kid())
		}
		return call("f", 0, args...)
	case api.EIndex:
		return index(kid(), kid())
	case api.ECast:
		return cast(uint32(source.Intn(5)), 0, kid())
	}
	return num(source.Uint32(), 0)
}

// Any expression in any other one: each is one that some text tells.
func TestShownWild(t *testing.T) {
	source := rand.New(rand.NewSource(41))
	for range 20000 {
		x := wild(source, 1+source.Intn(4))
		shows(t, api.Module{Decls: []api.Decl{{Name: "x", Type: api.Int, Has: true, Inits: []api.Expr{x}}}})
	}
	// Each pair of operators, on each side, as a tree.
	all, _ := allOperators()
	for _, op := range all {
		for _, other := range all {
			inner := binary(other, name("a", 0), name("b", 0))
			for _, x := range []api.Expr{binary(op, inner, num(1, 0)), binary(op, num(1, 0), inner), unary("-", 0, inner), cast(1, 0, inner), index(inner, inner), assign(inner, inner)} {
				shows(t, api.Module{Decls: []api.Decl{{Name: "x", Type: api.Int, Len: 4, Has: true, Inits: []api.Expr{x, x}}}})
			}
		}
	}
}

// lines are declarations, told without blanks or ends of lines behind them, of which so many bytes are shown.
func lines(n int) string {
	s := ""
	for n > 0 {
		length := min(n, 46)
		// What is left must be enough for another one.
		if left := n - length; left > 0 && left < 7 {
			length -= 7
		}
		s += "int " + strings.Repeat("n", length-len("int ;\n")) + ";"
		n -= length
	}
	return s
}

// A module shown becomes too long where its text had fewer blanks and lines: just as many bytes as may be, and one more.
func TestShownTooLong(t *testing.T) {
	for _, n := range []int{7, 46, 53, 1000, 8191, 8192, 8193, 8194, 8300} {
		s := lines(n)
		text := parse.Show(parsed(t, s))
		if len(text) != n {
			t.Fatalf("of %s are shown %d bytes, not %d", helps.Short(s), len(text), n)
		}
		shown(t, s)
		if n > 8192 {
			is(t, "P11.2", text, wrong(0, api.ErrLong))
		}
	}
	for _, s := range []string{
		bodyHead + strings.Repeat("{{{{a;}}}}", 200) + "}",
		bodyHead + strings.Repeat("{", 40) + strings.Repeat("}", 41),
		bodyHead + strings.Repeat("{", 20) + strings.Repeat(";", 2000) + strings.Repeat("}", 21),
		"int a=" + strings.Repeat("-1-", 800) + "1;",
		"int a[1]={" + strings.Repeat("1,", 1200) + "1};",
		"double a[1]={" + strings.Repeat("1.0e999,", 900) + "1.5};",
	} {
		right(t, s)
	}
	if s := parse.Show(parsed(t, bodyHead+strings.Repeat("{{{{a;}}}}", 200)+"}")); len(s) <= 8192 {
		t.Errorf("P11.2: %d bytes are shown where too many should be", len(s))
	}
}

// A module shown never becomes too many tokens, or too deep: what is in its text just as many, or as deep, as may be, is
// that in what is shown too, or less.
func TestShownNeverTooMuch(t *testing.T) {
	for _, s := range []string{
		"int a=" + strings.Repeat("1+", 1247) + "1;",
		"int a=" + strings.Repeat("(1)-", 623) + "1;",
		bodyHead + strings.Repeat(";", 2493) + "}",
		strings.Repeat("int a;", 833),
		"int a = " + strings.Repeat("(", 19) + "1" + strings.Repeat(")", 19) + ";",
		"int a = " + strings.Repeat("-(", 12) + "--1" + strings.Repeat(")", 12) + ";",
		"int a = " + strings.Repeat("b=(", 12) + "1" + strings.Repeat(")", 12) + ";",
		"int a = " + strings.Repeat("1-(", 19) + "1" + strings.Repeat(")", 19) + ";",
		bodyHead + strings.Repeat("{", 37) + "1;" + strings.Repeat("}", 38),
	} {
		m := parsed(t, s)
		text := parse.Show(m)
		if len(text) > 8192 {
			t.Fatalf("of %s are shown %d bytes", helps.Short(s), len(text))
		}
		if before, now := len(tokensOf(t, s)), len(tokensOf(t, text)); now > before {
			t.Errorf("P11.2: of %s with %d tokens are shown %d", helps.Short(s), before, now)
		}
		right(t, s)
	}
	source := rand.New(rand.NewSource(42))
	for n := range 500 {
		head, tail, hole, _ := nested(source, 39+n%2, true)
		if s := head + "1" + tail; hole != "stmt" && ask(s).e == api.OK {
			shown(t, s)
		}
		s, _ := made(source, 400)
		if now, before := len(tokensOf(t, parse.Show(parsed(t, s)))), len(tokensOf(t, s)); now > before {
			t.Errorf("P11.2: of %s with %d tokens are shown %d", helps.Short(s), before, now)
		}
	}
}
