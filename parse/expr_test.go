package parse_test

import (
	"strings"
	"testing"

	"solder/api"
)

// place is where an expression may stand, and what is made of it there, and of where it ends.
type place struct {
	head, tail string
	within     func(x api.Expr, end int) api.Decl
}

// inBody is what stands in a function's block.
func inBody(s api.Stmt) api.Decl {
	return api.Decl{Func: true, Name: "f", Has: true, Body: block(len(bodyHead)-2, s)}
}

// Each place where an expr stands.
func places() []place {
	const at = len(bodyHead)
	return []place{
		{"int a = ", ";", func(x api.Expr, _ int) api.Decl {
			return api.Decl{Name: "a", Type: api.Int, Has: true, Inits: []api.Expr{x}}
		}},
		{"int a[2] = {1, ", ", 2};", func(x api.Expr, end int) api.Decl {
			return api.Decl{Name: "a", Type: api.Int, Len: 2, Has: true, Inits: []api.Expr{num(1, 12), x, num(2, end+2)}}
		}},
		{bodyHead + "return ", ";}", func(x api.Expr, _ int) api.Decl { return inBody(back(at, x)) }},
		{bodyHead, ";}", func(x api.Expr, _ int) api.Decl { return inBody(alone(at, x)) }},
		{bodyHead + "int a = ", ";}", func(x api.Expr, _ int) api.Decl { return inBody(local(at, api.Int, "a", 0, x)) }},
		{bodyHead + "if (", ");}", func(x api.Expr, end int) api.Decl { return inBody(choice(at, x, alone(end+1))) }},
		{bodyHead + "while (", ");}", func(x api.Expr, end int) api.Decl { return inBody(loop(at, x, alone(end+1))) }},
		{bodyHead + "g(", ");}", func(x api.Expr, _ int) api.Decl { return inBody(alone(at, call("g", at, x))) }},
		{bodyHead + "g(1, ", ", 2);}", func(x api.Expr, end int) api.Decl {
			return inBody(alone(at, call("g", at, num(1, at+2), x, num(2, end+2))))
		}},
		{bodyHead + "a[", "];}", func(x api.Expr, _ int) api.Decl { return inBody(alone(at, index(name("a", at), x))) }},
		{bodyHead + "a = ", ";}", func(x api.Expr, _ int) api.Decl { return inBody(alone(at, assign(name("a", at), x))) }},
		{bodyHead + "return (", ");}", func(x api.Expr, _ int) api.Decl { return inBody(back(at, x)) }},
	}
}

// exprIs says whether Parse answers of a text, at each place, what is told as if the text began at 0.
func exprIs(t *testing.T, text string, want api.Expr) {
	t.Helper()
	for _, p := range places() {
		at := len(p.head)
		holds(t, p.head+text+p.tail, fine(p.within(movedExpr(want, at), at+len(text))))
	}
}

// exprWrong says whether at each place what stands behind an expression's first part doesn't go on with it.
func exprWrong(t *testing.T, ahead, behind string) {
	t.Helper()
	for _, p := range places() {
		refused(t, p.head+ahead, behind+p.tail, api.ErrSyntax)
	}
}

// operators are the binary ones by rising strength.
func operators() [][]string {
	bar := string(rune(124))
	return [][]string{{bar + bar}, {"&&"}, {bar}, {"^"}, {"&"}, {"==", "!="}, {"<", "<=", ">", ">="}, {"<<", ">>"}, {"+", "-"}, {"*", "/", "%"}}
}

func allOperators() (all []string, strength map[string]int) {
	strength = map[string]int{}
	for n, l := range operators() {
		all = append(all, l...)
		for _, op := range l {
			strength[op] = n
		}
	}
	return all, strength
}

func TestAtoms(t *testing.T) {
	exprIs(t, "1", num(1, 0))
	exprIs(t, "0", num(0, 0))
	exprIs(t, "0000000000", num(0, 0))
	exprIs(t, "0000000017", num(17, 0))
	exprIs(t, "2147483647", num(1<<31-1, 0))
	exprIs(t, "2147483648", num(1<<31, 0))
	exprIs(t, "4294967295", num(1<<32-1, 0))
	exprIs(t, "1.5", double(1.5, 0))
	exprIs(t, "1.5e3", double(1500, 0))
	exprIs(t, "0.0", double(0, 0))
	exprIs(t, "00.10", double(0.1, 0))
	exprIs(t, "25.0e-1", double(2.5, 0))
	exprIs(t, "1.0e+2", double(100, 0))
	exprIs(t, "a", name("a", 0))
	exprIs(t, "_", name("_", 0))
	exprIs(t, "ints", name("ints", 0))
	exprIs(t, strings.Repeat("x", 40), name(strings.Repeat("x", 40), 0))
	exprIs(t, "(1)", num(1, 1))
	exprIs(t, "((a))", name("a", 2))
	exprIs(t, "( /* ( */ 1.5\n)", double(1.5, 10))
	exprIs(t, "(((((a)))))", name("a", 5))
	exprWrong(t, "", "]")
	exprWrong(t, "", ",")
	exprWrong(t, "-", ")")
	exprWrong(t, "-", "}")
	exprWrong(t, "(", ")")
	exprWrong(t, "(1", ";")
	exprWrong(t, "(1 ", "2)")
	exprWrong(t, "(1", ", 2)")
	exprWrong(t, "(1", "]")
	exprWrong(t, "1 ", "2")
	exprWrong(t, "1 ", "a")
	exprWrong(t, "a ", "1")
	exprWrong(t, "a ", "b")
	exprWrong(t, "1 ", "1.5")
	exprWrong(t, "1.5 ", "a")
	exprWrong(t, "a ", "int")
	exprWrong(t, "1 ", "(1)")
	exprWrong(t, "1.5 ", "(1)")
	exprWrong(t, "(f) ", "(1)")
	exprWrong(t, "a[1] ", "(1)")
	exprWrong(t, "f(1) ", "(1)")
	exprWrong(t, "a ", "~ 1")
	exprWrong(t, "a ", "! 1")
	exprWrong(t, "1 + (", ") + 1")
}

// Each operator, and each pair of them: the stronger one takes its operands first, of two as strong ones the left one.
func TestOperators(t *testing.T) {
	all, strength := allOperators()
	if len(all) != 18 {
		t.Fatalf("the test has %d operators", len(all))
	}
	for _, op := range all {
		n := len(op)
		exprIs(t, "a"+op+"b", binary(op, name("a", 0), name("b", 1+n)))
		exprIs(t, "1 "+op+" (2)", binary(op, num(1, 0), num(2, 4+n)))
		exprWrong(t, "a "+op+" ", ")")
		exprWrong(t, "a "+op+" ", ", b")
		exprWrong(t, "(a "+op, ")")
		exprWrong(t, "a "+op+" ", "= 1")
		exprWrong(t, "a "+op+" ", "/ 1")
		exprWrong(t, "a "+op+" ", "if")
		for _, other := range all {
			s := "a " + op + " b " + other + " c"
			b, c := 3+n, 6+n+len(other)
			if strength[op] >= strength[other] {
				exprIs(t, s, binary(other, binary(op, name("a", 0), name("b", b)), name("c", c)))
			} else {
				exprIs(t, s, binary(op, name("a", 0), binary(other, name("b", b), name("c", c))))
			}
			exprIs(t, "(a "+op+" b) "+other+" c", binary(other, binary(op, name("a", 1), name("b", b+1)), name("c", c+2)))
			exprIs(t, "a "+op+" (b "+other+" c)", binary(op, name("a", 0), binary(other, name("b", b+1), name("c", c+1))))
			if other != "-" && other != "*" && other != "&" {
				exprWrong(t, "a "+op+" ", other+" c")
			}
		}
	}
}

// Longer rows of operators.
func TestRowsOfOperators(t *testing.T) {
	a, b, c, d := name("a", 0), name("b", 4), name("c", 8), name("d", 12)
	exprIs(t, "a - b - c - d", binary("-", binary("-", binary("-", a, b), c), d))
	exprIs(t, "a / b * c % d", binary("%", binary("*", binary("/", a, b), c), d))
	exprIs(t, "a + b * c + d", binary("+", binary("+", a, binary("*", b, c)), d))
	exprIs(t, "a * b + c * d", binary("+", binary("*", a, b), binary("*", c, d)))
	exprIs(t, "a < b + c * d", binary("<", a, binary("+", b, binary("*", c, d))))
	exprIs(t, "a * b + c < d", binary("<", binary("+", binary("*", a, b), c), d))
	exprIs(t, "((a)) + (b) * c", binary("+", name("a", 2), binary("*", name("b", 9), name("c", 14))))
	exprIs(t, "((a + b)) + c", binary("+", binary("+", name("a", 2), name("b", 6)), name("c", 12)))
	exprIs(t, "a ^ b & c ^ d", binary("^", binary("^", a, binary("&", b, c)), d))
	exprIs(t, "a < b < c < d", binary("<", binary("<", binary("<", a, b), c), d))
	l := operators()
	s, at := "a", 0
	want := name("a", 0)
	for n := len(l) - 1; n >= 0; n-- {
		op := l[n][0]
		s += " " + op + " a"
		at += len(op) + 3
		want = binary(op, want, name("a", at))
	}
	exprIs(t, s, want)
	s, want = "a", name("a", 0)
	for n := len(l) - 1; n >= 0; n-- {
		op := l[n][len(l[n])-1]
		s = "a " + op + " " + s
		want = binary(op, name("a", 0), movedExpr(want, len(op)+3))
	}
	exprIs(t, s, want)
}

// An assignment takes its operands from the right; without brackets it is no operand of another operator: all that is
// left of it is its left one.
func TestAssignments(t *testing.T) {
	all, _ := allOperators()
	exprIs(t, "a=1", assign(name("a", 0), num(1, 2)))
	exprIs(t, "a = b = c", assign(name("a", 0), assign(name("b", 4), name("c", 8))))
	exprIs(t, "a = b = c = 1", assign(name("a", 0), assign(name("b", 4), assign(name("c", 8), num(1, 12)))))
	exprIs(t, "(a = b) = c", assign(assign(name("a", 1), name("b", 5)), name("c", 10)))
	exprIs(t, "a = (b = c)", assign(name("a", 0), assign(name("b", 5), name("c", 9))))
	exprIs(t, "1 = 2", assign(num(1, 0), num(2, 4)))
	exprIs(t, "f() = 2.5", assign(call("f", 0), double(2.5, 6)))
	exprIs(t, "*a = *b", assign(unary("*", 0, name("a", 1)), unary("*", 5, name("b", 6))))
	exprIs(t, "-a = b", assign(unary("-", 0, name("a", 1)), name("b", 5)))
	exprIs(t, "(int) a = b", assign(cast(1, 0, name("a", 6)), name("b", 10)))
	exprIs(t, "-(a = b)", unary("-", 0, assign(name("a", 2), name("b", 6))))
	exprIs(t, "(int) (a = b)", cast(1, 0, assign(name("a", 7), name("b", 11))))
	exprIs(t, "(a = b)[c = d]", index(assign(name("a", 1), name("b", 5)), assign(name("c", 8), name("d", 12))))
	exprIs(t, "a[b = c] = d", assign(index(name("a", 0), assign(name("b", 2), name("c", 6))), name("d", 11)))
	exprIs(t, "f(a = b, c = d)", call("f", 0, assign(name("a", 2), name("b", 6)), assign(name("c", 9), name("d", 13))))
	for _, op := range all {
		n := len(op)
		exprIs(t, "a "+op+" b = c", assign(binary(op, name("a", 0), name("b", n+3)), name("c", n+7)))
		exprIs(t, "a = b "+op+" c", assign(name("a", 0), binary(op, name("b", 4), name("c", n+7))))
		exprIs(t, "a "+op+" b = c "+op+" d", assign(binary(op, name("a", 0), name("b", n+3)), binary(op, name("c", n+7), name("d", 2*n+10))))
		exprIs(t, "a = b "+op+" c = d", assign(name("a", 0), assign(binary(op, name("b", 4), name("c", n+7)), name("d", n+11))))
		exprIs(t, "a "+op+" (b = c)", binary(op, name("a", 0), assign(name("b", n+4), name("c", n+8))))
		exprIs(t, "(a = b) "+op+" c", binary(op, assign(name("a", 1), name("b", 5)), name("c", n+9)))
	}
	exprWrong(t, "a = ", ")")
	exprWrong(t, "a = ", "= b")
	exprWrong(t, "a = b = ", "]")
	exprWrong(t, "a = ", ", b")
	exprWrong(t, "a = ", "+ b")
	exprWrong(t, "a = ", "int")
	exprWrong(t, "(a = ", ")")
	exprWrong(t, "a = b ", "c")
}

// Each sign alone and in each other; what they take is no more than one unary.
func TestUnaries(t *testing.T) {
	signs := []string{"-", "!", "~", "*", "&"}
	all, _ := allOperators()
	for _, s := range signs {
		exprIs(t, s+"a", unary(s, 0, name("a", 1)))
		exprIs(t, s+" 1", unary(s, 0, num(1, 2)))
		exprIs(t, s+"(a)", unary(s, 0, name("a", 2)))
		exprIs(t, s+"a[1]", unary(s, 0, index(name("a", 1), num(1, 3))))
		exprIs(t, "("+s+"a)[1]", index(unary(s, 1, name("a", 2)), num(1, 5)))
		exprIs(t, s+"f(1)", unary(s, 0, call("f", 1, num(1, 3))))
		exprIs(t, s+"(double) a", unary(s, 0, cast(2, 1, name("a", 10))))
		exprIs(t, s+"(a + b)", unary(s, 0, binary("+", name("a", 2), name("b", 6))))
		for _, op := range all {
			n := len(op)
			exprIs(t, s+"a "+op+" b", binary(op, unary(s, 0, name("a", 1)), name("b", n+4)))
			exprIs(t, "a "+op+" "+s+"b", binary(op, name("a", 0), unary(s, n+3, name("b", n+4))))
		}
		for _, other := range signs {
			exprIs(t, s+" "+other+" a", unary(s, 0, unary(other, 2, name("a", 4))))
			exprIs(t, s+"("+other+"a)", unary(s, 0, unary(other, 2, name("a", 3))))
			for _, third := range signs {
				exprIs(t, s+" "+other+" "+third+"a", unary(s, 0, unary(other, 2, unary(third, 4, name("a", 5)))))
			}
		}
		exprWrong(t, s+" ", ")")
		exprWrong(t, s+" ", ", a")
		exprWrong(t, s+" ", "/ a")
		exprWrong(t, s+" ", "if")
		exprWrong(t, s+" ", "= a")
	}
	exprIs(t, "--a", unary("-", 0, unary("-", 1, name("a", 2))))
	exprIs(t, "a--b", binary("-", name("a", 0), unary("-", 2, name("b", 3))))
	exprIs(t, "a/ *b", binary("/", name("a", 0), unary("*", 3, name("b", 4))))
	exprIs(t, "a& &b", binary("&", name("a", 0), unary("&", 3, name("b", 4))))
	exprIs(t, "a&&&b", binary("&&", name("a", 0), unary("&", 3, name("b", 4))))
	exprIs(t, "-1", unary("-", 0, num(1, 1)))
	exprIs(t, "-4294967295", unary("-", 0, num(1<<32-1, 1)))
	exprIs(t, "-1.5", unary("-", 0, double(1.5, 1)))
	exprWrong(t, "", "&&a")
	exprWrong(t, "", "+a")
	exprWrong(t, "a", "!b")
	exprWrong(t, "a ", "~b")
}

// A cast of each type, of a unary; a ( with any reserved word behind it is one's beginning.
func TestCasts(t *testing.T) {
	for _, x := range types {
		s := "(" + x.text + ")"
		n, to := len(s), uint32(x.is)
		exprIs(t, s+"a", cast(to, 0, name("a", n)))
		exprIs(t, s+" 1.5", cast(to, 0, double(1.5, n+1)))
		exprIs(t, s+"(a)", cast(to, 0, name("a", n+1)))
		exprIs(t, s+"(a + b)", cast(to, 0, binary("+", name("a", n+1), name("b", n+5))))
		exprIs(t, s+"a + b", binary("+", cast(to, 0, name("a", n)), name("b", n+4)))
		exprIs(t, "a * "+s+"b", binary("*", name("a", 0), cast(to, 4, name("b", n+4))))
		exprIs(t, s+"-a", cast(to, 0, unary("-", n, name("a", n+1))))
		exprIs(t, "-"+s+"a", unary("-", 0, cast(to, 1, name("a", n+1))))
		exprIs(t, s+"f(1)", cast(to, 0, call("f", n, num(1, n+2))))
		exprIs(t, s+"a[1]", cast(to, 0, index(name("a", n), num(1, n+2))))
		exprIs(t, "("+s+"a)[1]", index(cast(to, 1, name("a", n+1)), num(1, n+4)))
		exprIs(t, s+"(int)a", cast(to, 0, cast(1, n, name("a", n+5))))
		exprIs(t, "("+s+"a)", cast(to, 1, name("a", n+1)))
		exprWrong(t, s, ")")
		exprWrong(t, s, ", a")
		exprWrong(t, s, "= a")
		exprWrong(t, s, "/ a")
		exprWrong(t, s, "int")
		exprWrong(t, s, "if")
		exprWrong(t, "("+x.text, "a) b")
		exprWrong(t, "("+x.text, ", a")
		exprWrong(t, "("+x.text, "int")
		exprWrong(t, "("+x.text, "1)")
		exprWrong(t, "("+x.text, "]")
	}
	exprWrong(t, "(void ", "*) a")
	exprWrong(t, "(int *", "*) a")
	exprWrong(t, "(double *", "*) a")
	for _, w := range []string{"static", "extern", "if", "else", "while", "return", "break", "continue"} {
		for _, behind := range []string{") a", " int) a", "", " (1)", "*"} {
			exprWrong(t, "(", w+behind)
			exprWrong(t, "1 + (", w+behind)
			exprWrong(t, "((", w+behind)
			exprWrong(t, "f((", w+behind)
			exprWrong(t, "(int) (", w+behind)
		}
	}
	for _, w := range []string{"int", "double", "void", "static", "if", "else"} {
		exprWrong(t, "f(", w+") a")
		exprWrong(t, "f(1, ", w+") a")
		exprWrong(t, "a[", w+"] a")
		exprWrong(t, "1 + ", w+" a")
		exprWrong(t, "a = ", w+" a")
	}
}

// An index of a name, of an index, of a call, of brackets, of a number.
func TestIndices(t *testing.T) {
	exprIs(t, "a[1]", index(name("a", 0), num(1, 2)))
	exprIs(t, "a[1][2]", index(index(name("a", 0), num(1, 2)), num(2, 5)))
	exprIs(t, "a[b[1]]", index(name("a", 0), index(name("b", 2), num(1, 4))))
	exprIs(t, "f()[1]", index(call("f", 0), num(1, 4)))
	exprIs(t, "f(2)[1][0]", index(index(call("f", 0, num(2, 2)), num(1, 5)), num(0, 8)))
	exprIs(t, "(a)[1]", index(name("a", 1), num(1, 4)))
	exprIs(t, "(a[1])[2]", index(index(name("a", 1), num(1, 3)), num(2, 7)))
	exprIs(t, "(a + b)[1]", index(binary("+", name("a", 1), name("b", 5)), num(1, 8)))
	exprIs(t, "(*a)[1]", index(unary("*", 1, name("a", 2)), num(1, 5)))
	exprIs(t, "1[a]", index(num(1, 0), name("a", 2)))
	exprIs(t, "1.5[a]", index(double(1.5, 0), name("a", 4)))
	exprIs(t, "a[1] + b[2]", binary("+", index(name("a", 0), num(1, 2)), index(name("b", 7), num(2, 9))))
	exprIs(t, "a[b + c]", index(name("a", 0), binary("+", name("b", 2), name("c", 6))))
	exprIs(t, "a [ 1 ]", index(name("a", 0), num(1, 4)))
	exprWrong(t, "a[", "]")
	exprWrong(t, "a[1", ")")
	exprWrong(t, "a[1", ", 2]")
	exprWrong(t, "a[1 ", "2]")
	exprWrong(t, "a[1", "}")
	exprWrong(t, "(a[1]", "])")
	exprWrong(t, "a[1] ", "a")
	exprWrong(t, "", "[1]")
	exprWrong(t, "a[1][", "]")
	exprWrong(t, "a[", "[1]]")
}

// Calls of no arguments, and up to MaxArgs of them.
func TestCalls(t *testing.T) {
	exprIs(t, "f()", call("f", 0))
	exprIs(t, "f ( )", call("f", 0))
	exprIs(t, "f(1)", call("f", 0, num(1, 2)))
	exprIs(t, "f(a, b)", call("f", 0, name("a", 2), name("b", 5)))
	exprIs(t, "f(g(1), h())", call("f", 0, call("g", 2, num(1, 4)), call("h", 8)))
	exprIs(t, "f((a), (int) b)", call("f", 0, name("a", 3), cast(1, 7, name("b", 13))))
	exprIs(t, "(f(1))", call("f", 1, num(1, 3)))
	exprIs(t, "f(1) + f(2)", binary("+", call("f", 0, num(1, 2)), call("f", 7, num(2, 9))))
	exprIs(t, "f(a + b, c * d)", call("f", 0, binary("+", name("a", 2), name("b", 6)), binary("*", name("c", 9), name("d", 13))))
	exprWrong(t, "f(", ", 1)")
	exprWrong(t, "f(1,", ")")
	exprWrong(t, "f(1, ", ", 2)")
	exprWrong(t, "f(1, 2,", ")")
	exprWrong(t, "f(1 ", "2)")
	exprWrong(t, "f(1 ", "a)")
	exprWrong(t, "f(1", "]")
	exprWrong(t, "f(1", ";")
	exprWrong(t, "f(1", "}")
	exprWrong(t, "a[f()", ")]")
	exprWrong(t, "f() ", "f()")
	exprWrong(t, "f()", "()")
	exprWrong(t, "f(a ", "int b)")
	var args []api.Expr
	s := ""
	for n := range 8 {
		if n > 0 {
			s += ","
			exprWrong(t, "f("+s, ")")
			exprWrong(t, "f("+s, ", 1)")
			exprWrong(t, "f("+s, "static)")
		}
		s += "a"
		args = append(args, name("a", 2*n+2))
		exprIs(t, "f("+s+")", call("f", 0, args...))
		exprWrong(t, "f("+s+" ", "a)")
		exprWrong(t, "f("+s+" ", "1)")
		exprWrong(t, "f("+s, "]")
	}
}

// One argument too many: whatever stands there.
func TestTooManyArgs(t *testing.T) {
	for _, eight := range []string{"1,2,3,4,5,6,7,8", "a,b,c,d,e,f,g,h", "f(1,2),2,(3),a[4],-5,6+6,7=7,(int)8", "1,2,3,4,5,6,7,g(1,2,3,4,5,6,7,8)"} {
		for _, p := range places() {
			for _, what := range []string{"9)", "9", ")", ",", "", ";", "]", "if", "int", "(int) 9)", "(", "(if", "-9)", "f(1)", "}", "1.5", "a, b)", "=", "= 9)"} {
				refused(t, p.head+"f("+eight+",", what+p.tail, api.ErrFull)
				refused(t, p.head+"1 + f("+eight+", /*,*/ ", what+p.tail, api.ErrFull)
				refused(t, p.head+"g(f("+eight+",", what+p.tail, api.ErrFull)
			}
			refused(t, p.head+"f("+eight+",", "", api.ErrFull)
			right(t, p.head+"f(f("+eight+"),f("+eight+"))"+p.tail)
		}
	}
}
