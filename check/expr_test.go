package check_test

import (
	"strconv"
	"strings"
	"testing"

	"solder/api"
)

// grid is a table: what stands in a row, for each of letters as the left operand, and a column, for the right one.
type grid [len(letters)]string

func (g grid) at(left, right byte) byte {
	return g[strings.IndexByte(letters, left)][strings.IndexByte(letters, right)]
}

// binaryGrid is the type of a binary operator, by its operands'.
func binaryGrid(op string) grid {
	//            v0idpq    v0idpq    v0idpq    v0idpq    v0idpq    v0idpq
	switch op {
	case "+", "-":
		return grid{"......", ".ii...", ".ii...", "...d..", ".pp...", ".qq..."}
	case "*", "/":
		return grid{"......", ".ii...", ".ii...", "...d..", "......", "......"}
	case "<", "<=", ">", ">=":
		return grid{"......", ".ii...", ".ii...", "...i..", "......", "......"}
	case "==", "!=":
		return grid{"......", ".ii.ii", ".ii...", "...i..", ".i..i.", ".i...i"}
	}
	return grid{"......", ".ii...", ".ii...", "......", "......", "......"}
}

// Each operator with operands of all types, in all forms.
func TestBinary(t *testing.T) {
	for _, op := range []string{"+", "-", "*", "/", "%", "<<", ">>", "<", "<=", ">", ">=", "==", "!=", "&", "^", "|", "&&", "||"} {
		g := binaryGrid(op)
		eachPair(func(a, b form) {
			means(t, a.text+" "+op+" "+b.plain(), g.at(a.is, b.is))
		})
	}
}

// What noughts become beside others, and what not.
func TestNoughts(t *testing.T) {
	const head = "int *p; double *q; int a[2]; int g(int *x, double *y, int z); "
	for _, c := range []struct{ s, want string }{
		{"p == 0", "==.int(p.int*, 0.int*)"}, {"0 == p", "==.int(0.int*, p.int*)"}, {"q != 0", "!=.int(q.double*, 0.double*)"}, {"0 != q", "!=.int(0.double*, q.double*)"}, {"a == 0", "==.int(a[].int*, 0.int*)"}, {"0 == 0", "==.int(0.int, 0.int)"},
		{"(0) == (p)", "==.int(0.int*, p.int*)"}, {"0 == p + 0", "==.int(0.int*, +.int*(p.int*, 0.int))"}, {"p == 00", "==.int(p.int*, 0.int*)"}, {"&*p == 0", "==.int(&.int*(*.int(p.int*)), 0.int*)"},
		{"p = 0", "=.int*(p.int*, 0.int*)"}, {"q = 0", "=.double*(q.double*, 0.double*)"}, {"*p = 0", "=.int(*.int(p.int*), 0.int)"}, {"p = p + 0", "=.int*(p.int*, +.int*(p.int*, 0.int))"}, {"p[0] = 0", "=.int([].int(p.int*, 0.int), 0.int)"},
		{"g(0, 0, 0)", "g.int(0.int*, 0.double*, 0.int)"}, {"g(p, 0, 1)", "g.int(p.int*, 0.double*, 1.int)"}, {"(p = 0) == 0", "==.int(=.int*(p.int*, 0.int*), 0.int*)"}, {"0 == (p = 0)", "==.int(0.int*, =.int*(p.int*, 0.int*))"},
		{"p == 0 == 0", "==.int(==.int(p.int*, 0.int*), 0.int)"}, {"0 == p == 0", "==.int(==.int(0.int*, p.int*), 0.int)"}, {"(p != 0) != (0 == q)", "!=.int(!=.int(p.int*, 0.int*), ==.int(0.double*, q.double*))"}, {"p == 0 && 0", "&&.int(==.int(p.int*, 0.int*), 0.int)"},
	} {
		becomes(t, head+"void f() { "+c.s+"; }", "int* p; double* q; int a[2]; int g(int* $0, double* $1, int $2); void f() {"+c.want+";}")
	}
	becomes(t, "int *p = 0; double *q = 0; int a = 0; double *g() { return 0; } int *h() { int *x = 0; int y = 0; return (0); }",
		"int* p = 0.int*; double* q = 0.double*; int a = 0.int; double* g() {return 0.double*;} int* h() {int* $0 = 0.int*; int $1 = 0.int; return 0.int*;}")
	for _, s := range []string{"@p == 1", "@1 == p", "@p == -0", "@p == !1", "@p == (int) 0", "@p == 0.0", "@0.0 == p", "@p == 0 + 0", "@p == a[0]", "@p < 0", "@0 < p", "@p <= 0", "@0 >= q", "@p && 0", "@0 || p", "@p * 0", "@0 + p", "@0 - p", "@*0", "@&0", "@0[0]", "@0[a]", "@p & 0", "@p = 1", "@p = -0", "@q = 0.0", "@0 = p", "@0 = 0", "@a = 0", "@g(0, 0, p)", "@g(1, 0, 0)", "@g(0, 1, 0)", "@g(0, -0, 0)", "@g(0.0, 0, 0)", "@(int) p", "@p = (0 == 0)", "@p = (p == 0)", "@p[p]", "@p[q]", "@!p", "@~p", "@-p", "@p / 0", "@p % 0", "@p << 0", "@q + 0.0"} {
		wrong(t, head+"void f() { "+s+"; }", api.ErrType)
	}
	wrong(t, "int *p = @1;", api.ErrType)
	wrong(t, "int *p = @-0;", api.ErrType)
	wrong(t, "double *p = @0.0;", api.ErrType)
	wrong(t, "int *f() { @return 1; }", api.ErrType)
	wrong(t, "int *f() { @return 0 + 0; }", api.ErrType)
	wrong(t, "int *f() { @int *p = 1; }", api.ErrType)
	wrong(t, "void f() { @double d = 0; }", api.ErrType)
	wrong(t, "double f() { @return 0; }", api.ErrType)
	wrong(t, "double d = @0;", api.ErrType)
}

// unaryLine is the type of a unary operator, by its operand's; of & see below.
func unaryLine(op string) string {
	switch op {
	// .     v0idpq
	case "-":
		return ".iid.."
	case "*":
		return "....id"
	}
	return ".ii..."
}

func TestUnary(t *testing.T) {
	for _, f := range forms() {
		n := strings.IndexByte(letters, f.is)
		for _, op := range []string{"-", "!", "~", "*"} {
			means(t, "@"+op+" ("+f.plain()+")", unaryLine(op)[n])
			means(t, "@"+op+f.plain(), unaryLine(op)[n])
		}
		want := byte('.')
		if f.lvalue {
			want = "..pq.."[n]
		}
		means(t, "@& "+f.plain(), want)
		means(t, "@&("+f.plain()+")", want)
	}
	means(t, "@- -~!i", 'i')
	means(t, "@*&*&*&i", 'i')
	means(t, "@&*&d", 'q')
	means(t, "@-*q", 'd')
	wrong(t, inFunction("void", "@& &i;"), api.ErrType)
	wrong(t, inFunction("void", "@* * p;"), api.ErrType)
	wrong(t, inFunction("void", "!@!d;"), api.ErrType)
	wrong(t, inFunction("void", "*-@*gd;"), api.ErrType)
}

// asked are the letters that fit where a type is asked for.
func asked(letter byte) string {
	return map[byte]string{'i': "i0", 'd': "d", 'p': "p0", 'q': "q0"}[letter]
}

func fitsAsked(f form, letter byte) bool {
	return strings.IndexByte(asked(letter), f.is) >= 0
}

// Each form to the left of = with each one to the right.
func TestAssign(t *testing.T) {
	eachPair(func(a, b form) {
		want := byte('.')
		if a.lvalue && fitsAsked(b, a.is) {
			want = a.is
		}
		means(t, a.text+" = "+b.plain(), want)
	})
	// What is no lvalue, whatever brackets and operators there are; and what is one.
	for _, s := range []string{"@1 = 1", "@fi() = 1", "@-i = 1", "@!i = 1", "@~i = 1", "@&i = 0", "@&i = p", "@i + 1 = 1", "@i == 1 = 1", "@p + 1 = p", "(@i = 1) = 1", "@(int) i = 1", "@(double) d = 1.5", "@ga = 0", "@ga = p", "@la = 0", "@la = la", "@gb = 0", "@gb = q", "((@lb)) = q", "@1.5 = 1.5", "@d * d = d", "@i && i = i", "@fv() = fv()", "@putw(1) = 0"} {
		means(t, s, '.')
	}
	for _, s := range []string{"@i = 1", "((@i)) = 1", "@*p = 1", "@*(p + 1) = 1", "@*ga = 1", "@ga[0] = 1", "(@la)[0] = 1", "@fp()[i] = 1", "@*fp() = 1", "@*&i = 1", "(@ga + 1)[1] = 1", "@i = i = i = 0", "@i = ga[i = 1]", "@ga[i = 1] = i", "@*(p = 0) = 1", "(@p = ga)[0] = 1", "@*&ga[1] = 1"} {
		means(t, s, 'i')
	}
	means(t, "@p = gp = 0", 'p')
	means(t, "@q = gq = lb", 'q')
	wrong(t, inFunction("void", "i = @d = 1;"), api.ErrType)
	wrong(t, inFunction("void", "@i = d = 1.5;"), api.ErrType)
	wrong(t, inFunction("void", "i = @1 = 1;"), api.ErrType)
	wrong(t, inFunction("void", "@p = i = 0;"), api.ErrType)
	wrong(t, inFunction("void", "@p = q = 0;"), api.ErrType)
}

// Each form with each one as an index.
func TestIndex(t *testing.T) {
	eachPair(func(a, b form) {
		want := byte('.')
		if b.typed() == 'i' {
			want = "....id"[strings.IndexByte(letters, a.is)]
		}
		// In brackets: else an operator ahead of it would be one of the element.
		means(t, "("+a.text+")["+b.plain()+"]", want)
	})
	means(t, "@ga[ga[ga[1]]]", 'i')
	wrong(t, inFunction("void", "@ga[1][2];"), api.ErrType)
	wrong(t, inFunction("void", "@ga[1.5];"), api.ErrType)
	wrong(t, inFunction("void", "ga[@ga[1.5]];"), api.ErrType)
	wrong(t, inFunction("void", "@i[1.5];"), api.ErrType)
	wrong(t, inFunction("void", "@1[ga];"), api.ErrType)
}

// Each form cast to each type.
func TestCast(t *testing.T) {
	for _, f := range forms() {
		number := strings.IndexByte("0id", f.is) >= 0
		for _, c := range []struct {
			to string
			is byte
		}{{"int", 'i'}, {"double", 'd'}, {"void", '.'}, {"int *", '.'}, {"double *", '.'}} {
			want := c.is
			if !number {
				want = '.'
			}
			means(t, "@("+c.to+") "+f.plain(), want)
			means(t, "@("+c.to+") ("+f.plain()+")", want)
		}
	}
	means(t, "@(int) (double) (int) 1.5", 'i')
	means(t, "@(double) 1 + 1.5", 'd')
	wrong(t, inFunction("void", "(int) @(void) 1;"), api.ErrType)
	wrong(t, inFunction("void", "(int) @(int *) 0;"), api.ErrType)
	wrong(t, inFunction("void", "@(void) fv();"), api.ErrType)
}

// Calls with each form for each param's type.
func TestArguments(t *testing.T) {
	for n := range letters {
		typed := letters[n]
		if asked(typed) == "" {
			continue
		}
		for _, f := range forms() {
			want := byte('.')
			if fitsAsked(f, typed) {
				want = 'q'
			}
			head := "double *h(" + letterText(typed) + " x); "
			text := head + known + "void f" + knownBody + "@h(" + f.plain() + "); }"
			if want == '.' {
				wrong(t, text, api.ErrType)
			} else {
				right(t, strings.Replace(text, "@", "", 1))
			}
		}
	}
	// Of each type that a function answers.
	means(t, "@fi()", 'i')
	means(t, "@fd()", 'd')
	means(t, "@fv()", 'v')
	means(t, "@fp()", 'p')
	means(t, "@fq()", 'q')
}

// Calls with too few arguments, just enough, and too many, of functions with up to eight params; with one of another type
// at each place.
func TestManyArguments(t *testing.T) {
	types := "idpq"
	args := map[byte]string{'i': "1", 'd': "1.5", 'p': "0", 'q': "&e"}
	others := map[byte]string{'i': "1.5", 'd': "1", 'p': "1", 'q': "&a"}
	for n := range 9 {
		var params, with []string
		for k := range n {
			params = append(params, letterText(types[k%4])+" x"+strconv.Itoa(k))
			with = append(with, args[types[k%4]])
		}
		head := "int a; double e; int g(" + strings.Join(params, ", ") + "); void f() { "
		call := func(l []string) string { return "g(" + strings.Join(l, ", ") + "); }" }
		right(t, head+call(with))
		for k := range 9 {
			if k < n {
				wrong(t, head+"@"+call(with[:k]), api.ErrType)
				other := append(append([]string{}, with[:k]...), others[types[k%4]])
				wrong(t, head+"@"+call(append(other, with[k+1:]...)), api.ErrType)
				other[k] = "putw(1)"
				wrong(t, head+"@"+call(append(other, with[k+1:]...)), api.ErrType)
			}
			if k > n {
				more := append([]string{}, with...)
				for len(more) < k && len(more) < 8 {
					more = append(more, "0")
				}
				if len(more) > n {
					wrong(t, head+"@"+call(more), api.ErrType)
				}
			}
		}
	}
	// Calls in calls: the inner one is told first.
	right(t, "int g(int x, int y); int a = g(g(1, 2), g(3, g(4, 5)));")
	wrong(t, "int g(int x, int y); int a = g(g(1, 2), g(3, @g(4)));", api.ErrType)
	wrong(t, "int g(int x, int y); int a = g(g(1, 2), @g(3, g(4, 5), 6));", api.ErrType)
	wrong(t, "int g(int x, int y); int a = @g(g(1, 2), g(3, g(4, 5)), 6);", api.ErrType)
}
