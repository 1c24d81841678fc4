package fold_test

import (
	"fmt"
	"math"
	"testing"

	"solder/api"
	"solder/fold"
)

// Each kind of expression that is constant.
func TestConstant(t *testing.T) {
	is(t, "0", wordOf(0))
	is(t, "7", wordOf(7))
	is(t, "4294967295", wordOf(-1))
	is(t, "2147483648", wordOf(-1<<31))
	is(t, "((5))", wordOf(5))
	is(t, "1.5", realOf(1.5))
	is(t, "0.0", realOf(0))
	is(t, "9.9e999", realOf(math.Inf(1)))
	is(t, "1.0e-400", realOf(0))
	is(t, "a", intsAt("a", 0))
	is(t, "b", realsAt("b", 0))
	is(t, "c", intsAt("c", 0))
	is(t, "&i", intsAt("i", 0))
	is(t, "&d", realsAt("d", 0))
	is(t, "&e", intsAt("e", 0))
	is(t, "&s", realsAt("s", 0))
	is(t, "&a[1]", intsAt("a", 1))
	is(t, "&b[2]", realsAt("b", 2))
	is(t, "a + 2", intsAt("a", 2))
	is(t, "b + 1", realsAt("b", 1))
	is(t, "a + 3 - 1", intsAt("a", 2))
	is(t, "-5", wordOf(-5))
	is(t, "-1.5", realOf(-1.5))
	is(t, "-0.0", realOf(math.Copysign(0, -1)))
	is(t, "!5", wordOf(0))
	is(t, "!!5", wordOf(1))
	is(t, "~5", wordOf(-6))
	is(t, "3 * 4 - 1", wordOf(11))
	is(t, "1 + 2 * 3 << 1 | 1", wordOf(15))
	is(t, "1 < 2 == 1", wordOf(1))
	is(t, "1.5 < 2.5 && 2.5 >= 1.5", wordOf(1))
	is(t, "0.0 / 0.0", bitsOf(0x7ff8<<48))
	is(t, "0.0 / 0.0 != 0.0 / 0.0", wordOf(1))
	is(t, "-(0.0 / 0.0)", bitsOf(0x7ff8<<48))
	is(t, "1.0 / -0.0", realOf(math.Inf(-1)))
	is(t, "0.0 == -0.0", wordOf(1))
	is(t, "0 && 1 / 0 || 7 % 0", wordOf(1))
	is(t, "-7 / 2", wordOf(-3))
	is(t, "-2147483648 / -1", wordOf(-1<<31))
	is(t, "1 / 0", wordOf(-1))
	is(t, "7 % 0", wordOf(7))
	is(t, "-8 >> 33", wordOf(-4))
	is(t, "1 << 32", wordOf(1))
}

func TestCasts(t *testing.T) {
	is(t, "(int) 5", wordOf(5))
	is(t, "(int) 4294967295", wordOf(-1))
	is(t, "(double) 5", realOf(5))
	is(t, "(double) 4294967295", realOf(-1))
	is(t, "(double) 2147483648", realOf(-1<<31))
	is(t, "(double) 0", realOf(0))
	is(t, "(double) 1.5", realOf(1.5))
	is(t, "(double) -0.0", realOf(math.Copysign(0, -1)))
	is(t, "(double) (0.0 / 0.0)", bitsOf(0x7ff8<<48))
	is(t, "(int) 1.9", wordOf(1))
	is(t, "(int) -1.9", wordOf(-1))
	is(t, "(int) -0.0", wordOf(0))
	is(t, "(int) 2147483647.5", wordOf(1<<31-1))
	is(t, "(int) 2147483648.0", wordOf(1<<31-1))
	is(t, "(int) -2147483648.9", wordOf(-1<<31))
	is(t, "(int) -2147483649.0", wordOf(-1<<31))
	is(t, "(int) (1.0 / 0.0)", wordOf(1<<31-1))
	is(t, "(int) (-1.0 / 0.0)", wordOf(-1<<31))
	is(t, "(int) (0.0 / 0.0)", wordOf(1<<31-1))
	is(t, "(double) (int) 2.75 * 2.0", realOf(4))
	is(t, "(int) (double) 2147483648", wordOf(-1<<31))
	is(t, "a + (int) 2.9", intsAt("a", 2))
	for _, w := range ends() {
		is(t, fmt.Sprintf("(double) %d", w), realOf(float64(int32(w))))
		is(t, fmt.Sprintf("(int) (double) %d", w), wordOf(int(w)))
		is(t, fmt.Sprintf("(int) %d", w), wordOf(int(w)))
	}
}

// Each kind that isn't constant, at its place.
func TestNotConstant(t *testing.T) {
	for _, marked := range []string{
		"@i", "@d", "@p", "@q", "@e", "@s", "@n", "@m", "@o", "(@i)", // variables that are no array, params and locals among them
		"@getw()", "@h()", "@g()", "@v()", "@f(1, 1.5)", "@putw(1)", "@putd(1.5)", // calls
		"@i = 1", "@a[1] = 1", "@d = 1.5", "@p = 0", "@p = a", "@p = &i", "@n = 1", "(@i = 1)", // assignments
		"@a[0]", "@a[1]", "@b[0]", "@c[0]", "(@&i)[0]", "(@a + 1)[1]", "@p[0]", "@l[0]", "@a[7]", "(@&a[1])[0]", // indices
		"@*a", "@*&i", "@*(a + 1)", "@*&a[1]", "&@*a", "&@*&i", "&@*(b + 1)", "*@p", "&*@p", "@*b", // what is at a place
		"@l", "&@l[0]", "@&n", "@&m", "@l + 1", "&@p[0]", "&@l[1]", // what is in a function
		"@a == a", "@b != b", "@a == &a[0]", "@&i == &i", "@a == 0", "0 == @p", "@0 == a", "@0 != a", "@&i != 0", // comparisons of places
		"-@i", "!@i", "~@i", "-@i + 1", "-@d", "1 + @i", "@i + 1", "1.5 * @d", "1 && @i", "@i || 1", "0 && @i", "1 || @i", "(int) @d", "(double) @i", "(int) @i", "(double) @d", // Kids that aren't
		"a + @i", "@p + 1", "a - @i", "&a[@i]", "&@p[1]", "&@q[1]", "&@g()[1]", "@g() + 1", "a[@i]", "&a[@a[1]]", "&a[1 + @i]", "@i = n", "@i = getw()",
		"f(@i, d)", "f(1, @d)", "putw(@i)", "putw(1 + @i)", "f(1 + 2, 2.5 * @d)",
		"@f(1 + 1, -1.5)", "&a[@h()]", "(int) @f(1, 1.5)", "-@f(1, 1.5)",
		"@a + 4", "@a - 1", "@&a[4]", "@&a[-1]", "@&i + 2", "@&i - 1", "@b + 3", "@&b[3]", "@c + 2", // Offs beyond
	} {
		not(t, marked)
	}
	// Nothing settles what stands beside it.
	not(t, "0 * @i")
	not(t, "@i * 0")
	not(t, "@i - i")
	not(t, "@i == i")
	not(t, "1 || 2 || @getw()")
	not(t, "0 && (1 || @i)")
	not(t, "-1.5 + -@d")
	not(t, "(1 + 2) * (3 + (4 - @i))")
}

// A nought where a pointer is asked for is nothing; elsewhere it is a word.
func TestNoughts(t *testing.T) {
	m := checked(t, "int *p = 0; double *q = 0; int x = 0; double y[2] = {0.0}; int *r = (00);")
	for n, want := range []fold.Const{{Type: api.PInt}, {Type: api.PReal}, wordOf(0), realOf(0), {Type: api.PInt}} {
		if got := ask(m, m.Decls[n].Inits[0]); got != (answer{want, 0, api.OK}) {
			t.Errorf("P13.1: Eval of the Init of %s: %v, want %v", m.Decls[n].Name, got, want)
		}
	}
	// In other places that ask for a pointer, too; there it can't be moved from, so it is looked at itself.
	text := "int *p; double *q; void f(int *x, double *y); int *g() { p = 0; q = 0; f(0, 0); 0 == p; q != 0; return 0; }"
	m = checked(t, text)
	body := m.Decls[3].Body.Kids
	p, q := fold.Const{Type: api.PInt}, fold.Const{Type: api.PReal}
	for n, want := range [][]fold.Const{{{}, p}, {{}, q}, {p, q}, {p, {}}, {{}, q}} {
		for k, c := range want {
			if c.Type == api.Void {
				continue
			}
			if got := ask(m, body[n].Exprs[0].Kids[k]); got != (answer{c, 0, api.OK}) {
				t.Errorf("P13.1: Eval of the Kid %d in statement %d of %s: %v, want %v", k, n, text, got, c)
			}
		}
	}
	if got := ask(m, body[5].Exprs[0]); got != (answer{p, 0, api.OK}) {
		t.Errorf("P13.1: Eval of what is returned: %v, want %v", got, p)
	}
	for _, typed := range []int{api.PInt, api.PReal} {
		for _, num := range []uint32{0, 5} {
			x := api.Expr{Kind: api.ENum, Type: typed, Num: num, At: 9}
			if got := ask(m, x); got != (answer{fold.Const{Type: typed}, 0, api.OK}) {
				t.Errorf("P13.1: Eval of the ENum %v: %v", x, got)
			}
		}
	}
}

// modules are some of each kind; none among them.
func modules(t *testing.T) map[string]api.Module {
	t.Helper()
	return map[string]api.Module{
		"none": {}, "one without Decls": {Decls: []api.Decl{}}, "a variable's": checked(t, "int a;"), "a function's": checked(t, "int a() { return 1; }"), "whole": checked(t, ahead+"}"),
		"what isn't checked": {Decls: []api.Decl{{}, {Name: "a", Type: 9, Len: -1}, {Func: true, Name: "a"}}},
	}
}

// An EReal is constant with any bits, whatever the module is; NaN has one form.
func TestRealsOfAnyBits(t *testing.T) {
	for what, m := range modules(t) {
		for _, bits := range realEnds() {
			want := bitsOf(bits)
			if x := math.Float64frombits(bits); x != x {
				want = bitsOf(0x7ff8 << 48)
			}
			for _, typed := range []int{api.Real, api.Void} {
				x := api.Expr{Kind: api.EReal, Bits: bits, Type: typed, At: 77}
				if got := ask(m, x); got != (answer{want, 0, api.OK}) {
					t.Errorf("P13.1: %s: Eval of a real with the bits %x: %v, want %v", what, bits, got, want)
				}
			}
			cast := api.Expr{Kind: api.ECast, Num: api.Real, Type: api.Real, At: 70, Kids: []api.Expr{{Kind: api.EReal, Bits: bits, Type: api.Real, At: 77}}}
			if got := ask(m, cast); got != (answer{want, 0, api.OK}) {
				t.Errorf("P13.1: %s: Eval of a real with the bits %x, cast to a real: %v, want %v", what, bits, got, want)
			}
		}
		for _, w := range ends() {
			x := api.Expr{Kind: api.ENum, Num: w, Type: api.Int, At: 77}
			if got := ask(m, x); got != (answer{wordOf(int(w)), 0, api.OK}) {
				t.Errorf("P13.1: %s: Eval of the word %d: %v", what, w, got)
			}
		}
	}
	// And in others, and as an Init.
	m := checked(t, "double d[5] = {1.5, 1.5, 1.5, 1.5};")
	inits := m.Decls[0].Inits
	inits[0].Bits, inits[1].Bits, inits[2].Bits, inits[3].Bits = 0xfff0000000000001, 1<<63, 0x7ff0000000000000, 0x7fffffffffffffff
	l, _, e := fold.Data(m)
	if got := sketch(l); e != api.OK || got != "d 000000000000f87f0000000000000080000000000000f07f000000000000f87f0000000000000000" {
		t.Errorf("P13.1: Data of reals of any bits: %s, %d", got, e)
	}
	for _, c := range []struct {
		op   string
		want fold.Const
	}{{"+", bitsOf(0x7ff8 << 48)}, {"==", wordOf(0)}, {"!=", wordOf(1)}, {"<", wordOf(0)}, {">=", wordOf(0)}} {
		x := api.Expr{Kind: api.EBinary, Op: c.op, Kids: []api.Expr{inits[0], inits[0]}, At: 3}
		if got := ask(api.Module{}, x); got != (answer{c.want, 0, api.OK}) {
			t.Errorf("P13.1: Eval of two NaNs with %s: %v, want %v", c.op, got, c.want)
		}
	}
}

// hand is an expression that was made by hand, since no module has such ones.
func hand(kind int, op string, kids ...api.Expr) api.Expr {
	return api.Expr{Kind: kind, Op: op, Kids: kids, At: 50}
}

// What doesn't fit in its types isn't constant, though its Kids are.
func TestTypesThatDoNotFit(t *testing.T) {
	m := checked(t, head)
	word, real, nothing := api.Expr{Kind: api.ENum, Num: 1, Type: api.Int}, api.Expr{Kind: api.EReal, Type: api.Real}, api.Expr{Kind: api.ENum, Type: api.PInt}
	array, reals := api.Expr{Kind: api.EName, Name: "a", Num: 1, Type: api.PInt}, api.Expr{Kind: api.EName, Name: "b", Num: 1, Type: api.PReal}
	cast := func(to uint32, x api.Expr) api.Expr {
		c := hand(api.ECast, "", x)
		c.Num = to
		return c
	}
	index := func(a, b api.Expr) api.Expr { return hand(api.EUnary, "&", hand(api.EIndex, "", a, b)) }
	for what, x := range map[string]api.Expr{
		"a cast of a pointer": cast(api.Int, array), "a cast of a pointer to a real": cast(api.Real, reals), "a cast of nothing": cast(api.Int, nothing), "a cast of a pointer to itself": cast(api.PInt, array),
		"a cast of a word to a pointer": cast(api.PInt, word), "a cast of a word to nothing": cast(api.Void, word), "a cast of a real to no type": cast(9, real), "a cast of nothing to itself": cast(api.PInt, nothing),
		"a place and a real": hand(api.EBinary, "+", array, real), "a place less a real": hand(api.EBinary, "-", array, real), "a real and a place": hand(api.EBinary, "+", real, array), "a word and a place": hand(api.EBinary, "+", word, array), "a word less a place": hand(api.EBinary, "-", word, array), "two places": hand(api.EBinary, "-", array, array), "two places, added": hand(api.EBinary, "+", array, reals),
		"a place times a word": hand(api.EBinary, "*", array, word), "a place, compared with a word": hand(api.EBinary, "<", array, word), "two places, compared": hand(api.EBinary, "==", array, array), "two places, ordered": hand(api.EBinary, "<", array, array), "a place and nothing, compared": hand(api.EBinary, "!=", array, nothing), "nothing and a place": hand(api.EBinary, "==", nothing, array), "two of nothing": hand(api.EBinary, "==", nothing, nothing), "a place && a word": hand(api.EBinary, "&&", array, word), "a word && a place": hand(api.EBinary, "&&", word, array), "a place & a word": hand(api.EBinary, "&", array, word),
		"nothing and a word": hand(api.EBinary, "+", nothing, word), "nothing and nought": hand(api.EBinary, "+", nothing, api.Expr{Kind: api.ENum, Type: api.Int}), "a word and nothing": hand(api.EBinary, "+", word, nothing), "nothing less a word": hand(api.EBinary, "-", nothing, word), "a place and nothing": hand(api.EBinary, "+", array, nothing),
		"a word and a real": hand(api.EBinary, "+", word, real), "a real and a word": hand(api.EBinary, "*", real, word), "% of reals": hand(api.EBinary, "%", real, real), "a sign that is none": hand(api.EBinary, "+=", word, word), "an unary sign of two": hand(api.EBinary, "!", word, word), "no sign": hand(api.EBinary, "", word, word),
		"a place's other sign": hand(api.EUnary, "-", array), "! of a place": hand(api.EUnary, "!", array), "! of nothing": hand(api.EUnary, "!", nothing), "! of a real": hand(api.EUnary, "!", real), "~ of a real": hand(api.EUnary, "~", real), "* of a word": hand(api.EUnary, "*", word), "+ of a word": hand(api.EUnary, "+", word), "no sign of one": hand(api.EUnary, "", word),
		"& of a word": hand(api.EUnary, "&", word), "& of a real": hand(api.EUnary, "&", real), "& of a sum": hand(api.EUnary, "&", hand(api.EBinary, "+", array, word)), "& of &": hand(api.EUnary, "&", hand(api.EUnary, "&", api.Expr{Kind: api.EName, Name: "i"})),
		"a word, indexed": index(word, word), "a real, indexed": index(real, word), "nothing, indexed": index(nothing, word), "nothing, indexed by nought": index(nothing, api.Expr{Kind: api.ENum, Type: api.Int}), "an index that is a real": index(array, real), "an index that is a place": index(array, array), "an index that is nothing": index(array, nothing), "a word, indexed by a place": index(word, array),
		"a function's name": {Kind: api.EName, Name: "f", Num: 1}, "a name that isn't known": {Kind: api.EName, Name: "zzz", Num: 1}, "& of a function's name": hand(api.EUnary, "&", api.Expr{Kind: api.EName, Name: "f"}), "& of an unknown name": hand(api.EUnary, "&", api.Expr{Kind: api.EName, Name: "zzz"}), "& of a pointer": hand(api.EUnary, "&", api.Expr{Kind: api.EName, Name: "p"}), "no name": {Kind: api.EName},
	} {
		x.At = 99
		if got := ask(m, x); got != (answer{fold.Const{}, 99, api.ErrConst}) {
			t.Errorf("P13.1: %s: Eval: %v, want an error at 99", what, got)
		}
	}
}

// An expression is the same constant wherever it stands.
func TestEverywhereTheSame(t *testing.T) {
	for _, x := range []struct {
		typed, text string
		want        fold.Const
	}{
		{"int ", "-7 % 3", wordOf(-1)}, {"double ", "1.5 - 0.25", realOf(1.25)}, {"int *", "&a[2] - 1", intsAt("a", 1)}, {"double *", "b + 2", realsAt("b", 2)}, {"int *", "&i", intsAt("i", 0)},
	} {
		m := checked(t, head+x.typed+"x = "+x.text+"; "+x.typed+"z() { "+x.typed+"y = "+x.text+"; if ("+x.text+" == "+x.text+") y = "+x.text+"; while (!("+x.text+" == "+x.text+")) "+x.text+"; return "+x.text+"; }")
		variable, function := m.Decls[len(m.Decls)-2], m.Decls[len(m.Decls)-1]
		s := function.Body.Kids
		for n, at := range []api.Expr{variable.Inits[0], s[0].Exprs[0], s[1].Exprs[0].Kids[0], s[1].Kids[0].Exprs[0].Kids[1], s[2].Exprs[0].Kids[0].Kids[1], s[2].Kids[0].Exprs[0], s[3].Exprs[0]} {
			if got := ask(m, at); got != (answer{x.want, 0, api.OK}) {
				t.Errorf("P13.1: Eval(%s), place %d: %v, want %v", x.text, n, got, x.want)
			}
		}
		// What the module has beside its variables leads to nothing.
		bare := api.Module{Decls: m.Decls[:7]}
		if got := ask(bare, variable.Inits[0]); got != (answer{x.want, 0, api.OK}) {
			t.Errorf("P13.1: Eval(%s) in a module without the function: %v, want %v", x.text, got, x.want)
		}
	}
}
