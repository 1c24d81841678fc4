package fold_test

import (
	"fmt"
	"math"
	"slices"
	"strconv"
	"strings"
	"testing"

	"solder/api"
	"solder/check"
	"solder/fold"
	"solder/helps"
	"solder/parse"
)

// head is what the tests' expressions may name. Of the arrays a has 3 elements, b 2, c 1.
const head = "int i = 1; double d; int *p; double *q; int a[3]; static double b[2]; extern int c[1]; extern int e; static double s; int f(int x, double y); int *g(); int h(); void v(); "

// ends are words at the ends of what they are taken for.
func ends() []uint32 {
	return []uint32{0, 1, 2, 3, 5, 7, 8, 30, 31, 32, 33, 63, 64, 1000, 0x7ffffffe, 0x7fffffff, 0x80000000, 0x80000001, 0xaaaaaaaa, 0xffffffe0, 0xfffffff9, 0xfffffffd, 0xfffffffe, 0xffffffff}
}

// realEnds are the bits of reals at their ends, NaNs of other forms among them.
func realEnds() []uint64 {
	all := []uint64{0x7ff8000000000000, 0x7ff0000000000001, 0xfff0000000000001, 0xfff8000000000000, 0x7fffffffffffffff, 0xffffffffffffffff}
	for _, x := range []float64{0, 1, 1.5, 2, 0.1, 3, math.Inf(1), math.MaxFloat64, math.SmallestNonzeroFloat64, 0x1p-1022, 0x1p53, 0x1p31, 0x1p31 - 1, 0x1p31 - 0.5, 0x1p32, 1e300, 1e-300} {
		all = append(all, math.Float64bits(x), math.Float64bits(-x)|1<<63)
	}
	return all
}

// answer is what Eval answers.
type answer struct {
	c  fold.Const
	at int
	e  api.Errno
}

func ask(m api.Module, x api.Expr) answer {
	c, at, e := fold.Eval(m, x)
	return answer{c, at, e}
}

func wordOf(n int) fold.Const {
	return fold.Const{Type: api.Int, Word: uint32(n)}
}

func realOf(x float64) fold.Const {
	return fold.Const{Type: api.Real, Bits: math.Float64bits(x)}
}

func bitsOf(bits uint64) fold.Const {
	return fold.Const{Type: api.Real, Bits: bits}
}

func intsAt(name string, off int) fold.Const {
	return fold.Const{Type: api.PInt, Name: name, Off: off}
}

func realsAt(name string, off int) fold.Const {
	return fold.Const{Type: api.PReal, Name: name, Off: off}
}

// checked is the module of a text in which nothing may be wrong.
func checked(t *testing.T, text string) api.Module {
	t.Helper()
	m, at, e := parse.Parse(text)
	if e != api.OK {
		t.Fatalf("the test's text %s isn't parsed: error %d at %d", helps.Short(text), e, at)
	}
	c, at, e := check.Check(m)
	if e != api.OK {
		t.Fatalf("the test's text %s isn't right: error %d at %d", helps.Short(text), e, at)
	}
	return c
}

// ahead is what is ahead of an expression that stands in a function.
const ahead = head + "void z(int n) { int l[2]; double m; int *o; "

// stated is a module with an expression as a statement of a function, and that.
func stated(t *testing.T, text string) (api.Module, api.Expr) {
	t.Helper()
	m := checked(t, ahead+text+"; }")
	body := m.Decls[len(m.Decls)-1].Body.Kids
	return m, body[len(body)-1].Exprs[0]
}

// is says whether an expression is constant.
func is(t *testing.T, text string, want fold.Const) {
	t.Helper()
	m, x := stated(t, text)
	if got := ask(m, x); got != (answer{want, 0, api.OK}) {
		t.Errorf("P13.1: Eval(%s): %v, want %v", helps.Short(text), got, want)
	}
	asModel(t, text, m, x)
}

// not says whether an expression isn't constant at the place that is marked by a @.
func not(t *testing.T, marked string) {
	t.Helper()
	at := strings.Index(marked, "@")
	if at < 0 || strings.Count(marked, "@") != 1 {
		t.Fatalf("the test's text %s has not one mark", helps.Short(marked))
	}
	m, x := stated(t, strings.Replace(marked, "@", "", 1))
	if got, want := ask(m, x), (answer{fold.Const{}, len(ahead) + at, api.ErrConst}); got != want {
		t.Errorf("P13.1: Eval(%s): %v, want %v", helps.Short(marked), got, want)
	}
	asModel(t, marked, m, x)
}

// asModel says whether Eval answers of an expression what the model does.
func asModel(t *testing.T, what string, m api.Module, x api.Expr) {
	t.Helper()
	if got, want := ask(m, x), model(m, x); got != want {
		t.Errorf("P13.1: Eval(%s): %v, want %v", helps.Short(what), got, want)
	}
}

// sketch tells data: of each Datum its name, its bytes, and its Refs.
func sketch(l []api.Datum) string {
	var all []string
	for _, x := range l {
		s := x.Name + " " + fmt.Sprintf("%x", x.Bytes)
		if x.Static {
			s = "static " + s
		}
		for _, r := range x.Refs {
			s += " " + strconv.Itoa(r.At) + ":" + r.Name + "+" + strconv.Itoa(r.Add)
		}
		all = append(all, s)
	}
	return strings.Join(all, "; ")
}

// bytesAre says what the bytes of a text's variables are.
func bytesAre(t *testing.T, text, want string) {
	t.Helper()
	m := checked(t, text)
	l, at, e := fold.Data(m)
	if got := sketch(l); got != want || at != 0 || e != api.OK {
		t.Errorf("P13.1: Data(%s): error %d at %d, %s, want %s", helps.Short(text), e, at, got, want)
	}
	dataAsModel(t, text, m)
}

// noBytes says whether the first Init of a text that isn't constant is told, at the place that is marked by a @.
func noBytes(t *testing.T, marked string) {
	t.Helper()
	want := strings.Index(marked, "@")
	if want < 0 || strings.Count(marked, "@") != 1 {
		t.Fatalf("the test's text %s has not one mark", helps.Short(marked))
	}
	m := checked(t, strings.Replace(marked, "@", "", 1))
	if l, at, e := fold.Data(m); len(l) != 0 || at != want || e != api.ErrConst {
		t.Errorf("P13.1: Data(%s): error %d at %d, %s, want %d at the mark, %d", helps.Short(marked), e, at, sketch(l), api.ErrConst, want)
	}
	dataAsModel(t, marked, m)
}

// dataAsModel says whether Data answers of a module what the model does.
func dataAsModel(t *testing.T, what string, m api.Module) {
	t.Helper()
	l, at, e := fold.Data(m)
	want, wantAt, wantE := modelData(m)
	if !slices.EqualFunc(l, want, sameDatum) || at != wantAt || e != wantE {
		t.Errorf("P13.1: Data(%s): error %d at %d, %s, want error %d at %d, %s", helps.Short(what), e, at, helps.Around(sketch(l), sketch(want)), wantE, wantAt, helps.Around(sketch(want), sketch(l)))
	}
}

func sameDatum(a, b api.Datum) bool {
	return a.Name == b.Name && a.Static == b.Static && slices.Equal(a.Bytes, b.Bytes) && slices.Equal(a.Refs, b.Refs)
}

// tried is the module of a text, and the expression that is its last function's first statement, if it is right and has
// one.
func tried(text string) (api.Module, api.Expr, bool) {
	m, _, e := parse.Parse(text)
	if e != api.OK {
		return api.Module{}, api.Expr{}, false
	}
	c, _, e := check.Check(m)
	if e != api.OK {
		return api.Module{}, api.Expr{}, false
	}
	body := c.Decls[len(c.Decls)-1].Body.Kids
	if len(body) != 1 || len(body[0].Exprs) != 1 {
		return api.Module{}, api.Expr{}, false
	}
	return c, body[0].Exprs[0], true
}
