package parse_test

import (
	"strconv"
	"strings"
	"testing"

	"solder/api"
)

// function is a declaration of one without a block.
func function(params ...api.Param) api.Decl {
	return api.Decl{Func: true, Name: "f", Type: api.Int, Params: params}
}

// Each type as a param, alone and with others.
func TestParams(t *testing.T) {
	holds(t, "int f();", fine(function()))
	holds(t, "int f(void);", fine(function()))
	holds(t, "int f( /* */ void\n);", fine(function()))
	holds(t, "int f(void x);", fine(function(api.Param{Name: "x", Type: api.Void, At: 6})))
	holds(t, "int f(void x, void y);", fine(function(api.Param{Name: "x", Type: api.Void, At: 6}, api.Param{Name: "y", Type: api.Void, At: 14})))
	for _, x := range types {
		holds(t, "int f("+x.text+"x);", fine(function(api.Param{Name: "x", Type: x.is, At: 6})))
		for _, y := range types {
			at := 6 + len(x.text) + 3
			holds(t, "int f("+x.text+"x, "+y.text+"x);", fine(function(api.Param{Name: "x", Type: x.is, At: 6}, api.Param{Name: "x", Type: y.is, At: at})))
		}
	}
}

// paramsOf are n params, told in a text, and what they are.
func paramsOf(n int) (string, []api.Param) {
	var texts []string
	var l []api.Param
	at := len("int f(")
	for k := range n {
		x := types[k%5]
		p := api.Param{Name: "p" + strconv.Itoa(k), Type: x.is, At: at}
		texts = append(texts, x.text+p.Name)
		at += len(x.text+p.Name) + 1
		l = append(l, p)
	}
	return strings.Join(texts, ","), l
}

// Up to MaxArgs of them, and one more: whatever stands there.
func TestManyParams(t *testing.T) {
	for n := 1; n <= 8; n++ {
		s, l := paramsOf(n)
		holds(t, "int f("+s+");", fine(function(l...)))
		d := function(l...)
		d.Has, d.Body = true, block(len("int f("+s+")"))
		holds(t, "int f("+s+"){}", fine(d))
	}
	for _, n := range []int{9, 10, 20} {
		s, l := paramsOf(n)
		at := l[8].At
		holds(t, "int f("+s+");", wrong(at, api.ErrFull))
		holds(t, "int f("+s+"){}", wrong(at, api.ErrFull))
		holds(t, "int f("+s, wrong(at, api.ErrFull))
	}
	eight, _ := paramsOf(8)
	for _, what := range []string{"int x);", "int);", "x);", ");", ",", ";", "", "void);", "1", "1.5", "static", "(", "{", "= 1"} {
		refused(t, "int f("+eight+",", what, api.ErrFull)
		refused(t, "int f("+eight+", /* , */\n", what, api.ErrFull)
	}
}

// A type, a name or a comma that lacks, at each param.
func TestWrongParams(t *testing.T) {
	refused(t, "int f(", ",int x);", api.ErrSyntax)
	refused(t, "int f(void", ", int x);", api.ErrSyntax)
	refused(t, "int f(void", "*x);", api.ErrSyntax)
	refused(t, "int f(void", "", api.ErrSyntax)
	refused(t, "int f(void", ";", api.ErrSyntax)
	refused(t, "int f(void ", "void);", api.ErrSyntax)
	refused(t, "int f(void ", "int x);", api.ErrSyntax)
	refused(t, "int f(", "(void));", api.ErrSyntax)
	refused(t, "int f(void", "[1]);", api.ErrSyntax)
	refused(t, "int f ", "void);", api.ErrSyntax)
	for n := range 8 {
		s, _ := paramsOf(n)
		if n > 0 {
			s += ","
		}
		for _, what := range []string{"x);", "static int x);", "extern int x);", "1);", "(int x));", ",", ";", "", "if", "{", "*x);", "=", "&x"} {
			refused(t, "int f("+s, what, api.ErrSyntax)
		}
		if n > 0 {
			refused(t, "int f("+s, ");", api.ErrSyntax)
			refused(t, "int f("+s+"void", ");", api.ErrSyntax)
		}
		for _, typed := range []string{"int ", "int *", "double ", "double *"} {
			for _, what := range []string{");", ", int y);", "1);", "int x);", "*", "[", "(x));", "=", ";", "", "{", "return"} {
				if what != "*" || strings.HasSuffix(typed, "*") {
					refused(t, "int f("+s+typed, what, api.ErrSyntax)
				}
			}
		}
		for _, what := range []string{"y);", "int y);", "[1]);", "= 1);", ";", "}", "]", "", "(", "{", "1", "* y", "void"} {
			refused(t, "int f("+s+"int x ", what, api.ErrSyntax)
		}
	}
	// What would be deep elsewhere isn't deeper than anything in a param's place.
	refused(t, "int f(", strings.Repeat("(", 50)+"int x", api.ErrSyntax)
	refused(t, "int f(int x", strings.Repeat("[1", 50), api.ErrSyntax)
	refused(t, "int f(int x, int ", strings.Repeat("-", 50), api.ErrSyntax)
}
