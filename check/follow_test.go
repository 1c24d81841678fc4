package check_test

import (
	"slices"
	"strings"
	"testing"

	"solder/api"
	"solder/check"
	"solder/helps"
)

// follower says whether all types of a module that was checked follow from their Kids'. It looks at what it was answered
// alone: there each name means one thing, within its function.
type follower struct {
	decls []api.Decl // what each name means that is told at the top, or is known from the beginning
	names []api.Decl // likewise, of the function's params and locals, as variables
	wrong []string   // expressions whose types don't follow
}

// follows says that of a text that is right.
func follows(t *testing.T, text string) {
	t.Helper()
	c, _, _ := check.Check(parsed(t, text))
	for _, s := range notFollowing(c) {
		t.Errorf("P12.2: Check(%s): %s doesn't follow", helps.Short(text), s)
	}
}

// notFollowing are the expressions of a module whose types don't follow, sketched.
func notFollowing(m api.Module) []string {
	f := follower{decls: append([]api.Decl{
		{Func: true, Name: "putw", Type: api.Void, Params: []api.Param{{Type: api.Int}}},
		{Func: true, Name: "putd", Type: api.Void, Params: []api.Param{{Type: api.Real}}},
		{Func: true, Name: "getw", Type: api.Int},
	}, m.Decls...)}
	for _, d := range m.Decls {
		f.names = nil
		for _, p := range d.Params {
			f.names = append(f.names, api.Decl{Name: p.Name, Type: p.Type})
		}
		for _, x := range d.Inits {
			f.expr(x, d.Type)
		}
		f.stmts(d.Body.Kids, d.Type)
	}
	return f.wrong
}

func (f *follower) stmts(l []api.Stmt, answers int) {
	for _, s := range l {
		asked := map[int]int{api.SReturn: answers, api.SLocal: s.Type}[s.Kind]
		for _, x := range s.Exprs {
			f.expr(x, asked)
		}
		if s.Kind == api.SLocal {
			f.names = append(f.names, api.Decl{Name: s.Name, Type: s.Type, Len: s.Len})
		}
		f.stmts(s.Kids, answers)
	}
}

// expr looks at an expression, and all in it. Asked is the type that is asked for where it stands, or none.
func (f *follower) expr(x api.Expr, asked int) {
	var kids []string
	for n, kid := range x.Kids {
		f.expr(kid, f.asked(x, n))
		kids = append(kids, typeName(kid.Type))
	}
	if want := f.want(x, asked, strings.Join(kids, " ")); typeName(x.Type) != want {
		f.wrong = append(f.wrong, sketchExpr(x)+", wanted "+want+",")
	}
}

// asked is the type that is asked for where the Kid n of x stands, if that doesn't hang on the Kid.
func (f *follower) asked(x api.Expr, n int) int {
	switch {
	case x.Kind == api.EAssign && n == 1:
		return x.Kids[0].Type
	case x.Kind == api.EBinary && (x.Op == "==" || x.Op == "!=") && x.Kids[1-n].Kind != api.ENum:
		return x.Kids[1-n].Type
	case x.Kind == api.ECall:
		if d := f.meant(x.Name, f.decls); d != nil && n < len(d.Params) {
			return d.Params[n].Type
		}
	}
	return api.Void
}

func (f *follower) meant(name string, l []api.Decl) *api.Decl {
	if n := slices.IndexFunc(l, func(d api.Decl) bool { return d.Name == name }); n >= 0 {
		return &l[n]
	}
	return nil
}

// want is the type that an expression must have.
func (f *follower) want(x api.Expr, asked int, kids string) string {
	switch x.Kind {
	case api.ENum:
		if x.Num == 0 && asked >= api.PInt {
			return typeName(asked)
		}
		return "int"
	case api.EReal:
		return "double"
	case api.EName:
		d := f.meant(x.Name, append(slices.Clone(f.names), f.decls...))
		switch {
		case d == nil || d.Func || x.Num != uint32(min(d.Len, 1)):
			return "no such name"
		case d.Len > 0:
			return typeName(d.Type) + "*"
		}
		return typeName(d.Type)
	case api.ECall:
		d := f.meant(x.Name, f.decls)
		if d == nil || !d.Func || strings.Join(paramTypes(d), " ") != kids {
			return "no such call"
		}
		return typeName(d.Type)
	}
	op := map[int]string{api.EAssign: "assign", api.EIndex: "index", api.EBinary: x.Op, api.ECast: "cast-to-" + typeName(int(x.Num))}[x.Kind]
	if x.Kind == api.EUnary {
		op = map[string]string{"-": "neg", "*": "deref", "&": "addr", "!": "!", "~": "~"}[x.Op]
	}
	want, is := typeTable()[op+" "+kids]
	if !is {
		return "no such operands"
	}
	return want
}

// A type that is told wrong is found, wherever it stands, and a Num of a name, and a name.
func TestFollowing(t *testing.T) {
	text := `int g; double d; int *p; double a[4] = {1.5, -d, a[1], *(a + g)}; int *r = 0;
double f(int x, int *q) { int b[3]; int y = x; double *z = 0; if (q == 0 || 0 != z || q == b) { b[y] = ~(int) d; q = 0; z = a - 1; p = b; }
	while (!x && d < 2.5) { putw(getw()); f(0, 0); x = y = 0; z = &a[x]; } return *z * f(*q % 3, &y); }
int *n() { return 0; }`
	m := parsed(t, text)
	c, at, e := check.Check(m)
	if e != api.OK || len(notFollowing(c)) > 0 {
		t.Fatalf("P12.2: error %d at %d, or %v", e, at, notFollowing(c))
	}
	all := 0
	helps.Walk(&c, func(x *api.Expr) {
		all++
		right := *x
		for typed := range 6 {
			if x.Type = typed; typed != right.Type && len(notFollowing(c)) == 0 {
				t.Errorf("that %s has that type isn't found", sketchExpr(*x))
			}
		}
		*x = right
		if x.Kind == api.EName {
			if x.Num = 1 - x.Num; len(notFollowing(c)) == 0 {
				t.Errorf("that %s has that Num isn't found", sketchExpr(*x))
			}
			*x = right
			if x.Name = "$9"; len(notFollowing(c)) == 0 {
				t.Errorf("that %s has no such name isn't found", sketchExpr(right))
			}
			*x = right
		}
	}, func(*api.Stmt) {})
	if all < 70 {
		t.Errorf("the test's text has %d expressions alone", all)
	}
}
