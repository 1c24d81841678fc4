package check_test

import (
	"math"
	"slices"
	"strconv"
	"strings"
	"sync"
	"testing"

	"solder/api"
	"solder/helps"
	"solder/parse"
)

// The chapter told in another way: a module becomes a list of events; from it follow the names, each known from an event
// to another one; and then, event by event, what is wrong. Types are told by rows of text.

// typeRows are what stands under Types in the chapter.
func typeRows() string {
	return `
neg: int > int; double > double
! ~: int > int
deref: int* > int; double* > double
addr: int > int*; double > double*
+ -: int int > int; double double > double; int* int > int*; double* int > double*
* /: int int > int; double double > double
% << >> & ^ | && ||: int int > int
< <= > >=: int int > int; double double > int
== !=: int int > int; double double > int; int* int* > int; double* double* > int
== !=: int* nought > int; nought int* > int; double* nought > int; nought double* > int
assign: int int > int; double double > double; int* int* > int*; double* double* > double*; int* nought > int*; double* nought > double*
index: int* int > int; double* int > double
cast-to-int: int > int; double > int
cast-to-double: int > double; double > double
`
}

// typeTable leads from an operation and its operands' types to its own.
var typeTable = sync.OnceValue(func() map[string]string {
	all := map[string]string{}
	for line := range strings.Lines(strings.TrimSpace(typeRows())) {
		ops, ways, _ := strings.Cut(strings.TrimSpace(line), ": ")
		for op := range strings.SplitSeq(ops, " ") {
			for way := range strings.SplitSeq(ways, "; ") {
				operands, result, _ := strings.Cut(way, " > ")
				all[op+" "+operands] = result
			}
		}
	}
	return all
})

// event is one of what happens while a module is gone through: a word says what.
type event struct {
	what  string
	decl  *api.Decl
	param *api.Param
	stmt  *api.Stmt
	expr  *api.Expr
	n     int  // of an init
	loop  bool // does it stand in an SWhile?
}

// events of a module, in the order of its text.
type events struct {
	all  []event
	decl *api.Decl
	loop bool
}

func (l *events) add(what string, e event) {
	e.what, e.decl, e.loop = what, l.decl, l.loop
	l.all = append(l.all, e)
}

func (l *events) module(m *api.Module) {
	for n := range m.Decls {
		d := &m.Decls[n]
		l.decl = d
		l.add("decl", event{})
		l.add("open", event{})
		for k := range d.Params {
			l.add("param", event{param: &d.Params[k]})
		}
		for k := range d.Inits {
			l.exprs(d.Inits[k : k+1])
			l.add("init", event{expr: &d.Inits[k], n: k})
		}
		l.stmts(d.Body.Kids)
		l.add("close", event{})
	}
	for n := range m.Decls {
		l.decl = &m.Decls[n]
		l.add("last", event{})
	}
}

func (l *events) exprs(all []api.Expr) {
	for n := range all {
		l.exprs(all[n].Kids)
		l.add("expr", event{expr: &all[n]})
	}
}

func (l *events) stmts(all []api.Stmt) {
	for n := range all {
		s := &all[n]
		switch s.Kind {
		case api.SBlock:
			l.add("open", event{})
			l.stmts(s.Kids)
			l.add("close", event{})
			continue
		case api.SLocal:
			l.add("name", event{stmt: s})
		}
		l.exprs(s.Exprs)
		l.add("stmt", event{stmt: s})
		around := l.loop
		l.loop = l.loop || s.Kind == api.SWhile
		for k := range s.Kids {
			l.add("open", event{})
			l.stmts(s.Kids[k : k+1])
			l.add("close", event{})
		}
		l.loop = around
	}
}

// span is what a name means behind one event, and up to another.
type span struct {
	name          string
	from, to      int
	block         int // the event that opens its block; -1: the top
	function      bool
	typed, length int
	params        []string
	called        string
}

// spans are those of all events.
func spans(all []event) []*span {
	l := []*span{
		{name: "putw", from: -1, to: math.MaxInt, block: -2, function: true, params: []string{"int"}},
		{name: "putd", from: -1, to: math.MaxInt, block: -2, function: true, params: []string{"double"}},
		{name: "getw", from: -1, to: math.MaxInt, block: -2, function: true, typed: api.Int},
	}
	var open []int
	locals := 0
	for n, e := range all {
		s := &span{from: n, to: math.MaxInt, block: -1}
		switch {
		case e.what == "open":
			open = append(open, n)
			continue
		case e.what == "close":
			for _, s := range l {
				if s.block == open[len(open)-1] {
					s.to = n
				}
			}
			open = open[:len(open)-1]
			continue
		case e.what == "decl":
			locals = 0
			s.name, s.typed, s.length, s.function, s.called = e.decl.Name, e.decl.Type, e.decl.Len, e.decl.Func, e.decl.Name
			s.params = paramTypes(e.decl)
			if slices.ContainsFunc(l, func(o *span) bool { return o.block == -1 && o.name == s.name }) {
				continue
			}
		case e.what == "param":
			s.name, s.typed, s.block = e.param.Name, e.param.Type, open[len(open)-1]
		case e.what == "stmt" && e.stmt.Kind == api.SLocal:
			s.name, s.typed, s.length, s.block = e.stmt.Name, e.stmt.Type, e.stmt.Len, open[len(open)-1]
		default:
			continue
		}
		if s.called == "" {
			s.called = "$" + strconv.Itoa(locals)
			locals++
		}
		l = append(l, s)
	}
	return l
}

func paramTypes(d *api.Decl) (all []string) {
	for _, p := range d.Params {
		all = append(all, typeName(p.Type))
	}
	return all
}

// judge says what is wrong at an event: no error, if nothing is.
type judge struct {
	spans  []*span
	blocks []int // that of each event
	now    int
	decls  []*api.Decl // up to the one that is looked at
}

// model answers what Check must, and why. What is handed in stays.
func model(m api.Module) (api.Module, int, api.Errno, string) {
	m = helps.CloneModule(m)
	var l events
	l.module(&m)
	j := judge{spans: spans(l.all), blocks: blocks(l.all)}
	for n, e := range l.all {
		j.now = n
		if at, errno, why := j.event(e); errno != api.OK {
			return api.Module{}, at, errno, why
		}
	}
	return m, 0, api.OK, "right"
}

// blocks are, for each event, the one that opens the block in which it is.
func blocks(all []event) []int {
	open := []int{-1}
	var l []int
	for n, e := range all {
		switch e.what {
		case "open":
			open = append(open, n)
		case "close":
			open = open[:len(open)-1]
		}
		l = append(l, open[len(open)-1])
	}
	return l
}

func (j *judge) event(e event) (int, api.Errno, string) {
	switch e.what {
	case "decl":
		j.decls = append(j.decls, e.decl)
		errno, why := j.decl(e.decl)
		return e.decl.At, errno, why
	case "last":
		if e.decl.Func && e.decl.Static && !slices.ContainsFunc(j.decls, func(d *api.Decl) bool { return d.Name == e.decl.Name && d.Has }) {
			return e.decl.At, api.ErrName, "a Static function without a body"
		}
	case "param":
		if e.param.Type == api.Void {
			return e.param.At, api.ErrType, "a Void param"
		}
		if j.twice(e.param.Name) {
			return e.param.At, api.ErrName, "a param's name twice"
		}
		e.param.Name = j.innermost(e.param.Name, 1).called
	case "init":
		if !stands(e.expr, typeName(e.decl.Type)) {
			return e.expr.At, api.ErrType, "an init's type"
		}
		if e.n >= max(e.decl.Len, 1) {
			return e.expr.At, api.ErrRange, "an init too many"
		}
	case "name":
		if j.twice(e.stmt.Name) {
			return e.stmt.At, api.ErrName, "a local's name twice"
		}
	case "stmt":
		at, why := j.stmt(e)
		if why != "" {
			return at, api.ErrType, why
		}
	case "expr":
		errno, why := j.expr(e.expr)
		return e.expr.At, errno, why
	}
	return 0, api.OK, ""
}

func (j *judge) decl(d *api.Decl) (api.Errno, string) {
	defines := func(d *api.Decl) bool { return d.Func && d.Has || !d.Func && !d.Extern }
	if slices.Contains([]string{"putw", "putd", "getw"}, d.Name) {
		return api.ErrName, "a Decl of what is known from the beginning"
	}
	for _, a := range j.decls[:len(j.decls)-1] {
		if a.Name == d.Name && a.Func != d.Func {
			return api.ErrName, "a function and a variable"
		}
		if a.Name == d.Name && defines(a) && defines(d) {
			return api.ErrName, "two definitions"
		}
	}
	for _, a := range j.decls[:len(j.decls)-1] {
		if a.Name != d.Name {
			continue
		}
		switch {
		case a.Type != d.Type:
			return api.ErrType, "another Type"
		case a.Len != d.Len:
			return api.ErrType, "another Len"
		case a.Static != d.Static:
			return api.ErrType, "another Static"
		case !slices.Equal(paramTypes(a), paramTypes(d)):
			return api.ErrType, "other Params"
		}
	}
	switch {
	case d.Name == "main" && (!d.Func || d.Static || len(d.Params) > 0 || d.Type != api.Int):
		return api.ErrType, "no main"
	case !d.Func && d.Type == api.Void:
		return api.ErrType, "a Void variable"
	case d.Len > 0 && d.Type != api.Int && d.Type != api.Real:
		return api.ErrType, "an array of others"
	case !d.Func && d.Extern && d.Has:
		return api.ErrType, "an Extern with Inits"
	}
	return api.OK, ""
}

// twice tells whether a name has been told in the innermost block ahead of now.
func (j *judge) twice(name string) bool {
	return slices.ContainsFunc(j.spans, func(s *span) bool { return s.name == name && s.from < j.now && s.block == j.blocks[j.now] })
}

// innermost is what a name means now, or what it means as soon as so many events are over.
func (j *judge) innermost(name string, over int) *span {
	var found *span
	for _, s := range j.spans {
		if s.name == name && s.from < j.now+over && j.now < s.to && (found == nil || s.from > found.from) {
			found = s
		}
	}
	return found
}

// stmt says at which place which types are wrong.
func (j *judge) stmt(e event) (int, string) {
	s := e.stmt
	var x *api.Expr
	if len(s.Exprs) > 0 {
		x = &s.Exprs[0]
	}
	switch s.Kind {
	case api.SIf, api.SWhile:
		if x.Type != api.Int {
			return x.At, "a condition's type"
		}
	case api.SBreak, api.SContinue:
		if !e.loop {
			return s.At, "no SWhile"
		}
	case api.SReturn:
		switch {
		case x != nil && e.decl.Type == api.Void:
			return s.At, "a return with an expression"
		case x == nil && e.decl.Type != api.Void:
			return s.At, "a return without one"
		case x != nil && !stands(x, typeName(e.decl.Type)):
			return s.At, "a return's type"
		}
	case api.SLocal:
		switch {
		case s.Type == api.Void:
			return s.At, "a Void local"
		case s.Len > 0 && s.Type != api.Int && s.Type != api.Real:
			return s.At, "a local array of others"
		case s.Len > 0 && x != nil:
			return s.At, "a local array with Exprs"
		case x != nil && !stands(x, typeName(s.Type)):
			return s.At, "a local's type"
		}
		s.Name = j.innermost(s.Name, 1).called
	}
	return 0, ""
}

// stands tells whether an expression may stand where a type is asked for; a nought becomes a pointer by that.
func stands(x *api.Expr, typed string) bool {
	if x.Kind == api.ENum && x.Num == 0 && strings.HasSuffix(typed, "*") {
		x.Type = typeNumber(typed)
	}
	return typeName(x.Type) == typed
}

func typeNumber(typed string) int {
	return slices.Index([]string{"void", "int", "double", "int*", "double*"}, typed)
}

func (j *judge) expr(x *api.Expr) (api.Errno, string) {
	switch x.Kind {
	case api.ENum:
		x.Type = api.Int
	case api.EReal:
		x.Type = api.Real
	case api.EName:
		s := j.innermost(x.Name, 0)
		if s == nil || s.function {
			return api.ErrName, "no variable"
		}
		x.Name, x.Type = s.called, s.typed
		if s.length > 0 {
			x.Num, x.Type = 1, typeNumber(typeName(s.typed)+"*")
		}
	case api.ECall:
		s := j.innermost(x.Name, 0)
		if s == nil || !s.function {
			return api.ErrName, "no function"
		}
		if len(x.Kids) != len(s.params) {
			return api.ErrType, "how many arguments"
		}
		for n := range x.Kids {
			if !stands(&x.Kids[n], s.params[n]) {
				return api.ErrType, "an argument's type"
			}
		}
		x.Type = s.typed
	default:
		return byTable(x)
	}
	return api.OK, ""
}

// byTable tells a type by the rows: of the operands' types, or of one of them as a nought's.
func byTable(x *api.Expr) (api.Errno, string) {
	op := x.Op
	switch x.Kind {
	case api.EUnary:
		op = map[string]string{"-": "neg", "*": "deref", "&": "addr", "!": "!", "~": "~"}[op]
	case api.EAssign:
		op = "assign"
	case api.EIndex:
		op = "index"
	case api.ECast:
		op = "cast-to-" + typeName(int(x.Num))
	}
	if (op == "assign" || op == "addr") && !lvalue(x.Kids[0]) {
		return api.ErrType, "no lvalue"
	}
	names := []string{}
	for _, kid := range x.Kids {
		names = append(names, typeName(kid.Type))
	}
	for nought := -1; nought < len(names); nought++ {
		as := slices.Clone(names)
		if nought >= 0 {
			if kid := x.Kids[nought]; kid.Kind != api.ENum || kid.Num != 0 {
				continue
			}
			as[nought] = "nought"
		}
		result, is := typeTable()[op+" "+strings.Join(as, " ")]
		if !is {
			continue
		}
		if nought >= 0 {
			x.Kids[nought].Type = x.Kids[1-nought].Type
		}
		x.Type = typeNumber(result)
		return api.OK, ""
	}
	return api.ErrType, "types of " + op
}

func lvalue(x api.Expr) bool {
	switch x.Kind {
	case api.EName:
		return x.Num == 0
	case api.EUnary:
		return x.Op == "*"
	}
	return x.Kind == api.EIndex
}

// The model finds what is hand-told.
func TestModel(t *testing.T) {
	if n := len(typeTable()); n != 64 {
		t.Errorf("the model's rows have %d ways", n)
	}
	for _, c := range []struct {
		s  string
		at int
		e  api.Errno
	}{
		{"", 0, 0}, {"int a; int a;", 7, 13}, {"int f(double x) { return (int) x; }", 0, 0}, {"int f() { return 1.5; }", 10, 14}, {"int a = b;", 8, 13}, {"int a = a;", 0, 0}, {"int putw;", 0, 13},
		{"int a[2] = {1, 2, 3};", 18, 1}, {"static int f();", 7, 13}, {"int f(int x) { int x; }", 15, 13}, {"int f() { int x = x; }", 18, 13}, {"int f() { if (1) int x; x = 1; }", 24, 13},
		{"int f() { break; }", 10, 14}, {"int f() { while (1) { if (1) break; } }", 0, 0}, {"int *p; int f() { return 0 == p && p != 0; }", 0, 0}, {"int *p; int f() { return &p == 0; }", 25, 14}, {"int f(int x, int x);", 13, 13},
		{"int f() { putw(putw(1)); }", 10, 14}, {"int a[2]; int f() { a = 0; }", 20, 14}, {"int main(int x);", 0, 14}, {"int f(void x);", 6, 14}, {"extern int a = 1;", 7, 14},
	} {
		m, _, _ := parse.Parse(c.s)
		if _, at, e, why := model(m); at != c.at || e != c.e {
			t.Errorf("the model says of %s error %d at %d (%s), want %d at %d", helps.Short(c.s), e, at, why, c.e, c.at)
		}
	}
}
