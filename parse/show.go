package parse

import (
	"slices"
	"strconv"
	"strings"

	"solder/api"
)

// strange is thrown where a module has what none that was parsed can have.
type strange struct{}

// writer writes a module's text.
type writer struct {
	strings.Builder
	levels [][]string
	left   int // how many parts may still come: each part of a module that was parsed has a token of its own
}

// all writes m, or what stands ahead of what is strange. Lists may hold themselves, so the parts are counted.
func (w *writer) all(m api.Module) {
	defer func() {
		switch x := recover().(type) {
		case nil, strange:
		default:
			panic(x)
		}
	}()
	for _, d := range m.Decls {
		w.decl(d)
		w.put("\n")
	}
}

// demand throws, if what holds of all modules that were parsed doesn't hold.
func (w *writer) demand(holds bool) {
	if !holds {
		panic(strange{})
	}
}

// part counts one more declaration, param, statement or expression.
func (w *writer) part() {
	w.demand(w.left > 0)
	w.left--
}

// put writes pieces, none of which is longer than a name.
func (w *writer) put(pieces ...string) {
	for _, s := range pieces {
		w.demand(len(s) <= api.MaxName)
		w.WriteString(s)
	}
}

// comma writes what stands ahead of a list's item n.
func (w *writer) comma(n int) {
	if n > 0 {
		w.put(", ")
	}
}

// line begins another line.
func (w *writer) line(deep int) {
	w.WriteString("\n" + strings.Repeat("\t", deep))
}

func (w *writer) decl(d api.Decl) {
	w.part()
	if d.Static {
		w.put("static ")
	}
	if d.Extern {
		w.put("extern ")
	}
	w.named(d.Type, d.Name)
	if d.Func {
		w.function(d)
	} else {
		w.variable(d)
	}
}

// named writes a type and a name.
func (w *writer) named(typed int, name string) {
	s := typeText(typed)
	w.put(s)
	if !strings.HasSuffix(s, "*") {
		w.put(" ")
	}
	w.put(name)
}

func (w *writer) length(n int) {
	if n != 0 {
		w.put("[", strconv.Itoa(n), "]")
	}
}

// variable writes what stands behind a variable's name.
func (w *writer) variable(d api.Decl) {
	w.length(d.Len)
	switch {
	case d.Has && d.Len != 0:
		w.put(" = {")
		w.exprs(d.Inits)
		w.put("}")
	case d.Has:
		w.put(" = ")
		w.exprs(d.Inits)
	}
	w.put(";")
}

// function writes what stands behind a function's name.
func (w *writer) function(d api.Decl) {
	w.put("(")
	for n, p := range d.Params {
		w.comma(n)
		w.part()
		w.named(p.Type, p.Name)
	}
	w.put(")")
	if !d.Has {
		w.put(";")
		return
	}
	w.put(" ")
	w.stmt(d.Body, 0)
}

// stmt writes a statement whose first line has begun.
func (w *writer) stmt(s api.Stmt, deep int) {
	w.part()
	switch s.Kind {
	case api.SBlock:
		w.block(s.Kids, deep)
	case api.SIf:
		w.put("if ")
		w.guarded(s, deep)
	case api.SWhile:
		w.put("while ")
		w.guarded(s, deep)
	case api.SReturn:
		w.put("return")
		if len(s.Exprs) > 0 {
			w.put(" ")
		}
		w.exprs(s.Exprs)
		w.put(";")
	case api.SBreak:
		w.put("break;")
	case api.SContinue:
		w.put("continue;")
	case api.SExpr:
		w.exprs(s.Exprs)
		w.put(";")
	case api.SLocal:
		w.local(s)
	}
}

func (w *writer) block(kids []api.Stmt, deep int) {
	w.put("{")
	for _, s := range kids {
		w.line(deep + 1)
		w.stmt(s, deep+1)
	}
	w.line(deep)
	w.put("}")
}

// guarded writes a condition, and the statements behind it.
func (w *writer) guarded(s api.Stmt, deep int) {
	w.put("(")
	w.exprs(s.Exprs)
	w.put(")")
	for n, kid := range s.Kids {
		if n == 0 {
			w.inner(kid, deep, api.SBlock)
			continue
		}
		w.line(deep)
		w.put("else")
		w.inner(kid, deep, api.SBlock, api.SIf)
	}
}

// inner writes a statement within another one: on the same line, if it is of some kinds.
func (w *writer) inner(s api.Stmt, deep int, here ...int) {
	if slices.Contains(here, s.Kind) {
		w.put(" ")
		w.stmt(s, deep)
		return
	}
	w.line(deep + 1)
	w.stmt(s, deep+1)
}

func (w *writer) local(s api.Stmt) {
	w.named(s.Type, s.Name)
	w.length(s.Len)
	if len(s.Exprs) > 0 {
		w.put(" = ")
		w.exprs(s.Exprs)
	}
	w.put(";")
}

func typeText(typed int) string {
	switch typed {
	case api.Void:
		return "void"
	case api.Int:
		return "int"
	case api.Real:
		return "double"
	case api.PInt:
		return "int *"
	case api.PReal:
		return "double *"
	}
	return ""
}
