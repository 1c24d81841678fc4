package check_test

import (
	"math"
	"strconv"
	"strings"

	"solder/api"
)

// A sketch of a module tells each expression by what it is, a point, its type and, in brackets, its Kids.

func typeName(typed int) string {
	switch typed {
	case api.Void:
		return "void"
	case api.Int:
		return "int"
	case api.Real:
		return "double"
	case api.PInt:
		return "int*"
	case api.PReal:
		return "double*"
	}
	return "no type " + strconv.Itoa(typed)
}

func sketch(m api.Module) string {
	var all []string
	for _, d := range m.Decls {
		all = append(all, sketchDecl(d))
	}
	return strings.Join(all, " ")
}

func sketchDecl(d api.Decl) string {
	s := typeName(d.Type) + " " + d.Name + sketchLen(d.Len)
	if d.Static {
		s = "static " + s
	}
	if d.Extern {
		s = "extern " + s
	}
	if d.Func {
		var all []string
		for _, p := range d.Params {
			all = append(all, typeName(p.Type)+" "+p.Name)
		}
		s += "(" + strings.Join(all, ", ") + ")"
	}
	switch {
	case d.Func && d.Has:
		return s + " " + sketchStmt(d.Body)
	case d.Has && d.Len > 0:
		return s + " = {" + sketchExprs(d.Inits) + "};"
	case d.Has:
		return s + " = " + sketchExprs(d.Inits) + ";"
	}
	return s + ";"
}

func sketchLen(n int) string {
	if n == 0 {
		return ""
	}
	return "[" + strconv.Itoa(n) + "]"
}

func sketchStmt(s api.Stmt) string {
	x := sketchExprs(s.Exprs)
	switch s.Kind {
	case api.SBlock:
		return "{" + sketchStmts(s.Kids, " ") + "}"
	case api.SIf:
		return "if (" + x + ") " + sketchStmts(s.Kids, " else ")
	case api.SWhile:
		return "while (" + x + ") " + sketchStmts(s.Kids, " ")
	case api.SReturn:
		return strings.TrimSpace("return "+x) + ";"
	case api.SBreak:
		return "break;"
	case api.SContinue:
		return "continue;"
	case api.SExpr:
		return x + ";"
	case api.SLocal:
		l := typeName(s.Type) + " " + s.Name + sketchLen(s.Len)
		if len(s.Exprs) > 0 {
			l += " = " + x
		}
		return l + ";"
	}
	return "no statement " + strconv.Itoa(s.Kind)
}

func sketchStmts(l []api.Stmt, between string) string {
	var all []string
	for _, s := range l {
		all = append(all, sketchStmt(s))
	}
	return strings.Join(all, between)
}

func sketchExprs(l []api.Expr) string {
	var all []string
	for _, x := range l {
		all = append(all, sketchExpr(x))
	}
	return strings.Join(all, ", ")
}

func sketchExpr(x api.Expr) string {
	s := x.Op + x.Name
	switch x.Kind {
	case api.ENum:
		s = strconv.Itoa(int(x.Num))
	case api.EReal:
		s = strconv.FormatFloat(math.Float64frombits(x.Bits), 'g', -1, 64)
	case api.EName:
		s += strings.Repeat("[]", int(x.Num))
	case api.EAssign:
		s = "="
	case api.EIndex:
		s = "[]"
	case api.ECast:
		s = "(" + typeName(int(x.Num)) + ")"
	}
	s += "." + typeName(x.Type)
	if len(x.Kids) > 0 || x.Kind == api.ECall {
		s += "(" + sketchExprs(x.Kids) + ")"
	}
	return s
}
