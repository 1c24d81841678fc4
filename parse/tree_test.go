package parse_test

import (
	"math"

	"solder/api"
)

// What trees are made of.

func num(n uint32, at int) api.Expr {
	return api.Expr{Kind: 1, Num: n, At: at}
}

func double(x float64, at int) api.Expr {
	return api.Expr{Kind: 2, Bits: math.Float64bits(x), At: at}
}

func name(s string, at int) api.Expr {
	return api.Expr{Kind: 3, Name: s, At: at}
}

func unary(op string, at int, x api.Expr) api.Expr {
	return api.Expr{Kind: 4, Op: op, Kids: []api.Expr{x}, At: at}
}

func binary(op string, left, right api.Expr) api.Expr {
	return api.Expr{Kind: 5, Op: op, Kids: []api.Expr{left, right}, At: left.At}
}

func assign(left, right api.Expr) api.Expr {
	return api.Expr{Kind: 6, Kids: []api.Expr{left, right}, At: left.At}
}

func call(s string, at int, args ...api.Expr) api.Expr {
	return api.Expr{Kind: 7, Name: s, Kids: args, At: at}
}

func index(left, right api.Expr) api.Expr {
	return api.Expr{Kind: 8, Kids: []api.Expr{left, right}, At: left.At}
}

func cast(to uint32, at int, x api.Expr) api.Expr {
	return api.Expr{Kind: 9, Num: to, Kids: []api.Expr{x}, At: at}
}

func block(at int, kids ...api.Stmt) api.Stmt {
	return api.Stmt{Kind: 1, Kids: kids, At: at}
}

func choice(at int, x api.Expr, kids ...api.Stmt) api.Stmt {
	return api.Stmt{Kind: 2, Exprs: []api.Expr{x}, Kids: kids, At: at}
}

func loop(at int, x api.Expr, kid api.Stmt) api.Stmt {
	return api.Stmt{Kind: 3, Exprs: []api.Expr{x}, Kids: []api.Stmt{kid}, At: at}
}

func back(at int, xs ...api.Expr) api.Stmt {
	return api.Stmt{Kind: 4, Exprs: xs, At: at}
}

func leave(at int) api.Stmt {
	return api.Stmt{Kind: 5, At: at}
}

func again(at int) api.Stmt {
	return api.Stmt{Kind: 6, At: at}
}

func alone(at int, xs ...api.Expr) api.Stmt {
	return api.Stmt{Kind: 7, Exprs: xs, At: at}
}

func local(at, typed int, s string, length int, xs ...api.Expr) api.Stmt {
	return api.Stmt{Kind: 8, Name: s, Type: typed, Len: length, Exprs: xs, At: at}
}

// by moves a place so many bytes further on.
func by(n int) func(int) int {
	return func(at int) int { return at + n }
}

// movedExprs are expressions whose At are others, by where they were.
func movedExprs(l []api.Expr, to func(int) int) (all []api.Expr) {
	for _, x := range l {
		x.At, x.Kids = to(x.At), movedExprs(x.Kids, to)
		all = append(all, x)
	}
	return all
}

// movedExpr is an expression so many bytes further on.
func movedExpr(x api.Expr, n int) api.Expr {
	return movedExprs([]api.Expr{x}, by(n))[0]
}

func movedStmts(l []api.Stmt, to func(int) int) (all []api.Stmt) {
	for _, s := range l {
		s.At, s.Exprs, s.Kids = to(s.At), movedExprs(s.Exprs, to), movedStmts(s.Kids, to)
		all = append(all, s)
	}
	return all
}

func movedParams(l []api.Param, to func(int) int) (all []api.Param) {
	for _, p := range l {
		p.At = to(p.At)
		all = append(all, p)
	}
	return all
}

func moved(m api.Module, to func(int) int) api.Module {
	var all []api.Decl
	for _, d := range m.Decls {
		d.At, d.Inits, d.Params = to(d.At), movedExprs(d.Inits, to), movedParams(d.Params, to)
		// A body that isn't there has no place.
		if d.Func && d.Has {
			d.Body = movedStmts([]api.Stmt{d.Body}, to)[0]
		}
		all = append(all, d)
	}
	return api.Module{Decls: all}
}

// placeless is a module all of whose At are 0.
func placeless(m api.Module) api.Module {
	return moved(m, func(int) int { return 0 })
}
