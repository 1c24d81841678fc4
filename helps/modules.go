package helps

import (
	"slices"

	"solder/api"
)

// lists has, for each kind of list of a module, what is done with one.
type lists struct {
	decls  func([]api.Decl)
	params func([]api.Param)
	stmts  func([]api.Stmt)
	exprs  func([]api.Expr)
}

// each goes through all lists of a module, the inner ones first.
func (l lists) each(m api.Module) {
	for _, d := range m.Decls {
		l.params(d.Params)
		l.inExprs(d.Inits)
		l.inExprs(d.Body.Exprs)
		l.inStmts(d.Body.Kids)
	}
	l.decls(m.Decls)
}

func (l lists) inExprs(all []api.Expr) {
	for _, x := range all {
		l.inExprs(x.Kids)
	}
	l.exprs(all)
}

func (l lists) inStmts(all []api.Stmt) {
	for _, s := range all {
		l.inExprs(s.Exprs)
		l.inStmts(s.Kids)
	}
	l.stmts(all)
}

// SpoilModule makes all that a module has something else, and the room behind it.
func SpoilModule(m api.Module) {
	lists{
		decls:  func(l []api.Decl) { Fill(l[:cap(l)], api.Decl{Name: "spoilt", Type: 9, At: -1}) },
		params: func(l []api.Param) { Fill(l[:cap(l)], api.Param{Name: "spoilt", Type: 9, At: -1}) },
		stmts:  func(l []api.Stmt) { Fill(l[:cap(l)], api.Stmt{Kind: 99, Name: "spoilt", At: -1}) },
		exprs:  func(l []api.Expr) { Fill(l[:cap(l)], api.Expr{Kind: 99, Name: "spoilt", At: -1}) },
	}.each(m)
}

// Meet tells whether two lists of some modules, of one or of several, share memory, or the room behind it.
func Meet(mods ...api.Module) bool {
	meet := false
	all := lists{
		decls:  apart[api.Decl](&meet),
		params: apart[api.Param](&meet),
		stmts:  apart[api.Stmt](&meet),
		exprs:  apart[api.Expr](&meet),
	}
	for _, m := range mods {
		all.each(m)
	}
	return meet
}

// apart answers what tells whether a list shares memory with another one that it was called with.
func apart[E any](meet *bool) func([]E) {
	seen := map[*E]struct{}{}
	return func(l []E) {
		whole := l[:cap(l)]
		for n := range whole {
			if _, twice := seen[&whole[n]]; twice {
				*meet = true
			}
			seen[&whole[n]] = struct{}{}
		}
	}
}

// RoomyModule is m in lists of its own that have room behind them, with something in it.
func RoomyModule(m api.Module) api.Module {
	r := remaker{
		decls:  func(l []api.Decl) []api.Decl { return roomy(l, api.Decl{Name: "behind"}) },
		params: func(l []api.Param) []api.Param { return roomy(l, api.Param{Name: "behind"}) },
		stmts:  func(l []api.Stmt) []api.Stmt { return roomy(l, api.Stmt{Name: "behind"}) },
		exprs:  func(l []api.Expr) []api.Expr { return roomy(l, api.Expr{Name: "behind"}) },
	}
	return r.module(m)
}

// CloneModule is m in lists of its own.
func CloneModule(m api.Module) api.Module {
	return remaker{slices.Clone[[]api.Decl], slices.Clone[[]api.Param], slices.Clone[[]api.Stmt], slices.Clone[[]api.Expr]}.module(m)
}

// WholeModule is m, and the room behind its lists told as if it belonged to them.
func WholeModule(m api.Module) api.Module {
	return remaker{decls: whole[api.Decl], params: whole[api.Param], stmts: whole[api.Stmt], exprs: whole[api.Expr]}.module(m)
}

func whole[E any](l []E) []E {
	return slices.Clone(l[:cap(l)])
}

func roomy[E any](l []E, behind E) []E {
	all := make([]E, 0, len(l)+2)
	all = append(all, l...)
	return append(all, behind)[:len(l)]
}

// remaker makes a module again; its functions make each list another one, in memory of its own.
type remaker struct {
	decls  func([]api.Decl) []api.Decl
	params func([]api.Param) []api.Param
	stmts  func([]api.Stmt) []api.Stmt
	exprs  func([]api.Expr) []api.Expr
}

func (r remaker) module(m api.Module) api.Module {
	all := r.decls(m.Decls)
	for n := range all {
		d := &all[n]
		d.Params = r.params(d.Params)
		d.Inits = r.inExprs(d.Inits)
		d.Body.Exprs, d.Body.Kids = r.inExprs(d.Body.Exprs), r.inStmts(d.Body.Kids)
	}
	return api.Module{Decls: all}
}

func (r remaker) inExprs(l []api.Expr) []api.Expr {
	all := r.exprs(l)
	for n := range all {
		all[n].Kids = r.inExprs(all[n].Kids)
	}
	return all
}

func (r remaker) inStmts(l []api.Stmt) []api.Stmt {
	all := r.stmts(l)
	for n := range all {
		all[n].Exprs, all[n].Kids = r.inExprs(all[n].Exprs), r.inStmts(all[n].Kids)
	}
	return all
}

// Walk calls with all expressions and statements of a module, but for the functions' own blocks.
func Walk(m *api.Module, expr func(*api.Expr), stmt func(*api.Stmt)) {
	for n := range m.Decls {
		walkExprs(m.Decls[n].Inits, expr)
		walkStmts(m.Decls[n].Body.Kids, expr, stmt)
	}
}

func walkExprs(l []api.Expr, expr func(*api.Expr)) {
	for n := range l {
		walkExprs(l[n].Kids, expr)
		expr(&l[n])
	}
}

func walkStmts(l []api.Stmt, expr func(*api.Expr), stmt func(*api.Stmt)) {
	for n := range l {
		walkExprs(l[n].Exprs, expr)
		walkStmts(l[n].Kids, expr, stmt)
		stmt(&l[n])
	}
}

// Names calls with all names and operators of a module, but for those in the functions' own blocks.
func Names(m *api.Module, with func(*string)) {
	Walk(m, func(x *api.Expr) { with(&x.Op); with(&x.Name) }, func(s *api.Stmt) { with(&s.Name) })
	for n := range m.Decls {
		d := &m.Decls[n]
		with(&d.Name)
		for k := range d.Params {
			with(&d.Params[k].Name)
		}
	}
}
