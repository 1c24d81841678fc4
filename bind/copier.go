package bind

import (
	"strings"

	"solder/api"
)

// copier goes through trees, and makes them again in memory of their own.
type copier struct {
	called func(string) string // what the name of an EName or an ECall is called from then on
	left   int                 // how many parts may still come; below 0, if more than that came
}

func newCopier(called func(string) string) *copier {
	// Each part of a module that was parsed has a token of its own; a program has as many modules as may be.
	return &copier{called, api.MaxModules * api.MaxTokens}
}

// copied is a list of which each element is made again. Of trees that weren't parsed nothing is promised, but that the
// call ends: they may hold themselves, so they end where too much has come.
func copied[E any](c *copier, l []E, again func(E) E) []E {
	var all []E
	for _, x := range l {
		c.left--
		if c.left < 0 {
			break
		}
		all = append(all, again(x))
	}
	return all
}

func (c *copier) decl(d api.Decl) api.Decl {
	d.Name = strings.Clone(d.Name)
	d.Inits = copied(c, d.Inits, c.expr)
	d.Params = copied(c, d.Params, c.param)
	d.Body = c.stmt(d.Body)
	return d
}

func (c *copier) param(p api.Param) api.Param {
	p.Name = strings.Clone(p.Name)
	return p
}

func (c *copier) stmt(s api.Stmt) api.Stmt {
	s.Name = strings.Clone(s.Name)
	s.Exprs = copied(c, s.Exprs, c.expr)
	s.Kids = copied(c, s.Kids, c.stmt)
	return s
}

func (c *copier) expr(x api.Expr) api.Expr {
	x.Op, x.Name = strings.Clone(x.Op), strings.Clone(x.Name)
	x.Kids = copied(c, x.Kids, c.expr)
	if x.Kind == api.EName || x.Kind == api.ECall {
		x.Name = c.called(x.Name)
	}
	return x
}
