package check

import (
	"strings"

	"solder/api"
	"solder/trees"
)

func (c *checker) module(m api.Module) api.Module {
	var all []api.Decl
	for _, d := range m.Decls {
		all = append(all, c.decl(d))
	}
	for _, d := range all {
		told := c.scopes[atTop][d.Name]
		demand(!told.Func || !told.Static || trees.Defines(told), d.At, api.ErrName)
	}
	return api.Module{Decls: all}
}

func (c *checker) decl(d api.Decl) api.Decl {
	c.part(true, d.At)
	c.declare(d)
	defer c.open()()
	c.answers, c.locals = d.Type, 0
	d.Name = strings.Clone(d.Name)
	d.Params = c.params(d.Params)
	d.Inits = c.inits(d)
	// Its params' block is the body's, which begins no other one.
	d.Body.Exprs, d.Body.Kids = nil, c.stmts(d.Body.Kids)
	return d
}

// declare makes a Decl's name known at the top.
func (c *checker) declare(d api.Decl) {
	_, known := c.scopes[given][d.Name]
	demand(!known, d.At, api.ErrName)
	// Those ahead of it agree: so one of them will do, the definition if there is one.
	ahead, told := c.scopes[atTop][d.Name]
	if told {
		demand(ahead.Func == d.Func && !(trees.Defines(ahead) && trees.Defines(d)), d.At, api.ErrName)
		demand(trees.Agree(ahead, d), d.At, api.ErrType)
	}
	demand(isRight(d), d.At, api.ErrType)
	if !told || trees.Defines(d) {
		c.scopes[atTop][d.Name] = d
	}
}

// isRight tells whether a Decl is right, but for its Params, Inits and Body, which have places of their own.
func isRight(d api.Decl) bool {
	switch {
	case d.Name == "main" && !isMain(d):
		return false
	case d.Func:
		return true
	case d.Extern && len(d.Inits) > 0:
		return false
	}
	return isVariable(d.Type, d.Len)
}

func isMain(d api.Decl) bool {
	return d.Func && !d.Static && len(d.Params) == 0 && d.Type == api.Int
}

// isVariable tells whether a variable may have a type and a Len.
func isVariable(typed, length int) bool {
	if length != 0 {
		return trees.IsNumber(typed)
	}
	return typed != api.Void
}

func (c *checker) params(l []api.Param) []api.Param {
	var all []api.Param
	for _, p := range l {
		c.part(true, p.At)
		demand(p.Type != api.Void, p.At, api.ErrType)
		demand(!c.has(p.Name), p.At, api.ErrName)
		p.Name = c.tell(p.Name, p.Type, 0)
		all = append(all, p)
	}
	return all
}

func (c *checker) inits(d api.Decl) []api.Expr {
	var all []api.Expr
	for n, x := range d.Inits {
		x = c.expr(x)
		demand(fits(&x, d.Type), x.At, api.ErrType)
		demand(n < max(1, d.Len), x.At, api.ErrRange)
		all = append(all, x)
	}
	return all
}
