package parse

import "solder/api"

// block reads one; that it is a statement, too, and deeper than another one, is left to stmt.
func (p *parser) block() api.Stmt {
	s := api.Stmt{Kind: api.SBlock, At: p.next().At}
	p.want("{")
	for !p.takes("}") {
		s.Kids = append(s.Kids, p.stmt())
	}
	return s
}

func (p *parser) stmt() api.Stmt {
	defer p.deeper()()
	at := p.next().At
	switch {
	case p.sees("{"):
		return p.block()
	case p.sees("int", "double", "void"):
		return p.local()
	case p.takes("if"):
		s := p.guarded(api.SIf, at)
		if p.takes("else") {
			s.Kids = append(s.Kids, p.stmt())
		}
		return s
	case p.takes("while"):
		return p.guarded(api.SWhile, at)
	case p.takes("return"):
		return p.simple(api.SReturn, at)
	case p.takes("break"):
		p.want(";")
		return api.Stmt{Kind: api.SBreak, At: at}
	case p.takes("continue"):
		p.want(";")
		return api.Stmt{Kind: api.SContinue, At: at}
	}
	return p.simple(api.SExpr, at)
}

// guarded reads a condition, and the statement behind it.
func (p *parser) guarded(kind, at int) api.Stmt {
	p.want("(")
	condition := p.expr()
	p.want(")")
	return api.Stmt{Kind: kind, Exprs: []api.Expr{condition}, Kids: []api.Stmt{p.stmt()}, At: at}
}

// simple reads a statement's one expression, or none.
func (p *parser) simple(kind, at int) api.Stmt {
	s := api.Stmt{Kind: kind, At: at}
	if !p.sees(";") {
		s.Exprs = []api.Expr{p.expr()}
	}
	p.want(";")
	return s
}

// local reads a declaration within a function.
func (p *parser) local() api.Stmt {
	s := api.Stmt{Kind: api.SLocal, At: p.next().At}
	s.Type = p.typed()
	s.Name = p.name()
	if p.takes("[") {
		s.Len = p.length()
	}
	if p.takes("=") {
		s.Exprs = []api.Expr{p.expr()}
	}
	p.want(";")
	return s
}
