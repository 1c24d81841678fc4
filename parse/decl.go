package parse

import (
	"strconv"

	"solder/api"
)

func (p *parser) module() api.Module {
	var m api.Module
	for p.next().Kind != api.TEnd {
		m.Decls = append(m.Decls, p.decl())
	}
	return m
}

func (p *parser) decl() api.Decl {
	var d api.Decl
	d.Static = p.takes("static")
	d.Extern = !d.Static && p.takes("extern")
	d.At = p.next().At
	d.Type = p.typed()
	d.Name = p.name()
	switch p.want(";", "=", "[", "(") {
	case "=":
		d.Has = true
		d.Inits = []api.Expr{p.expr()}
		p.want(";")
	case "[":
		d.Len = p.length()
		p.arrayInits(&d)
	case "(":
		d.Func = true
		d.Params = p.params()
		p.body(&d)
	}
	return d
}

// typed reads a type.
func (p *parser) typed() int {
	switch p.want("int", "double", "void") {
	case "int":
		return p.pointer(api.Int, api.PInt)
	case "double":
		return p.pointer(api.Real, api.PReal)
	}
	return api.Void
}

// pointer answers the pointer's type, if a star follows, else the other one.
func (p *parser) pointer(plain, pointer int) int {
	if p.takes("*") {
		return pointer
	}
	return plain
}

// length reads a Len, and the bracket behind it.
func (p *parser) length() int {
	p.demand(p.next().Kind == api.TInt, api.ErrSyntax)
	n := number(p.next().Text)
	p.demand(1 <= n && n <= api.MaxArray, api.ErrRange)
	p.read()
	p.want("]")
	return int(n)
}

// arrayInits reads what stands behind an array's Len.
func (p *parser) arrayInits(d *api.Decl) {
	if p.takes("=") {
		d.Has = true
		p.want("{")
		// There may be any number of them: no text has more than that.
		d.Inits = list(p, p.expr, api.MaxTokens, "}")
	}
	p.want(";")
}

// params reads a function's params, and the bracket behind them.
func (p *parser) params() []api.Param {
	if p.sees("void") && p.behind().Text == ")" {
		p.read()
	}
	if p.takes(")") {
		return nil
	}
	return list(p, p.param, api.MaxArgs, ")")
}

func (p *parser) param() api.Param {
	at := p.next().At
	t := p.typed()
	return api.Param{Name: p.name(), Type: t, At: at}
}

// body reads what stands behind a function's params.
func (p *parser) body(d *api.Decl) {
	if p.takes(";") {
		return
	}
	d.Has = true
	d.Body = p.block()
}

// number is what a TInt means.
func number(digits string) uint32 {
	// No error can come: it would have been Lex's.
	n, _ := strconv.ParseUint(digits, 10, 32)
	return uint32(n)
}
