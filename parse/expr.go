package parse

import (
	"solder/api"
	"solder/real"
)

func (p *parser) expr() api.Expr {
	defer p.deeper()()
	left := p.binary(0)
	if p.takes("=") {
		return pair(api.EAssign, "", left, p.expr())
	}
	return left
}

// binary reads operands with operators of a strength between, or of stronger ones.
func (p *parser) binary(strength int) api.Expr {
	if strength == len(p.levels) {
		return p.unary()
	}
	left := p.binary(strength + 1)
	for p.sees(p.levels[strength]...) {
		op := p.read().Text
		left = pair(api.EBinary, op, left, p.binary(strength+1))
	}
	return left
}

func (p *parser) unary() api.Expr {
	defer p.deeper()()
	at := p.next().At
	switch {
	case p.sees("-", "!", "~", "*", "&"):
		op := p.read().Text
		return api.Expr{Kind: api.EUnary, Op: op, Kids: []api.Expr{p.unary()}, At: at}
	case p.sees("(") && p.behind().Kind == api.TWord:
		p.read()
		to := p.typed()
		p.want(")")
		return api.Expr{Kind: api.ECast, Num: uint32(to), Kids: []api.Expr{p.unary()}, At: at}
	}
	return p.post()
}

// post reads an atom, and its indices.
func (p *parser) post() api.Expr {
	x := p.atom()
	for p.takes("[") {
		x = pair(api.EIndex, "", x, p.expr())
		p.want("]")
	}
	return x
}

func (p *parser) atom() api.Expr {
	at := p.next().At
	switch p.next().Kind {
	case api.TInt:
		return api.Expr{Kind: api.ENum, Num: number(p.read().Text), At: at}
	case api.TReal:
		// No error can come: it would have been Lex's.
		bits, _ := real.Parse(p.read().Text)
		return api.Expr{Kind: api.EReal, Bits: bits, At: at}
	case api.TName:
		name := p.read().Text
		if p.takes("(") {
			return api.Expr{Kind: api.ECall, Name: name, Kids: p.args(), At: at}
		}
		return api.Expr{Kind: api.EName, Name: name, At: at}
	}
	p.want("(")
	x := p.expr()
	p.want(")")
	return x
}

// args reads a call's arguments, and the bracket behind them.
func (p *parser) args() []api.Expr {
	if p.takes(")") {
		return nil
	}
	return list(p, p.expr, api.MaxArgs, ")")
}

// pair is what has two operands; it begins where the left one does.
func pair(kind int, op string, left, right api.Expr) api.Expr {
	return api.Expr{Kind: kind, Op: op, Kids: []api.Expr{left, right}, At: left.At}
}
