package parse

import (
	"slices"

	"solder/api"
)

// parser reads tokens from the front. The end is never read: so there is always a next one.
type parser struct {
	tokens []api.Token // those that aren't read yet
	levels [][]string
	deep   int // how many statements, expressions and unaries the next token stands in
}

func (p *parser) next() api.Token {
	return p.tokens[0]
}

// behind is the token behind the next one, which isn't the end.
func (p *parser) behind() api.Token {
	return p.tokens[1]
}

func (p *parser) read() api.Token {
	t := p.next()
	p.tokens = p.tokens[1:]
	return t
}

// sees tells whether the next token is one of some signs or reserved words: no other token has a Text of theirs.
func (p *parser) sees(signs ...string) bool {
	return slices.Contains(signs, p.next().Text)
}

// takes reads the next token, if it is one of some signs, and tells whether it was.
func (p *parser) takes(signs ...string) bool {
	seen := p.sees(signs...)
	if seen {
		p.read()
	}
	return seen
}

// want reads the next token, which must be one of some signs, and answers which one it is.
func (p *parser) want(signs ...string) string {
	p.demand(p.sees(signs...), api.ErrSyntax)
	return p.read().Text
}

func (p *parser) name() string {
	p.demand(p.next().Kind == api.TName, api.ErrSyntax)
	return p.read().Text
}

// deeper goes one deeper; what it answers goes back.
func (p *parser) deeper() func() {
	p.demand(p.deep < api.MaxDeep, api.ErrDeep)
	p.deep++
	return func() { p.deep-- }
}

// demand throws that the next token doesn't fit, if something doesn't hold.
func (p *parser) demand(holds bool, e api.Errno) {
	if !holds {
		panic(fault{p.next().At, e})
	}
}

// list reads items with a comma between, at most so many of them, and the sign that ends them.
func list[T any](p *parser, item func() T, most int, ends string) []T {
	all := []T{item()}
	for p.want(",", ends) == "," {
		p.demand(len(all) < most, api.ErrFull)
		all = append(all, item())
	}
	return all
}
