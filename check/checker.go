package check

import (
	"slices"
	"strconv"

	"solder/api"
)

// scope leads names to what they mean; a param's or a local's means a variable, which is called as it is at last.
type scope map[string]api.Decl

// The outermost scopes: what is known from the beginning, and what is told at the top.
const (
	given = 0
	atTop = 1
)

// checker goes through a module in the order of its text.
type checker struct {
	scopes  []scope // the innermost is the last
	answers int     // what the function answers that is gone through
	loops   int     // how many SWhiles are around what comes next
	locals  int     // how many params and locals the function has had
	left    int     // how many parts may still come: each part of a module that was parsed has a token of its own
}

func newChecker() *checker {
	beginning := scope{
		"putw": {Func: true, Name: "putw", Type: api.Void, Params: []api.Param{{Type: api.Int}}},
		"putd": {Func: true, Name: "putd", Type: api.Void, Params: []api.Param{{Type: api.Real}}},
		"getw": {Func: true, Name: "getw", Type: api.Int},
	}
	return &checker{scopes: []scope{given: beginning, atTop: {}}, left: api.MaxTokens}
}

// part counts one more declaration, param, statement or expression. Of a module that wasn't parsed nothing is promised,
// but that the call ends: its lists may lack something, or hold themselves.
func (c *checker) part(formed bool, at int) {
	demand(formed && c.left > 0, at, api.ErrType)
	c.left--
}

// open begins a block; what it answers ends it.
func (c *checker) open() func() {
	outer := c.scopes
	c.scopes = append(c.scopes, scope{})
	return func() { c.scopes = outer }
}

// loop begins an SWhile; what it answers ends it.
func (c *checker) loop() func() {
	c.loops++
	return func() { c.loops-- }
}

// block is the innermost one.
func (c *checker) block() scope {
	return c.scopes[len(c.scopes)-1]
}

// has tells whether the innermost block has a param or a local of this name.
func (c *checker) has(name string) bool {
	_, told := c.block()[name]
	return told
}

// tell makes a param or a local known in the innermost block, and answers what it is called from then on.
func (c *checker) tell(name string, typed, length int) string {
	called := "$" + strconv.Itoa(c.locals)
	c.locals++
	c.block()[name] = api.Decl{Name: called, Type: typed, Len: length}
	return called
}

// meant is what an EName's or an ECall's name means: a function, or none.
func (c *checker) meant(x *api.Expr, function bool) api.Decl {
	for _, names := range slices.Backward(c.scopes) {
		if d, known := names[x.Name]; known {
			demand(d.Func == function, x.At, api.ErrName)
			return d
		}
	}
	panic(fault{x.At, api.ErrName})
}
