package check

import (
	"strings"

	"solder/api"
	"solder/trees"
)

func (c *checker) exprs(l []api.Expr) []api.Expr {
	var all []api.Expr
	for _, x := range l {
		all = append(all, c.expr(x))
	}
	return all
}

func (c *checker) expr(x api.Expr) api.Expr {
	c.part(trees.IsExpr(x), x.At)
	x.Op = strings.Clone(x.Op)
	x.Kids = c.exprs(x.Kids)
	typed, right := c.typed(&x)
	demand(right, x.At, api.ErrType)
	x.Type = typed
	return x
}

// typed is the type of an expression whose Kids have theirs, and whether they may have these; noughts among them become
// pointers.
func (c *checker) typed(x *api.Expr) (int, bool) {
	switch x.Kind {
	case api.ENum:
		return api.Int, true
	case api.EReal:
		return api.Real, true
	case api.EName:
		return c.variable(x), true
	case api.EUnary:
		return unary(x.Op, x.Kids[0])
	case api.EBinary:
		return binary(x.Op, &x.Kids[0], &x.Kids[1])
	case api.EAssign:
		left := x.Kids[0]
		return left.Type, isLvalue(left) && fits(&x.Kids[1], left.Type)
	case api.ECall:
		return c.call(x)
	case api.EIndex:
		return trees.Pointed(x.Kids[0].Type), trees.IsPointer(x.Kids[0].Type) && x.Kids[1].Type == api.Int
	}
	to := int(x.Num)
	return to, trees.IsNumber(to) && trees.IsNumber(x.Kids[0].Type)
}

// variable is the type of an EName.
func (c *checker) variable(x *api.Expr) int {
	d := c.meant(x, false)
	x.Name = strings.Clone(d.Name)
	if d.Len == 0 {
		return d.Type
	}
	x.Num = 1
	return trees.PointerTo(d.Type)
}

// call is the type of an ECall, and whether it has the arguments that it must have.
func (c *checker) call(x *api.Expr) (int, bool) {
	d := c.meant(x, true)
	x.Name = strings.Clone(d.Name)
	if len(x.Kids) != len(d.Params) {
		return d.Type, false
	}
	for n, p := range d.Params {
		if !fits(&x.Kids[n], p.Type) {
			return d.Type, false
		}
	}
	return d.Type, true
}
