package helps

import "solder/api"

// Any makes trees of parts that need not fit each other. Pick answers one of so many numbers, from 0 on.
type Any struct {
	Pick       func(int) int
	Names, Ops []string
}

// Expr is an expression with so many levels within, or less.
func (a Any) Expr(deep int) api.Expr {
	x := api.Expr{Kind: a.Pick(api.ECast + 1), Op: a.Ops[a.Pick(len(a.Ops))], Name: a.Names[a.Pick(len(a.Names))], Num: uint32(a.Pick(3))}
	for range a.Pick(4) {
		if deep > 0 {
			x.Kids = append(x.Kids, a.Expr(deep-1))
		}
	}
	return x
}

// Stmt is a statement with so many levels within, or less.
func (a Any) Stmt(deep int) api.Stmt {
	s := api.Stmt{Kind: a.Pick(api.SLocal + 1), Name: a.Names[a.Pick(len(a.Names))], Type: a.Pick(api.PReal + 2), Len: a.Pick(3)}
	for range a.Pick(3) {
		if deep > 0 {
			s.Kids = append(s.Kids, a.Stmt(deep-1))
		}
		s.Exprs = append(s.Exprs, a.Expr(deep))
	}
	return s
}
