package check

import "solder/api"

func (c *checker) stmts(l []api.Stmt) []api.Stmt {
	var all []api.Stmt
	for _, s := range l {
		all = append(all, c.stmt(s))
	}
	return all
}

func (c *checker) stmt(s api.Stmt) api.Stmt {
	c.part(isStmt(s), s.At)
	demand(s.Kind != api.SLocal || !c.has(s.Name), s.At, api.ErrName)
	s.Exprs = c.exprs(s.Exprs)
	if s.Kind == api.SIf || s.Kind == api.SWhile {
		condition := s.Exprs[0]
		demand(condition.Type == api.Int, condition.At, api.ErrType)
	}
	s.Kids = c.kids(s)
	demand(c.fitsHere(s), s.At, api.ErrType)
	if s.Kind == api.SLocal {
		// Not ahead of this: it isn't known within its own Exprs.
		s.Name = c.tell(s.Name, s.Type, s.Len)
	}
	return s
}

// isStmt tells whether a statement has as much within it as one that was parsed.
func isStmt(s api.Stmt) bool {
	exprs, kids := len(s.Exprs), len(s.Kids)
	switch s.Kind {
	case api.SBlock:
		return exprs == 0
	case api.SIf:
		return exprs == 1 && 1 <= kids && kids <= 2
	case api.SWhile:
		return exprs == 1 && kids == 1
	case api.SReturn, api.SExpr, api.SLocal:
		return exprs <= 1 && kids == 0
	case api.SBreak, api.SContinue:
		return exprs == 0 && kids == 0
	}
	return false
}

// kids goes through the statements in s.
func (c *checker) kids(s api.Stmt) []api.Stmt {
	switch s.Kind {
	case api.SBlock:
		defer c.open()()
		return c.stmts(s.Kids)
	case api.SWhile:
		defer c.loop()()
	}
	return c.guarded(s.Kids)
}

// guarded goes through the statements of an SIf or SWhile, each a block of its own.
func (c *checker) guarded(l []api.Stmt) []api.Stmt {
	var all []api.Stmt
	for _, s := range l {
		end := c.open()
		all = append(all, c.stmt(s))
		end()
	}
	return all
}

// fitsHere tells whether a statement is right where it stands, if what stands in it is.
func (c *checker) fitsHere(s api.Stmt) bool {
	switch s.Kind {
	case api.SReturn:
		return c.isAnswer(s.Exprs)
	case api.SBreak, api.SContinue:
		return c.loops > 0
	case api.SLocal:
		return isVariable(s.Type, s.Len) && isStart(s)
	}
	return true
}

// isAnswer tells whether an SReturn may have these Exprs in its function.
func (c *checker) isAnswer(l []api.Expr) bool {
	if c.answers == api.Void {
		return len(l) == 0
	}
	return len(l) == 1 && fits(&l[0], c.answers)
}

// isStart tells whether an SLocal may have its Exprs.
func isStart(s api.Stmt) bool {
	return len(s.Exprs) == 0 || s.Len == 0 && fits(&s.Exprs[0], s.Type)
}
