package helps_test

import (
	"fmt"
	"strconv"
	"strings"
	"testing"

	"solder/api"
	"solder/helps"
)

// trees is a module with a list of each kind, at each place that has one.
func trees() api.Module {
	x := func() []api.Expr {
		return []api.Expr{{Kind: api.ENum}, {Kind: api.EUnary, Kids: []api.Expr{{Kind: api.EName, Name: "a"}}}}
	}
	s := []api.Stmt{{Kind: api.SIf, Exprs: x(), Kids: []api.Stmt{{Kind: api.SReturn, Exprs: x()}}}}
	return api.Module{Decls: []api.Decl{
		{Name: "a", Inits: x()},
		{Name: "f", Params: []api.Param{{Name: "p"}}, Body: api.Stmt{Kind: api.SBlock, Exprs: x(), Kids: s}},
	}}
}

func told(m api.Module) string {
	return fmt.Sprintf("%+v", m)
}

// inside are the lists of a module, each with the word for it.
func inside(m *api.Module) (decls map[string]*[]api.Decl, params map[string]*[]api.Param, stmts map[string]*[]api.Stmt, exprs map[string]*[]api.Expr) {
	v, f := &m.Decls[0], &m.Decls[1]
	s := &f.Body.Kids[0]
	decls = map[string]*[]api.Decl{"decls": &m.Decls}
	params = map[string]*[]api.Param{"params": &f.Params}
	stmts = map[string]*[]api.Stmt{"kids of a body": &f.Body.Kids, "kids of a statement": &s.Kids}
	exprs = map[string]*[]api.Expr{
		"inits": &v.Inits, "kids of an init": &v.Inits[1].Kids, "exprs of a body": &f.Body.Exprs, "exprs of a statement": &s.Exprs, "exprs of a kid": &s.Kids[0].Exprs, "kids of an expr": &s.Exprs[1].Kids,
	}
	return decls, params, stmts, exprs
}

// A module has room behind each list, which WholeModule alone tells.
func TestRoomyModule(t *testing.T) {
	m := trees()
	r := helps.RoomyModule(m)
	if told(r) != told(m) {
		t.Errorf("with room behind it is another module: %s", told(r))
	}
	if helps.Meet(m, r) {
		t.Error("a module with room behind shares memory with what it was made of")
	}
	// One behind each of the nine lists, and behind each Kids of those that have none, too.
	if n := strings.Count(told(helps.WholeModule(r)), "behind"); n < 9 {
		t.Errorf("there are %d things alone behind the lists", n)
	}
	decls, params, stmts, exprs := inside(&r)
	seen := func(what string) {
		if strings.Count(told(helps.WholeModule(r)), "At:7") != 1 || told(r) != told(m) {
			t.Errorf("%s: what changes behind the list isn't seen", what)
		}
	}
	for what, l := range decls {
		changeBehind(*l, func(d *api.Decl, at int) { d.At = at }, func() { seen(what) })
	}
	for what, l := range params {
		changeBehind(*l, func(p *api.Param, at int) { p.At = at }, func() { seen(what) })
	}
	for what, l := range stmts {
		changeBehind(*l, func(s *api.Stmt, at int) { s.At = at }, func() { seen(what) })
	}
	for what, l := range exprs {
		changeBehind(*l, func(x *api.Expr, at int) { x.At = at }, func() { seen(what) })
	}
	if w := helps.WholeModule(r); helps.Meet(w, r) {
		t.Error("a whole module shares memory with what it was made of")
	}
	if c := helps.CloneModule(r); told(c) != told(m) || helps.Meet(c, r) {
		t.Error("a clone is another module, or shares memory with what it was made of")
	}
}

// changeBehind changes what is behind a list while something is asked.
func changeBehind[E any](l []E, set func(*E, int), ask func()) {
	behind := &l[:cap(l)][len(l)]
	set(behind, 7)
	ask()
	set(behind, 0)
}

// meetBy says whether two modules are seen to meet, while they share one of some lists.
func meetBy[E any](t *testing.T, a, b api.Module, ofA, ofB map[string]*[]E) {
	for what, l := range ofA {
		// The modules themselves are no pointers: their own lists can't be shared so.
		if what == "decls" {
			continue
		}
		own := *l
		if *l = *ofB[what]; !helps.Meet(a, b) {
			t.Errorf("%s: what two modules share isn't seen", what)
		}
		*l = own
	}
	if helps.Meet(a, b) {
		t.Error("modules with memory of their own meet")
	}
}

// Each list that two modules share is seen, and each that one has twice.
func TestMeet(t *testing.T) {
	if a, b := trees(), trees(); helps.Meet(a, b) || helps.Meet(a) || helps.Meet() {
		t.Error("modules with memory of their own meet")
	}
	a, b := trees(), trees()
	decls, params, stmts, exprs := inside(&a)
	decls2, params2, stmts2, exprs2 := inside(&b)
	meetBy(t, a, b, decls, decls2)
	meetBy(t, a, b, params, params2)
	meetBy(t, a, b, stmts, stmts2)
	meetBy(t, a, b, exprs, exprs2)
	a, b = trees(), trees()
	if a.Decls = b.Decls; !helps.Meet(a, b) {
		t.Error("the whole list that two modules share isn't seen")
	}
	a = trees()
	a.Decls[0].Inits = a.Decls[1].Body.Kids[0].Exprs
	if !helps.Meet(a) {
		t.Error("a list that one module has twice isn't seen")
	}
	a = helps.RoomyModule(trees())
	a.Decls[0].Inits = a.Decls[1].Body.Kids[0].Exprs[:0]
	if !helps.Meet(a) {
		t.Error("room that two lists share isn't seen")
	}
}

func TestSpoilModule(t *testing.T) {
	m := helps.RoomyModule(trees())
	decls, params, stmts, exprs := inside(&m)
	var all []func() string
	all = append(all, spoilt(decls)...)
	all = append(all, spoilt(params)...)
	all = append(all, spoilt(stmts)...)
	all = append(all, spoilt(exprs)...)
	helps.SpoilModule(m)
	for _, still := range all {
		if s := still(); s != "" {
			t.Errorf("something isn't spoilt: %s", s)
		}
	}
}

// spoilt answers, for each list, what tells the elements of it and behind it that aren't spoilt.
func spoilt[E any](lists map[string]*[]E) (all []func() string) {
	for what, l := range lists {
		whole := (*l)[:cap(*l)]
		all = append(all, func() string {
			for _, x := range whole {
				if !strings.Contains(fmt.Sprintf("%+v", x), "spoilt") {
					return what
				}
			}
			return ""
		})
	}
	return all
}

func TestTexts(t *testing.T) {
	if s := helps.Short("a\nb"); s != `"a\nb"` {
		t.Error(s)
	}
	if s := helps.Short(strings.Repeat("a", 150) + strings.Repeat("b", 150)); s != `"`+strings.Repeat("a", 120)+`" .. "`+strings.Repeat("b", 60)+`"` {
		t.Error(s)
	}
	a := strings.Repeat("a", 100)
	if s := helps.Around(a+"b", a+"c"); s != `"`+a[:60]+`b"` {
		t.Error(s)
	}
	if s := helps.Around("ab", "abc") + helps.Around("", ""); s != `"ab"""` {
		t.Error(s)
	}
}

// All expressions and statements are walked, what stands in them first, and all names are called with.
func TestWalk(t *testing.T) {
	m := trees()
	order := ""
	helps.Walk(&m, func(x *api.Expr) {
		order += " " + strconv.Itoa(x.Kind)
		x.At = 7
	}, func(s *api.Stmt) {
		order += " s" + strconv.Itoa(s.Kind)
		s.At = 7
	})
	// Two Inits, the second with a Kid; then a statement with two such expressions, ahead of its Kid with two.
	if want := " 1 3 4 1 3 4 1 3 4 s4 s2"; order != want {
		t.Errorf("walked are%s, want%s", order, want)
	}
	if n := strings.Count(told(m), "At:7"); n != 11 {
		t.Errorf("%d parts are changed by a walk", n)
	}
	var names []string
	helps.Names(&m, func(s *string) {
		if *s != "" {
			names = append(names, *s)
		}
		*s = "new"
	})
	if got := strings.Join(names, " "); got != "a a a a f p" {
		t.Errorf("the names are %s", got)
	}
	if n := strings.Count(told(m), "new"); n != 3+9*2+2 {
		t.Errorf("%d names are changed", n)
	}
}
