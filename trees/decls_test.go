package trees_test

import (
	"testing"

	"solder/api"
	"solder/trees"
)

func TestDefines(t *testing.T) {
	for bits := range 16 {
		d := api.Decl{Func: bits&1 > 0, Extern: bits&2 > 0, Has: bits&4 > 0, Static: bits&8 > 0, Type: api.Int}
		want := d.Func && d.Has || !d.Func && !d.Extern
		if got := trees.Defines(d); got != want {
			t.Errorf("P12.1: Defines(%+v) = %t", d, got)
		}
	}
}

// Decls agree, if they do in Func, Type, Len, Static and their Params' Types, whatever else is another.
func TestAgree(t *testing.T) {
	some := func() api.Decl {
		return api.Decl{Name: "a", Type: api.Int, Params: []api.Param{{Name: "b", Type: api.Int, At: 3}, {Name: "c", Type: api.PReal, At: 5}}, At: 2}
	}
	asked := func(what string, b api.Decl, want bool) {
		if trees.Agree(some(), b) != want || trees.Agree(b, some()) != want || !trees.Agree(b, b) {
			t.Errorf("P12.1: with another %s: Agree isn't %t", what, want)
		}
	}
	asked("one that is the same", some(), true)
	for what, change := range map[string]func(*api.Decl){
		"Func": func(d *api.Decl) { d.Func = true }, "Type": func(d *api.Decl) { d.Type = api.Real }, "Type, a pointer's": func(d *api.Decl) { d.Type = api.PInt },
		"Len": func(d *api.Decl) { d.Len = 1 }, "Static": func(d *api.Decl) { d.Static = true }, "first Param": func(d *api.Decl) { d.Params[0].Type = api.Real },
		"second Param": func(d *api.Decl) { d.Params[1].Type = api.Real }, "Param less": func(d *api.Decl) { d.Params = d.Params[:1] }, "Param more": func(d *api.Decl) { d.Params = append(d.Params, api.Param{Type: api.Int}) },
		"order of Params": func(d *api.Decl) { d.Params[0], d.Params[1] = d.Params[1], d.Params[0] }, "number of Params": func(d *api.Decl) { d.Params = nil },
	} {
		d := some()
		change(&d)
		asked(what, d, false)
	}
	for what, change := range map[string]func(*api.Decl){
		"Extern": func(d *api.Decl) { d.Extern = true }, "Has": func(d *api.Decl) { d.Has = true }, "At": func(d *api.Decl) { d.At = 9 }, "Inits": func(d *api.Decl) { d.Inits = make([]api.Expr, 2) },
		"Body": func(d *api.Decl) { d.Body.Kids = make([]api.Stmt, 1) }, "Params' names": func(d *api.Decl) { d.Params[0].Name, d.Params[1].At = "z", 7 }, "Name": func(d *api.Decl) { d.Name = "z" },
	} {
		d := some()
		change(&d)
		asked(what, d, true)
	}
}
