package bind

import (
	"strconv"

	"solder/api"
	"solder/trees"
)

// part is a module as it comes into a program.
type part struct {
	shared []api.Decl          // its Decls that aren't Static
	uses   map[string]struct{} // the shared names in its Inits and bodies
	decls  []api.Decl          // its definitions, as the program has them
	whole  bool                // is it no more than a module may be?
}

// newPart makes the part of the module with a number.
func newPart(number int, m api.Module) part {
	p := part{uses: map[string]struct{}{}}
	told := map[string]api.Decl{}
	for _, d := range m.Decls {
		// Those of one name are all Static, or none is: so one of them will do.
		told[d.Name] = d
		if !d.Static {
			p.shared = append(p.shared, d)
		}
	}
	own := strconv.Itoa(number) + "."
	c := newCopier(func(name string) string {
		d, atTop := told[name]
		if d.Static {
			return own + name
		}
		// What is told by no Decl is a param's, a local's, or known from the beginning.
		if atTop {
			p.uses[name] = struct{}{}
		}
		return name
	})
	for _, d := range copied(c, m.Decls, c.decl) {
		if trees.Defines(d) {
			p.decls = append(p.decls, inProgram(d, own))
		}
	}
	p.whole = c.left >= 0
	return p
}

// inProgram is a definition as the program has it.
func inProgram(d api.Decl, own string) api.Decl {
	if d.Static {
		d.Name = own + d.Name
	}
	d.Static, d.Extern = false, false
	return d
}
