package bind_test

import (
	"math/rand"
	"slices"
	"strconv"
	"strings"
	"testing"

	"solder/api"
	"solder/bind"
	"solder/check"
	"solder/helps"
	"solder/lex"
	"solder/parse"
)

// shapeOf is the shape of a shared name's definition, if a module has one.
func (m made) shapeOf(name string) (shape, bool) {
	for _, d := range m.told {
		if d.name == name && !d.static && d.defines {
			return d.as, true
		}
	}
	return shape{}, false
}

// faultOf is the first fault of modules, known by how they were made.
func faultOf(mods []made) (int, api.Errno) {
	if len(mods) > api.MaxModules {
		return api.MaxModules, api.ErrFull
	}
	defined := map[string]shape{}
	for n, m := range mods {
		for _, name := range allNames() {
			as, defines := m.shapeOf(name)
			if _, ahead := defined[name]; ahead && defines {
				return n, api.ErrTwice
			}
			if defines {
				defined[name] = as
			}
		}
	}
	for n, m := range mods {
		for _, d := range m.told {
			if as, is := defined[d.name]; is && !d.static && as != d.as {
				return n, api.ErrMatch
			}
		}
	}
	for n, m := range mods {
		for name := range m.uses {
			if _, is := defined[name]; !is {
				return n, api.ErrNone
			}
		}
	}
	if _, is := defined["main"]; !is {
		return 0, api.ErrMain
	}
	return 0, api.OK
}

// declsOf are the names of the program's Decls, known by how the modules were made.
func declsOf(mods []made) (all []string) {
	for n, m := range mods {
		for _, d := range m.told {
			if d.static {
				all = append(all, strconv.Itoa(n)+"."+d.name)
			} else if d.defines {
				all = append(all, d.name)
			}
		}
	}
	return all
}

// facesOf are a module's, known by how it was made.
func facesOf(m made) (defined, needed []string) {
	for _, name := range slices.Sorted(slices.Values(allNames())) {
		_, defines := m.shapeOf(name)
		_, uses := m.uses[name]
		if defines {
			defined = append(defined, name)
		} else if uses {
			needed = append(needed, name)
		}
	}
	return defined, needed
}

// joined is the program of modules, come to in another way: their texts are put together to one, in which each Static name
// is told from all others; that is checked, and what is no definition left out. Places are another.
func joined(mods []made) (api.Module, bool) {
	text := ""
	for n, m := range mods {
		tokens, _, _ := lex.Lex(m.text)
		for _, x := range tokens {
			static := func(d toldOf) bool { return d.name == x.Text && d.static }
			if x.Kind == api.TName && slices.ContainsFunc(m.told, static) {
				text += "own" + strconv.Itoa(n) + "_"
			}
			text += x.Text + " "
		}
	}
	m, _, e := parse.Parse(text)
	c, _, e2 := check.Check(m)
	if e != api.OK || e2 != api.OK {
		return api.Module{}, false
	}
	helps.Names(&c, func(name *string) {
		if behind, own := strings.CutPrefix(*name, "own"); own {
			*name = strings.Replace(behind, "_", ".", 1)
		}
	})
	var all api.Module
	for _, d := range c.Decls {
		if isDefinition(d) {
			d.Static, d.Extern = false, false
			all.Decls = append(all.Decls, d)
		}
	}
	return placeless(all), true
}

// placeless is a module without its places.
func placeless(m api.Module) api.Module {
	c := helps.CloneModule(m)
	helps.Walk(&c, func(x *api.Expr) { x.At = 0 }, func(s *api.Stmt) { s.At = 0 })
	for n := range c.Decls {
		d := &c.Decls[n]
		d.At, d.Body.At = 0, 0
		for k := range d.Params {
			d.Params[k].At = 0
		}
	}
	return c
}

// Modules that are made at random are held against what is known of them by how they were made, and against the model.
func TestMadeModules(t *testing.T) {
	source := rand.New(rand.NewSource(14))
	seen := map[api.Errno]int{}
	statics, needs, together := 0, 0, 0
	for n := range 3000 {
		mods := plan(source, 1+n%5, []int{100, 100, 30, 10, 4}[n/5%5])
		if n%200 == 0 {
			mods = plan(source, 6+n/200%5, 60)
		}
		var texts []string
		for _, m := range mods {
			texts = append(texts, m.text)
		}
		if slices.ContainsFunc(texts, func(s string) bool { return len(s) > api.MaxText }) {
			continue
		}
		all := checked(t, texts...)
		at, e := faultOf(mods)
		seen[e]++
		got, gotAt, gotE := bind.Bind(all)
		if gotAt != at || gotE != e {
			t.Errorf("P14.1: Bind(%q): error %d at %d, want %d at %d", texts, gotE, gotAt, e, at)
			continue
		}
		allHolds(t, texts, all)
		for k, m := range mods {
			defined, needed := bind.Faces(all[k])
			wantDefined, wantNeeded := facesOf(m)
			if !slices.Equal(defined, wantDefined) || !slices.Equal(needed, wantNeeded) {
				t.Errorf("P14.1: Faces(%s): %q and %q, want %q and %q", helps.Short(m.text), defined, needed, wantDefined, wantNeeded)
			}
			needs += len(needed)
		}
		if e != api.OK {
			continue
		}
		var names []string
		for _, d := range got.Decls {
			names = append(names, d.Name)
		}
		if want := declsOf(mods); !slices.Equal(names, want) {
			t.Errorf("P14.1: Bind(%q): the Decls %q, want %q", texts, names, want)
		}
		statics += strings.Count(strings.Join(names, " "), ".")
		if want, fits := joined(mods); fits {
			together++
			if a, b := told(placeless(got)), told(want); a != b {
				t.Errorf("P14.1: Bind(%q): .. %s .., want .. %s ..", texts, helps.Around(a, b), helps.Around(b, a))
			}
		}
	}
	for _, e := range []api.Errno{api.OK, api.ErrTwice, api.ErrMatch, api.ErrNone, api.ErrMain} {
		if seen[e] < 60 {
			t.Errorf("%d times alone the test's modules lead to error %d", seen[e], e)
		}
	}
	if seen[api.ErrFull] < 3 || statics < 1000 || needs < 1000 || together < 1000 {
		t.Errorf("of the test's modules %d are too many; they have %d Static names, need %d, and %d programs are come to in another way", seen[api.ErrFull], statics, needs, together)
	}
}
