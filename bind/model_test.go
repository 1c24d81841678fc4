package bind_test

import (
	"slices"
	"strconv"
	"strings"

	"solder/api"
	"solder/helps"
)

// The model tells the chapter once more, in another way: it looks everything up in lists, again and again.

// isShared tells whether a module shares a name.
func isShared(m api.Module, name string) bool {
	return slices.ContainsFunc(m.Decls, func(d api.Decl) bool { return d.Name == name && !d.Static })
}

func isDefinition(d api.Decl) bool {
	return d.Func && d.Has || !d.Func && !d.Extern
}

// definesIt tells whether a module defines a shared name.
func definesIt(m api.Module, name string) bool {
	return slices.ContainsFunc(m.Decls, func(d api.Decl) bool { return d.Name == name && !d.Static && isDefinition(d) })
}

// isOwn tells whether a name is a param's or a local's: these are called $0 and on.
func isOwn(name string) bool {
	return strings.HasPrefix(name, "$")
}

func isGiven(name string) bool {
	return name == "putw" || name == "putd" || name == "getw"
}

// usedNames are the names that a module uses, Static ones too.
func usedNames(m api.Module) (all []string) {
	helps.Walk(&m, func(x *api.Expr) {
		if (x.Kind == api.EName || x.Kind == api.ECall) && !isOwn(x.Name) && !isGiven(x.Name) {
			all = append(all, x.Name)
		}
	}, func(*api.Stmt) {})
	return all
}

// unlike tells whether two Decls don't agree.
func unlike(a, b api.Decl) bool {
	if a.Func != b.Func || a.Type != b.Type || a.Len != b.Len || a.Static != b.Static || len(a.Params) != len(b.Params) {
		return true
	}
	for n := range a.Params {
		if a.Params[n].Type != b.Params[n].Type {
			return true
		}
	}
	return false
}

// modelFault is the first fault of modules.
func modelFault(mods []api.Module) (int, api.Errno) {
	if len(mods) > 8 {
		return 8, api.ErrFull
	}
	for _, look := range []struct {
		wrong func([]api.Module, int) bool
		e     api.Errno
	}{{isTwice, api.ErrTwice}, {isUnlike, api.ErrMatch}, {isLost, api.ErrNone}} {
		for n := range mods {
			if look.wrong(mods, n) {
				return n, look.e
			}
		}
	}
	if !slices.ContainsFunc(mods, func(m api.Module) bool { return definesIt(m, "main") }) {
		return 0, api.ErrMain
	}
	return 0, api.OK
}

func isTwice(mods []api.Module, n int) bool {
	for _, d := range mods[n].Decls {
		for _, ahead := range mods[:n] {
			if definesIt(mods[n], d.Name) && definesIt(ahead, d.Name) {
				return true
			}
		}
	}
	return false
}

func isUnlike(mods []api.Module, n int) bool {
	for _, d := range mods[n].Decls {
		for _, m := range mods {
			for _, other := range m.Decls {
				if other.Name == d.Name && !d.Static && !other.Static && isDefinition(other) && unlike(d, other) {
					return true
				}
			}
		}
	}
	return false
}

func isLost(mods []api.Module, n int) bool {
	for _, name := range usedNames(mods[n]) {
		defined := func(m api.Module) bool { return definesIt(m, name) }
		if isShared(mods[n], name) && !slices.ContainsFunc(mods, defined) {
			return true
		}
	}
	return false
}

// modelProgram is the program of modules in which nothing is wrong.
func modelProgram(mods []api.Module) (all api.Module) {
	for n, m := range mods {
		own := func(name string) string {
			static := func(d api.Decl) bool { return d.Name == name && d.Static }
			if slices.ContainsFunc(m.Decls, static) {
				return strconv.Itoa(n) + "." + name
			}
			return name
		}
		c := helps.CloneModule(m)
		helps.Walk(&c, func(x *api.Expr) {
			if x.Kind == api.EName || x.Kind == api.ECall {
				x.Name = own(x.Name)
			}
		}, func(*api.Stmt) {})
		for _, d := range c.Decls {
			if isDefinition(d) {
				d.Name, d.Static, d.Extern = own(d.Name), false, false
				all.Decls = append(all.Decls, d)
			}
		}
	}
	return all
}

func modelFaces(m api.Module) (defined, needed []string) {
	for _, d := range m.Decls {
		if definesIt(m, d.Name) {
			defined = append(defined, d.Name)
		}
	}
	for _, name := range usedNames(m) {
		if isShared(m, name) && !definesIt(m, name) {
			needed = append(needed, name)
		}
	}
	slices.Sort(defined)
	slices.Sort(needed)
	return slices.Compact(defined), slices.Compact(needed)
}
