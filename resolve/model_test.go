package resolve_test

import (
	"slices"

	"solder/api"
	"solder/obj"
	"solder/resolve"
)

// The chapter once more, told in another way: each symbol is held against each other one.

// placed is a symbol, and where it stands.
type placed struct {
	api.Sym
	at resolve.Target
}

func allSymbols(objs []api.Object) []placed {
	var all []placed
	for n, o := range objs {
		for m, s := range o.Syms {
			all = append(all, placed{s, at(n, m)})
		}
	}
	return all
}

// definers are those of all that define the name.
func definers(all []placed, name string) []placed {
	var l []placed
	for _, s := range all {
		if s.Name == name && s.Global && s.Sect != 0 {
			l = append(l, s)
		}
	}
	return l
}

// means are those of all that may be the target of s.
func means(all []placed, s placed) []placed {
	if s.Sect != 0 {
		return []placed{s}
	}
	return definers(all, s.Name)
}

func noObject(o api.Object) bool {
	return obj.Check(o) != api.OK
}

// firstFault is Resolve's error, and where it is.
func firstFault(objs []api.Object, all []placed) (resolve.Target, api.Errno) {
	if n := slices.IndexFunc(objs, noObject); n >= 0 {
		return at(n, 0), api.ErrForm
	}
	for n, s := range all {
		if len(definers(all[n:n+1], s.Name)) == 1 && len(definers(all[:n], s.Name)) > 0 {
			return s.at, api.ErrTwice
		}
	}
	for _, s := range all {
		if len(means(all, s)) == 0 {
			return s.at, api.ErrNone
		}
	}
	return resolve.Target{}, api.OK
}

func wantAnswer(objs []api.Object) answer {
	all := allSymbols(objs)
	var a answer
	a.at, a.e = firstFault(objs, all)
	a.needs = wantNeeds(objs, all)
	if a.e != api.OK {
		a.mainE = a.e
		return a
	}
	a.targets = make([][]resolve.Target, len(objs))
	for _, s := range all {
		a.targets[s.at.Obj] = append(a.targets[s.at.Obj], means(all, s)[0].at)
	}
	a.mainE = api.ErrMain
	if l := definers(all, "main"); len(l) == 1 && l[0].Sect == 1 {
		a.main, a.mainE = l[0].at, api.OK
	}
	return a
}

func wantNeeds(objs []api.Object, all []placed) []string {
	if slices.ContainsFunc(objs, noObject) {
		return nil
	}
	var needs []string
	for _, s := range all {
		if len(means(all, s)) == 0 && !slices.Contains(needs, s.Name) {
			needs = append(needs, s.Name)
		}
	}
	slices.Sort(needs)
	return needs
}
