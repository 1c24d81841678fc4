package resolve_test

import (
	"slices"
	"testing"

	"solder/api"
	"solder/helps"
	"solder/resolve"
)

// text is a symbol that defines a name in a text.
func text(name string) api.Sym {
	return api.Sym{Name: name, Sect: 1, Value: 1, Frame: 32, Global: true}
}

// data is one that defines it in data.
func data(name string) api.Sym {
	return api.Sym{Name: name, Sect: 2, Value: 4, Global: true}
}

// own is one in a text that isn't Global, ownData one in data.
func own(name string) api.Sym {
	return api.Sym{Name: name, Sect: 1, Frame: 16}
}

func ownData(name string) api.Sym {
	return api.Sym{Name: name, Sect: 2, Value: 8}
}

// wants is one that is defined elsewhere.
func wants(name string) api.Sym {
	return api.Sym{Name: name, Global: true}
}

// object has these symbols; if it has some, a relocation of the last of them.
func object(syms ...api.Sym) api.Object {
	o := api.Object{Text: []uint32{0x000002b7, 0x00000073}, Data: make([]byte, 8), Syms: syms}
	if len(syms) > 0 {
		o.Rels = []api.Rel{{Sect: 1, Kind: api.RHi, Sym: len(syms) - 1, Add: 8}}
	}
	return o
}

// objects are those with these lists of symbols.
func objects(lists ...[]api.Sym) []api.Object {
	objs := make([]api.Object, len(lists))
	for n, l := range lists {
		objs[n] = object(l...)
	}
	return objs
}

func syms(l ...api.Sym) []api.Sym {
	return l
}

// at is a place of a symbol.
func at(obj, sym int) resolve.Target {
	return resolve.Target{Obj: obj, Sym: sym}
}

// answer is what all calls answer of some objects.
type answer struct {
	targets [][]resolve.Target
	at      resolve.Target
	e       api.Errno
	main    resolve.Target
	mainE   api.Errno
	needs   []string
}

// ask asks all calls.
func ask(objs []api.Object) answer {
	var a answer
	a.targets, a.at, a.e = resolve.Resolve(objs)
	a.main, a.mainE = resolve.Main(objs)
	a.needs = resolve.Needs(objs)
	return a
}

// refused is what is answered where Resolve has that error at that place.
func refused(e api.Errno, at resolve.Target, needs ...string) answer {
	return answer{at: at, e: e, mainE: e, needs: needs}
}

// resolved is what is answered where Resolve has none, and nothing is in need.
func resolved(main resolve.Target, mainE api.Errno, targets ...[]resolve.Target) answer {
	return answer{targets: targets, main: main, mainE: mainE}
}

func targets(l ...resolve.Target) []resolve.Target {
	return l
}

// sameTargets takes empty lists for nil ones.
func sameTargets(a, b [][]resolve.Target) bool {
	return slices.EqualFunc(a, b, slices.Equal[[]resolve.Target])
}

// is says whether all calls answer of objs what is wanted.
func is(t *testing.T, promise, what string, objs []api.Object, want answer) {
	t.Helper()
	got := ask(objs)
	if !sameTargets(got.targets, want.targets) || got.at != want.at || got.e != want.e {
		t.Errorf("%s: %s: Resolve: %v, %v, error %d, want %v, %v, error %d", promise, what, helps.Brief(got.targets), got.at, got.e, helps.Brief(want.targets), want.at, want.e)
	}
	if got.main != want.main || got.mainE != want.mainE {
		t.Errorf("%s: %s: Main: %v, error %d, want %v, error %d", promise, what, got.main, got.mainE, want.main, want.mainE)
	}
	if !slices.Equal(got.needs, want.needs) {
		t.Errorf("%s: %s: Needs: %v, want %v", promise, what, helps.Brief(got.needs), helps.Brief(want.needs))
	}
}

// holds says whether all calls answer what is wanted, and in other orders of the objects what that is then.
func holds(t *testing.T, what string, objs []api.Object, want answer) {
	t.Helper()
	if model := wantAnswer(objs); !sameAnswer(model, want) {
		t.Fatalf("%s: the test's model says otherwise than the test: %v, want %v", what, model, want)
	}
	is(t, "P6.1", what, objs, want)
	for _, order := range helps.Orders(len(objs), 4) {
		moved := helps.InOrder(objs, order)
		is(t, "P6.2", what+", in the order"+helps.Line(order), moved, inOtherOrder(want, order, moved))
	}
}

func sameAnswer(a, b answer) bool {
	return sameTargets(a.targets, b.targets) && slices.Equal(a.needs, b.needs) &&
		a.at == b.at && a.e == b.e && a.main == b.main && a.mainE == b.mainE
}

// inOtherOrder is what a leads to, when the objects stand in that order: all is told by the old answer, but for the place of a fault.
func inOtherOrder(a answer, order []int, moved []api.Object) answer {
	now := make([]int, len(order))
	for n, then := range order {
		now[then] = n
	}
	if a.e != api.OK {
		a.at = wantAnswer(moved).at
		return a
	}
	b := a
	b.targets = make([][]resolve.Target, len(order))
	for n, then := range order {
		for _, t := range a.targets[then] {
			b.targets[n] = append(b.targets[n], at(now[t.Obj], t.Sym))
		}
	}
	if a.mainE == api.OK {
		b.main = at(now[a.main.Obj], a.main.Sym)
	}
	return b
}
