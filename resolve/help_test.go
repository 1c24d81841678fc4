package resolve_test

import (
	"reflect"
	"slices"
	"strconv"
	"testing"

	"solder/api"
	"solder/resolve"
)

// text is a symbol that defines a name in a text.
func text(name string) api.Sym {
	return api.Sym{Name: name, Sect: 1, Value: 1, Frame: 32, Global: true}
}

// data is one that defines it in data.
func data(name string) api.Sym {
	return api.Sym{Name: name, Sect: 2, Value: 4, Global: true}
}

// own is one in a text that isn't Global, ownData one in data.
func own(name string) api.Sym {
	return api.Sym{Name: name, Sect: 1, Frame: 16}
}

func ownData(name string) api.Sym {
	return api.Sym{Name: name, Sect: 2, Value: 8}
}

// wants is one that is defined elsewhere.
func wants(name string) api.Sym {
	return api.Sym{Name: name, Global: true}
}

// object has these symbols; if it has some, a relocation of the last of them.
func object(syms ...api.Sym) api.Object {
	o := api.Object{Text: []uint32{0x000002b7, 0x00000073}, Data: make([]byte, 8), Syms: syms}
	if len(syms) > 0 {
		o.Rels = []api.Rel{{Sect: 1, Kind: api.RHi, Sym: len(syms) - 1, Add: 8}}
	}
	return o
}

// objects are those with these lists of symbols.
func objects(lists ...[]api.Sym) []api.Object {
	objs := make([]api.Object, len(lists))
	for n, l := range lists {
		objs[n] = object(l...)
	}
	return objs
}

func syms(l ...api.Sym) []api.Sym {
	return l
}

// at is a place of a symbol.
func at(obj, sym int) resolve.Target {
	return resolve.Target{Obj: obj, Sym: sym}
}

// answer is what all calls answer of some objects.
type answer struct {
	targets [][]resolve.Target
	at      resolve.Target
	e       api.Errno
	main    resolve.Target
	mainE   api.Errno
	needs   []string
}

// ask asks all calls.
func ask(objs []api.Object) answer {
	var a answer
	a.targets, a.at, a.e = resolve.Resolve(objs)
	a.main, a.mainE = resolve.Main(objs)
	a.needs = resolve.Needs(objs)
	return a
}

// refused is what is answered where Resolve has that error at that place.
func refused(e api.Errno, at resolve.Target, needs ...string) answer {
	return answer{at: at, e: e, mainE: e, needs: needs}
}

// resolved is what is answered where Resolve has none, and nothing is in need.
func resolved(main resolve.Target, mainE api.Errno, targets ...[]resolve.Target) answer {
	return answer{targets: targets, main: main, mainE: mainE}
}

func targets(l ...resolve.Target) []resolve.Target {
	return l
}

// sameTargets takes empty lists for nil ones.
func sameTargets(a, b [][]resolve.Target) bool {
	return slices.EqualFunc(a, b, slices.Equal[[]resolve.Target])
}

// is says whether all calls answer of objs what is wanted.
func is(t *testing.T, promise, what string, objs []api.Object, want answer) {
	t.Helper()
	got := ask(objs)
	if !sameTargets(got.targets, want.targets) || got.at != want.at || got.e != want.e {
		t.Errorf("%s: %s: Resolve: %v, %v, error %d, want %v, %v, error %d", promise, what, brief(got.targets), got.at, got.e, brief(want.targets), want.at, want.e)
	}
	if got.main != want.main || got.mainE != want.mainE {
		t.Errorf("%s: %s: Main: %v, error %d, want %v, error %d", promise, what, got.main, got.mainE, want.main, want.mainE)
	}
	if !slices.Equal(got.needs, want.needs) {
		t.Errorf("%s: %s: Needs: %v, want %v", promise, what, brief(got.needs), brief(want.needs))
	}
}

// brief is enough of a list to know it again.
func brief[E any](l []E) []E {
	return l[:min(len(l), 12)]
}

// holds says whether all calls answer what is wanted, and in other orders of the objects what that is then.
func holds(t *testing.T, what string, objs []api.Object, want answer) {
	t.Helper()
	if model := wantAnswer(objs); !sameAnswer(model, want) {
		t.Fatalf("%s: the test's model says otherwise than the test: %v, want %v", what, model, want)
	}
	is(t, "P6.1", what, objs, want)
	for _, order := range orders(len(objs)) {
		moved := inOrder(objs, order)
		is(t, "P6.2", what+", in the order "+line(order), moved, inOtherOrder(want, order, moved))
	}
}

func sameAnswer(a, b answer) bool {
	return sameTargets(a.targets, b.targets) && slices.Equal(a.needs, b.needs) &&
		a.at == b.at && a.e == b.e && a.main == b.main && a.mainE == b.mainE
}

func line(numbers []int) string {
	s := ""
	for n, x := range numbers {
		if n == 12 {
			return s + " .."
		}
		s += " " + strconv.Itoa(x)
	}
	return s
}

// orders are all orders of a few, and of many some: from behind, turned round, and so on. Each is a list of where what stands there stood.
func orders(n int) [][]int {
	first := make([]int, n)
	for i := range first {
		first[i] = i
	}
	if n > 4 {
		behind := slices.Clone(first)
		slices.Reverse(behind)
		middle := slices.Concat(first[n/2:], first[:n/2])
		last := slices.Concat(first[n-1:], first[:n-1])
		second := slices.Concat(first[1:], first[:1])
		return [][]int{behind, middle, last, second}
	}
	return permutations(first)
}

func permutations(l []int) [][]int {
	if len(l) == 0 {
		return [][]int{nil}
	}
	var all [][]int
	for i, x := range l {
		for _, rest := range permutations(slices.Concat(l[:i], l[i+1:])) {
			all = append(all, append([]int{x}, rest...))
		}
	}
	return all
}

// inOrder are objs in another order.
func inOrder(objs []api.Object, order []int) []api.Object {
	moved := make([]api.Object, len(order))
	for now, then := range order {
		moved[now] = objs[then]
	}
	return moved
}

// inOtherOrder is what a leads to, when the objects stand in that order: all is told by the old answer, but for the place of a fault.
func inOtherOrder(a answer, order []int, moved []api.Object) answer {
	now := make([]int, len(order))
	for n, then := range order {
		now[then] = n
	}
	if a.e != api.OK {
		a.at = wantAnswer(moved).at
		return a
	}
	b := a
	b.targets = make([][]resolve.Target, len(order))
	for n, then := range order {
		for _, t := range a.targets[then] {
			b.targets[n] = append(b.targets[n], at(now[t.Obj], t.Sym))
		}
	}
	if a.mainE == api.OK {
		b.main = at(now[a.main.Obj], a.main.Sym)
	}
	return b
}

// clone is a list of objects in memory of its own.
func clone(objs []api.Object) []api.Object {
	l := slices.Clone(objs)
	for n, o := range l {
		l[n] = api.Object{Text: slices.Clone(o.Text), Data: slices.Clone(o.Data), Syms: slices.Clone(o.Syms), Rels: slices.Clone(o.Rels)}
	}
	return l
}

// equal tells whether a and b are, place by place.
func equal(a, b []api.Object) bool {
	return reflect.DeepEqual(a, b)
}
