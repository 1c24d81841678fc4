package layout_test

import (
	"math"
	"slices"
	"testing"

	"solder/api"
	"solder/helps"
	"solder/layout"
)

// size is how many words and bytes an object has.
type size struct {
	words, bytes int
}

// sizes is a list of them, told as words, bytes, words, bytes and so on.
func sizes(numbers ...int) []size {
	var l []size
	for pair := range slices.Chunk(numbers, 2) {
		l = append(l, size{pair[0], pair[1]})
	}
	return l
}

// objects have these sizes, and nothing else.
func objects(l []size) []api.Object {
	objs := make([]api.Object, len(l))
	for n, s := range l {
		objs[n] = api.Object{Text: make([]uint32, s.words), Data: make([]byte, s.bytes)}
	}
	return objs
}

// places is a list of them, told as text, data, text, data and so on.
func places(numbers ...int) []layout.Place {
	var l []layout.Place
	for pair := range slices.Chunk(numbers, 2) {
		l = append(l, layout.Place{Text: pair[0], Data: pair[1]})
	}
	return l
}

// answer is what Layout answers.
type answer struct {
	places []layout.Place
	bytes  int
	e      api.Errno
}

func ask(objs []api.Object) answer {
	l, bytes, e := layout.Layout(objs)
	return answer{l, bytes, e}
}

// tooLong is what is answered of more than may be: the error alone.
var tooLong = answer{e: api.ErrLong}

// laid is what is answered where nothing is wrong.
func laid(bytes int, numbers ...int) answer {
	return answer{places: places(numbers...), bytes: bytes}
}

// same takes an empty list for nil.
func same(a, b answer) bool {
	return slices.Equal(a.places, b.places) && a.bytes == b.bytes && a.e == b.e
}

// is says whether Layout answers of objs what is wanted.
func is(t *testing.T, promise, what string, objs []api.Object, want answer) {
	t.Helper()
	if got := ask(objs); !same(got, want) {
		t.Errorf("%s: %s: Layout: %v, %d bytes, error %d, want %v, %d bytes, error %d",
			promise, what, helps.Brief(got.places), got.bytes, got.e, helps.Brief(want.places), want.bytes, want.e)
	}
}

// holds says whether Layout answers of objs what is wanted, and of others of their sizes as well, and whether nothing overlaps.
func holds(t *testing.T, what string, objs []api.Object, want answer) {
	t.Helper()
	if model := wantAnswer(objs); !same(model, want) {
		t.Fatalf("%s: the test's model says otherwise than the test: %v, %d bytes, error %d, want %v, %d bytes, error %d",
			what, helps.Brief(model.places), model.bytes, model.e, helps.Brief(want.places), want.bytes, want.e)
	}
	is(t, "P7.1", what, objs, want)
	is(t, "P7.1", what+", with symbols and relocations", withAll(objs), want)
	is(t, "P7.1", what+", with symbols and relocations that mean nothing", withNonsense(objs), want)
	areApart(t, what, objs)
	areInLine(t, what, objs)
}

// withAll are objects of the same sizes, with symbols and relocations that mean something.
func withAll(objs []api.Object) []api.Object {
	l := slices.Clone(objs)
	for n, o := range objs {
		l[n].Syms = []api.Sym{
			{Name: "a", Sect: 1, Value: len(o.Text), Frame: 32, Global: true},
			{Name: "b", Sect: 2, Value: len(o.Data)},
			{Name: "c", Global: true},
		}
		if len(o.Data) >= 4 {
			l[n].Rels = []api.Rel{{Sect: 2, Kind: api.RWord, Sym: 1, Add: 4}}
		}
	}
	return l
}

// withNonsense are what isn't objects in all but their numbers of words and bytes.
func withNonsense(objs []api.Object) []api.Object {
	l := slices.Clone(objs)
	for n := range l {
		l[n].Syms = []api.Sym{
			{}, {Name: "9 ", Sect: 7, Value: math.MinInt, Frame: 5}, {Name: "a", Sect: 1, Value: 1 << 40, Frame: -16},
			{Name: "a", Sect: 2, Value: math.MaxInt}, {Sect: -1, Value: -1, Frame: math.MaxInt, Global: true},
		}
		l[n].Rels = []api.Rel{
			{}, {Sect: 2, At: 1 << 40, Kind: 99, Sym: -1, Add: math.MaxInt}, {Sect: 1, At: -1, Kind: api.RJal, Sym: 1 << 40},
			{Sect: 9, At: math.MinInt, Kind: -1, Sym: 3, Add: math.MinInt},
		}
	}
	return l
}

// stretch is a part of the image: from one address to ahead of another.
type stretch struct {
	from, to int
}

// stretches are the start, and all texts and data that have something.
func stretches(objs []api.Object, l []layout.Place) []stretch {
	all := []stretch{{0, 12}}
	for n, o := range objs {
		all = append(all, stretch{l[n].Text, l[n].Text + 4*len(o.Text)}, stretch{l[n].Data, l[n].Data + len(o.Data)})
	}
	return slices.DeleteFunc(all, func(s stretch) bool { return s.from == s.to })
}

// areApart says whether all stand in the image, and none where another one does.
func areApart(t *testing.T, what string, objs []api.Object) {
	t.Helper()
	a := ask(objs)
	if a.e != api.OK {
		return
	}
	if len(a.places) != len(objs) {
		t.Errorf("P7.2: %s: %d places of %d objects", what, len(a.places), len(objs))
		return
	}
	end := 0
	all := stretches(objs, a.places)
	slices.SortFunc(all, func(a, b stretch) int { return a.from - b.from })
	for _, s := range all {
		if s.from < end {
			t.Errorf("P7.2: %s: something begins at %d, where another ends at %d", what, s.from, end)
		}
		end = s.to
	}
	if end > a.bytes {
		t.Errorf("P7.2: %s: the last ends at %d, the image at %d", what, end, a.bytes)
	}
}

// areInLine says whether texts, and data where it is promised, begin at the multiples that they must.
func areInLine(t *testing.T, what string, objs []api.Object) {
	t.Helper()
	whole := !slices.ContainsFunc(objs, func(o api.Object) bool { return len(o.Data)%8 != 0 })
	for n, p := range ask(objs).places {
		if p.Text%4 != 0 || whole && p.Data%8 != 0 {
			t.Errorf("P7.2: %s: object %d stands at %v", what, n, p)
		}
	}
}
