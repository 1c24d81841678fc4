package layout_test

import (
	"testing"

	"solder/api"
	"solder/helps"
	"solder/layout"
)

// lists are objects by what is answered of them.
func lists() map[string][]api.Object {
	return map[string][]api.Object{
		"laid":            withAll(objects(sizes(2, 8, 1, 16, 0, 0, 3, 24))),
		"of odd data":     withAll(objects(sizes(2, 7, 1, 1, 3, 9))),
		"no objects":      withNonsense(objects(sizes(2, 8, 1, 16))),
		"nothing":         nil,
		"too many words":  withAll(objects(sizes(2, 8, 524284, 0, 1, 8))),
		"too many bytes":  withAll(objects(sizes(2, 8, 0, 2097136, 1, 8))),
		"of nothing":      objects(sizes(0, 0, 0, 0)),
		"one of them":     withAll(objects(sizes(4, 8))),
		"of greater ones": withAll(objects(sizes(65536, 65536, 65535, 65528))),
	}
}

func TestWhatIsHandedInStays(t *testing.T) {
	for what, objs := range lists() {
		part, all := helps.Roomy(objs, objects(sizes(5, 8, 1, 1))...)
		list, inner := helps.Clone(part[:cap(part)]), helps.Clone(all)
		is(t, "P7.1", what+", with room behind", part, wantAnswer(objs))
		for _, p := range ask(part).places {
			for _, s := range objs[0].Syms {
				layout.Address(p, s)
			}
		}
		if !helps.Equal(helps.Clone(part[:cap(part)]), list) || !helps.Equal(all, inner) {
			t.Errorf("P7.3: %s: what was handed in is now another", what)
		}
	}
}

// What Layout answers may be changed and lengthened, and nothing else changes with it.
func TestPlacesAreNewMemory(t *testing.T) {
	for what, objs := range lists() {
		kept, want := helps.Clone(objs), wantAnswer(objs)
		a, b := ask(objs), ask(objs)
		l := a.places[:cap(a.places)]
		for n := range l {
			l[n] = layout.Place{Text: -n, Data: -1}
		}
		_ = append(a.places, layout.Place{Text: -1, Data: -1})
		if !same(b, want) || !helps.Equal(objs, kept) {
			t.Errorf("P7.3: %s: an answer shares its memory with another, or with what was handed in: %v", what, helps.Brief(b.places))
		}
		is(t, "P7.3", what+", asked again", objs, want)
	}
}

// What was handed in may be changed behind the call: the answers stay.
func TestAnswersStay(t *testing.T) {
	for what, objs := range lists() {
		want := wantAnswer(objs)
		got := ask(objs)
		helps.Spoil(objs)
		if !same(got, want) {
			t.Errorf("P7.3: %s: an answer has changed with what was handed in: %v, want %v", what, helps.Brief(got.places), helps.Brief(want.places))
		}
	}
}

// Objects that have the same memory are laid each on its own, and it stays.
func TestObjectsOfTheSameMemory(t *testing.T) {
	o := withAll(objects(sizes(3, 16)))[0]
	half := api.Object{Text: o.Text[:2], Data: o.Data[:8], Syms: o.Syms[:1], Rels: o.Rels[:1]}
	objs := []api.Object{o, half, o, half}
	kept := helps.Clone(objs)
	want := laid(104, 12, 56, 24, 72, 32, 80, 44, 96)
	for range 3 {
		is(t, "P7.3", "objects of the same memory", objs, want)
	}
	if !helps.Equal(objs, kept) {
		t.Error("P7.3: objects of the same memory: what was handed in is now another")
	}
}

// An answer hangs on nothing that was asked ahead of it.
func TestAskedAgain(t *testing.T) {
	for range 3 {
		for what, objs := range lists() {
			is(t, "P7.3", what+", asked again", objs, wantAnswer(objs))
			isAt(t, layout.Place{Text: 12, Data: 40}, 1, 2, 20)
			isAt(t, layout.Place{Text: 12, Data: 40}, 2, 2, 42)
			isAt(t, layout.Place{Text: 12, Data: 40}, 0, 2, 0)
		}
	}
}
