package layout_test

import (
	"slices"
	"testing"

	"solder/api"
	"solder/layout"
)

// lists are objects by what is answered of them.
func lists() map[string][]api.Object {
	return map[string][]api.Object{
		"laid":            withAll(objects(sizes(2, 8, 1, 16, 0, 0, 3, 24))),
		"of odd data":     withAll(objects(sizes(2, 7, 1, 1, 3, 9))),
		"no objects":      withNonsense(objects(sizes(2, 8, 1, 16))),
		"nothing":         nil,
		"too many words":  withAll(objects(sizes(2, 8, 524284, 0, 1, 8))),
		"too many bytes":  withAll(objects(sizes(2, 8, 0, 2097136, 1, 8))),
		"of nothing":      objects(sizes(0, 0, 0, 0)),
		"one of them":     withAll(objects(sizes(4, 8))),
		"of greater ones": withAll(objects(sizes(65536, 65536, 65535, 65528))),
	}
}

// roomy is a list whose memory, and that of all its lists, has room behind it that isn't its own.
func roomy(objs []api.Object) (part, all []api.Object) {
	all = append(clone(objs), objects(sizes(5, 8, 1, 1))...)
	for n := range all {
		o := &all[n]
		o.Text = append(slices.Clone(o.Text), 0xeeeeeeee)
		o.Data = append(slices.Clone(o.Data), 0xee, 0xdd)
		o.Syms = append(slices.Clone(o.Syms), api.Sym{Name: "room", Sect: 1})
		o.Rels = append(slices.Clone(o.Rels), api.Rel{Sect: 1, At: 7})
	}
	part = slices.Clone(all)
	for n, o := range objs {
		a := all[n]
		part[n] = api.Object{Text: a.Text[:len(o.Text)], Data: a.Data[:len(o.Data)], Syms: a.Syms[:len(o.Syms)], Rels: a.Rels[:len(o.Rels)]}
	}
	return part[:len(objs)], all
}

func TestWhatIsHandedInStays(t *testing.T) {
	for what, objs := range lists() {
		part, all := roomy(objs)
		list, inner := clone(part[:cap(part)]), clone(all)
		is(t, "P7.1", what+", with room behind", part, wantAnswer(objs))
		for _, p := range ask(part).places {
			for _, s := range objs[0].Syms {
				layout.Address(p, s)
			}
		}
		if !equal(clone(part[:cap(part)]), list) || !equal(all, inner) {
			t.Errorf("P7.3: %s: what was handed in is now another", what)
		}
	}
}

// What Layout answers may be changed and lengthened, and nothing else changes with it.
func TestPlacesAreNewMemory(t *testing.T) {
	for what, objs := range lists() {
		kept, want := clone(objs), wantAnswer(objs)
		a, b := ask(objs), ask(objs)
		l := a.places[:cap(a.places)]
		for n := range l {
			l[n] = layout.Place{Text: -n, Data: -1}
		}
		_ = append(a.places, layout.Place{Text: -1, Data: -1})
		if !same(b, want) || !equal(objs, kept) {
			t.Errorf("P7.3: %s: an answer shares its memory with another, or with what was handed in: %v", what, brief(b.places))
		}
		is(t, "P7.3", what+", asked again", objs, want)
	}
}

// What was handed in may be changed behind the call: the answers stay.
func TestAnswersStay(t *testing.T) {
	for what, objs := range lists() {
		want := wantAnswer(objs)
		got := ask(objs)
		for n := range objs {
			fill(objs[n].Text, 0xeeeeeeee)
			fill(objs[n].Data, 0xee)
			fill(objs[n].Syms, api.Sym{Name: "spoilt", Sect: 2, Value: 5})
			fill(objs[n].Rels, api.Rel{Sect: 2, At: 5})
			objs[n] = objects(sizes(9, 9))[0]
		}
		if !same(got, want) {
			t.Errorf("P7.3: %s: an answer has changed with what was handed in: %v, want %v", what, brief(got.places), brief(want.places))
		}
	}
}

// Objects that have the same memory are laid each on its own, and it stays.
func TestObjectsOfTheSameMemory(t *testing.T) {
	o := withAll(objects(sizes(3, 16)))[0]
	half := api.Object{Text: o.Text[:2], Data: o.Data[:8], Syms: o.Syms[:1], Rels: o.Rels[:1]}
	objs := []api.Object{o, half, o, half}
	kept := clone(objs)
	want := laid(104, 12, 56, 24, 72, 32, 80, 44, 96)
	for range 3 {
		is(t, "P7.3", "objects of the same memory", objs, want)
	}
	if !equal(objs, kept) {
		t.Error("P7.3: objects of the same memory: what was handed in is now another")
	}
}

// An answer hangs on nothing that was asked ahead of it.
func TestAskedAgain(t *testing.T) {
	for range 3 {
		for what, objs := range lists() {
			is(t, "P7.3", what+", asked again", objs, wantAnswer(objs))
			isAt(t, layout.Place{Text: 12, Data: 40}, 1, 2, 20)
			isAt(t, layout.Place{Text: 12, Data: 40}, 2, 2, 42)
			isAt(t, layout.Place{Text: 12, Data: 40}, 0, 2, 0)
		}
	}
}
