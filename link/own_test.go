package link_test

import (
	"slices"
	"testing"
	"unsafe"

	"solder/api"
	"solder/helps"
	"solder/link"
)

// lists are objects by what is answered of them.
func lists() map[string][]api.Object {
	return map[string][]api.Object{
		"linked":     {full(1), mainAlone(3), uses(0x000000ef, api.RJal, "f1", 4), full(2)},
		"one":        {mainAlone(3)},
		"three":      three(0x000000ef, rel(0, api.RJal, 1, 0), wants("f")),
		"data":       three(comeBack, relData(4, 1, 3), data("my", 2)),
		"nothing":    nil,
		"no object":  {mainAlone(3), {Data: make([]byte, 3)}, full(1)},
		"twice":      {mainAlone(3), full(1), full(1)},
		"nobody":     {mainAlone(3), uses(0x000000ef, api.RJal, "f1", 4)},
		"no main":    {full(1), full(2)},
		"too long":   append(few(8, 65536, 0), mainAlone(3)),
		"too far":    {mainAlone(3), full(1), uses(0x00000063, api.RBranch, "f1", 40000)},
		"much of it": append(few(3, 65536, 65536), full(1), mainAlone(3)),
	}
}

func TestWhatIsHandedInStays(t *testing.T) {
	for what, objs := range lists() {
		part, all := helps.Roomy(objs, full(7), full(8))
		list, inner := helps.Clone(part[:cap(part)]), helps.Clone(all)
		is(t, "P9.1", what+", with room behind", part, wantAnswer(objs))
		if !helps.Equal(helps.Clone(part[:cap(part)]), list) || !helps.Equal(all, inner) {
			t.Errorf("P9.4: %s: what was handed in is now another", what)
		}
	}
}

// What is answered may be changed and lengthened, and nothing else changes with it.
func TestAnswersAreNewMemory(t *testing.T) {
	for what, objs := range lists() {
		kept, want := helps.Clone(objs), wantAnswer(objs)
		a, b := ask(objs), ask(objs)
		helps.Fill(a.image.Bytes[:cap(a.image.Bytes)], 0xee)
		helps.Fill(a.names[:cap(a.names)], link.Named{Name: "spoilt", Address: 1, Frame: 1})
		_, _ = append(a.image.Bytes, 0xdd), append(a.names, link.Named{})
		if !same(b, want) || !helps.Equal(objs, kept) {
			t.Errorf("P9.4: %s: an answer shares its memory with another, or with what was handed in", what)
		}
		is(t, "P9.4", what+", asked again", objs, want)
	}
}

// What was handed in may be changed behind the call: the answers stay.
func TestAnswersStay(t *testing.T) {
	for what, objs := range lists() {
		want := wantAnswer(objs)
		got := ask(objs)
		helps.Spoil(objs)
		if !same(got, want) {
			t.Errorf("P9.4: %s: an answer has changed with what was handed in", what)
		}
	}
}

// Names are in bytes that change behind the call: so it is seen whether an answer has some of them.
func TestNamesAreNoPiecesOfNames(t *testing.T) {
	names := [][]byte{[]byte("main"), []byte("zz"), []byte("aaa")}
	var objs []api.Object
	for _, b := range names {
		objs = append(objs, api.Object{Syms: syms(text(unsafe.String(&b[0], len(b)), 0))})
	}
	l, e := link.Symbols(objs)
	for _, b := range names {
		helps.Fill(b, 'x')
	}
	if want := []link.Named{{"aaa", 12, 16}, {"main", 12, 16}, {"zz", 12, 16}}; !slices.Equal(l, want) || e != api.OK {
		t.Errorf("P9.4: Symbols: %v, error %d, want %v: an answer has the names' own bytes", l, e, want)
	}
}

// Objects that have the same memory are patched each on its own, and it stays.
func TestObjectsOfTheSameMemory(t *testing.T) {
	o := uses(0x000000ef, api.RJal, "main", 0)
	o.Data, o.Rels = make([]byte, 8), append(o.Rels, relData(0, 0, 0))
	objs := []api.Object{o, mainAlone(7), o, o}
	kept := helps.Clone(objs)
	want := linked(image(startTo(0x010000ef, 0x004000ef, 0x00700513, comeBack, 0xff9ff0ef, 0xff5ff0ef), 16, 0, 0, 0, 0, 0, 0, 0, 16, 0, 0, 0, 0, 0, 0, 0, 16, 0, 0, 0, 0, 0, 0, 0), link.Named{Name: "main", Address: 16, Frame: 16})
	for range 3 {
		holds(t, "objects of the same memory", objs, want)
	}
	if !helps.Equal(objs, kept) {
		t.Error("P9.4: objects of the same memory: what was handed in is now another")
	}
}

// An answer hangs on nothing that was asked ahead of it.
func TestAskedAgain(t *testing.T) {
	seen := map[api.Errno]int{}
	for range 3 {
		for what, objs := range lists() {
			want := wantAnswer(objs)
			seen[want.e]++
			is(t, "P9.4", what+", asked again", objs, want)
		}
	}
	if len(seen) != 7 {
		t.Errorf("the test's lists lead to the errors %v alone", seen)
	}
}
