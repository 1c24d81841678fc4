package link_test

import (
	"slices"
	"strconv"
	"testing"

	"solder/api"
	"solder/link"
)

func TestNoObjects(t *testing.T) {
	holds(t, "nil", nil, refused(api.ErrMain))
	holds(t, "an empty list", []api.Object{}, refused(api.ErrMain))
	holds(t, "an object of nothing", []api.Object{{}}, refused(api.ErrMain))
	holds(t, "three of them", []api.Object{{}, {Text: []uint32{}, Data: []byte{}, Syms: []api.Sym{}, Rels: []api.Rel{}}, {}}, refused(api.ErrMain))
}

// full is an object that has something of everything; no other number leads to the same names.
func full(n int) api.Object {
	name := strconv.Itoa(n)
	return api.Object{
		Text: []uint32{0x000002b7, 0x00028313, uint32(n)},
		Data: []byte{byte(n), 2, 3, 4, 5, 6, 7, 8},
		Syms: syms(text("f"+name, 0), own("here", 2), data("d"+name, 4)),
		Rels: []api.Rel{rel(0, api.RHi, 2, 0), rel(1, api.RLoI, 2, 0), relData(4, 1, 0)},
	}
}

// Objects that lack something, at the first, a middle and the last place.
func TestObjectsThatLackSomething(t *testing.T) {
	lacks := map[string]func(o *api.Object){
		"words": func(o *api.Object) { o.Text, o.Syms, o.Rels = nil, o.Syms[2:], []api.Rel{relData(4, 0, 0)} },
		"data": func(o *api.Object) {
			o.Data, o.Syms, o.Rels = nil, o.Syms[:2], []api.Rel{rel(0, api.RHi, 1, 0), rel(1, api.RLoI, 0, 8)}
		},
		"words and data": func(o *api.Object) { *o = api.Object{Syms: syms(text("f", 0), data("d", 0))} },
		"symbols":        func(o *api.Object) { o.Syms, o.Rels = nil, nil },
		"relocations":    func(o *api.Object) { o.Rels = nil },
		"everything":     func(o *api.Object) { *o = api.Object{} },
	}
	for what, lack := range lacks {
		for at := range 4 {
			objs := []api.Object{mainAlone(1), full(1), full(2)}
			o := full(3)
			lack(&o)
			objs = slices.Insert(objs, at, o)
			if want := asModel(t, "an object without "+what+", at place "+strconv.Itoa(at), objs); want.e != api.OK {
				t.Errorf("P9.1: an object without %s: error %d", what, want.e)
			}
		}
		o := full(3)
		lack(&o)
		asModel(t, "two objects without "+what, []api.Object{o, mainAlone(1), {}, {Data: o.Data}})
	}
}

func TestNothingBetween(t *testing.T) {
	objs := []api.Object{{}, full(1), {}, mainAlone(7), {}}
	want := image(startTo(0x018000ef, 0x000002b7, 0x02428313, 1, 0x00700513, comeBack), 1, 2, 3, 4, 20, 0, 0, 0)
	holds(t, "objects of nothing around", objs, linked(want, link.Named{Name: "d1", Address: 36}, link.Named{Name: "f1", Address: 12, Frame: 16}, link.Named{Name: "main", Address: 24, Frame: 16}))
}

// Two texts of an odd number of words have no zeros between them; the zeros are ahead of the data alone.
func TestZerosAheadOfData(t *testing.T) {
	for words := range 9 {
		for bytes := 0; bytes <= 24; bytes += 8 {
			o := api.Object{Text: slices.Repeat([]uint32{0xffffffff}, words), Data: slices.Repeat([]byte{0xff}, bytes), Syms: syms(text("main", 0))}
			l := startTo(0x00c000ef, o.Text...)
			if words%2 == 0 {
				l = append(l, 0)
			}
			what := strconv.Itoa(words) + " words, " + strconv.Itoa(bytes) + " bytes"
			holds(t, what, []api.Object{o}, linked(image(l, o.Data...), link.Named{Name: "main", Address: 12, Frame: 16}))
			apart := []api.Object{{Syms: o.Syms}, {Text: o.Text[words/2:], Data: o.Data[bytes/16*8:]}, {}, {Text: o.Text[:words/2], Data: o.Data[:bytes/16*8]}}
			holds(t, what+", of some", apart, linked(image(l, o.Data...), link.Named{Name: "main", Address: 12, Frame: 16}))
		}
	}
}

// Several objects have relocations of the same symbol, each from its own place, as have some of one object.
func TestTheSameSymbol(t *testing.T) {
	user := func(s api.Sym, add int) api.Object {
		return api.Object{
			Text: []uint32{0x0000006f, 0x000002b7, 0x0000006f, 0x00028313},
			Data: make([]byte, 8),
			Syms: syms(s),
			Rels: []api.Rel{rel(0, api.RJal, 0, add), rel(1, api.RHi, 0, add), rel(2, api.RJal, 0, add), rel(3, api.RLoI, 0, add), relData(0, 0, add), relData(4, 0, add)},
		}
	}
	main := user(text("main", 3), 0)
	main.Syms = append(main.Syms, own("f", 1))
	objs := []api.Object{user(wants("main"), 0), main, user(wants("main"), 8)}
	// The texts stand at 12, 28 and 44, the zero at 60, the data at 64, 72 and 80; main at 40.
	want := image(startTo(0x028000ef,
		0x01c0006f, 0x000002b7, 0x0140006f, 0x02828313,
		0x00c0006f, 0x000002b7, 0x0040006f, 0x02828313,
		0x0040006f, 0x000002b7, 0xffdff06f, 0x03028313, 0),
		40, 0, 0, 0, 40, 0, 0, 0, 40, 0, 0, 0, 40, 0, 0, 0, 48, 0, 0, 0, 48, 0, 0, 0)
	holds(t, "the same symbol", objs, linked(want, link.Named{Name: "main", Address: 40, Frame: 16}))
}

// A name that isn't Global is its own in each object, though others have it too, and though it is main.
func TestTheSameNameForItself(t *testing.T) {
	use := func(s api.Sym) api.Object {
		return api.Object{Text: []uint32{comeBack, 0x0000006f}, Data: make([]byte, 8), Syms: syms(s), Rels: []api.Rel{rel(1, api.RJal, 0, 0), relData(4, 0, 0)}}
	}
	objs := []api.Object{use(own("main", 0)), use(text("main", 1)), use(wants("main")), use(ownData("main", 0))}
	// The texts stand at 12, 20, 28 and 36, the zero at 44, the data at 48, 56, 64 and 72; main at 24.
	want := image(startTo(0x018000ef, comeBack, 0xffdff06f, comeBack, 0x0000006f, comeBack, 0xff9ff06f, comeBack, 0x0200006f, 0),
		0, 0, 0, 0, 12, 0, 0, 0, 0, 0, 0, 0, 24, 0, 0, 0, 0, 0, 0, 0, 24, 0, 0, 0, 0, 0, 0, 0, 72, 0, 0, 0)
	holds(t, "the same name", objs, linked(want, link.Named{Name: "main", Address: 24, Frame: 16}))
}

func TestManyObjects(t *testing.T) {
	const many = 300
	var objs []api.Object
	want := startTo(0)
	var names []link.Named
	var bytes []byte
	for n := range many {
		next := (n + 1) % many
		name := func(n int) string { return "s" + strconv.Itoa(1000+n) }
		// Each jumps to the next one, and has its address in its data.
		o := api.Object{Text: []uint32{uint32(n), 0x000000ef}, Data: make([]byte, 8), Syms: syms(text(name(n), 1), wants(name(next))), Rels: []api.Rel{rel(1, api.RJal, 1, 0), relData(4, 1, 0)}}
		jump := uint32(0x008000ef)
		if next == 0 {
			jump = 0xea8ff0ef // back by 8 times 299
			o.Syms = append(o.Syms, text("main", 0))
			want[0] = 0x165000ef // to 12 and 8 times 299
			names = append([]link.Named{{Name: "main", Address: 12 + 8*(many-1), Frame: 16}}, names...)
		}
		objs = append(objs, o)
		want = append(want, uint32(n), jump)
		names = append(names, link.Named{Name: name(n), Address: uint32(16 + 8*n), Frame: 16})
		bytes = append(bytes, image([]uint32{0, uint32(16 + 8*next)})...)
	}
	holds(t, "many objects", objs, linked(image(append(want, 0), bytes...), names...))
}

// The most symbols and the most relocations that an object may have.
func TestTheMostOfAll(t *testing.T) {
	there, uses := api.Object{Data: make([]byte, 4800)}, api.Object{Data: make([]byte, 4800)}
	for n := range api.MaxSyms {
		there.Syms = append(there.Syms, data("s"+strconv.Itoa(n), 8*n))
		uses.Syms = append(uses.Syms, wants("s"+strconv.Itoa((n*7+5)%api.MaxSyms)))
		uses.Rels = append(uses.Rels, relData(8*n, n, n))
	}
	if want := asModel(t, "600 symbols", []api.Object{there, uses, mainAlone(1)}); len(want.names) != 601 {
		t.Errorf("P9.1: 600 symbols: error %d", want.e)
	}

	o := api.Object{Text: slices.Repeat([]uint32{0x00028313}, api.MaxWords), Data: make([]byte, api.MaxData), Syms: syms(data("x", 8), text("main", 9))}
	for n := range api.MaxWords * 3 / 4 {
		o.Rels = append(o.Rels, rel(n, api.RLoI, n%2, n))
	}
	for n := range api.MaxData / 4 {
		o.Rels = append(o.Rels, relData(4*n, n%2, -n))
	}
	want := wantAnswer([]api.Object{o})
	if len(o.Rels) != api.MaxRels || len(want.image.Bytes) != 16+4*api.MaxWords+api.MaxData {
		t.Fatalf("the test has %d relocations, and %d bytes", len(o.Rels), len(want.image.Bytes))
	}
	is(t, "P9.1", "65536 relocations", []api.Object{o}, want)
}
