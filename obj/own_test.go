package obj_test

import (
	"math"
	"slices"
	"strings"
	"testing"
	"unsafe"

	"solder/api"
	"solder/obj"
)

// changes are objects that differ from good in one place alone.
func changes(t *testing.T) map[string]api.Object {
	t.Helper()
	all := map[string]api.Object{}
	change := func(what string, do func(o *api.Object)) {
		o := clone(good(t))
		do(&o)
		all[what] = o
	}
	for n := range good(t).Text {
		for bit := range 32 {
			change("word"+line(n, bit), func(o *api.Object) { o.Text[n] ^= 1 << bit })
		}
	}
	for n := range good(t).Data {
		for bit := range 8 {
			change("byte"+line(n, bit), func(o *api.Object) { o.Data[n] ^= 1 << bit })
		}
	}
	for n := range good(t).Syms {
		change("name"+line(n), func(o *api.Object) { o.Syms[n].Name += "a" })
		change("name"+line(n)+" cut", func(o *api.Object) { o.Syms[n].Name = o.Syms[n].Name[1:] })
		change("Global"+line(n), func(o *api.Object) { o.Syms[n].Global = !o.Syms[n].Global })
		for _, by := range []int{1, -1, 1 << 32, math.MinInt} {
			change("Sect"+line(n, by), func(o *api.Object) { o.Syms[n].Sect += by })
			change("Value"+line(n, by), func(o *api.Object) { o.Syms[n].Value += by })
			change("Frame"+line(n, by), func(o *api.Object) { o.Syms[n].Frame += by })
		}
	}
	for n := range good(t).Rels {
		for _, by := range []int{1, -1, 1 << 32, math.MinInt} {
			change("relocation's Sect"+line(n, by), func(o *api.Object) { o.Rels[n].Sect += by })
			change("At"+line(n, by), func(o *api.Object) { o.Rels[n].At += by })
			change("Kind"+line(n, by), func(o *api.Object) { o.Rels[n].Kind += by })
			change("Sym"+line(n, by), func(o *api.Object) { o.Rels[n].Sym += by })
			change("Add"+line(n, by), func(o *api.Object) { o.Rels[n].Add += by })
		}
	}
	change("a word more", func(o *api.Object) { o.Text = append(o.Text, 0) })
	change("a word less", func(o *api.Object) { o.Text = o.Text[:len(o.Text)-1] })
	change("the first word less", func(o *api.Object) { o.Text = o.Text[1:] })
	change("no words", func(o *api.Object) { o.Text = nil })
	change("a byte more", func(o *api.Object) { o.Data = append(o.Data, 0) })
	change("a byte less", func(o *api.Object) { o.Data = o.Data[:len(o.Data)-1] })
	change("no bytes", func(o *api.Object) { o.Data = nil })
	change("a symbol more", func(o *api.Object) { o.Syms = append(o.Syms, api.Sym{}) })
	change("a symbol less", func(o *api.Object) { o.Syms = o.Syms[:len(o.Syms)-1] })
	change("no symbols", func(o *api.Object) { o.Syms = nil })
	change("two symbols turned", func(o *api.Object) { o.Syms[0], o.Syms[1] = o.Syms[1], o.Syms[0] })
	change("a relocation more", func(o *api.Object) { o.Rels = append(o.Rels, api.Rel{}) })
	change("a relocation less", func(o *api.Object) { o.Rels = o.Rels[:len(o.Rels)-1] })
	change("no relocations", func(o *api.Object) { o.Rels = nil })
	change("two relocations turned", func(o *api.Object) { o.Rels[0], o.Rels[1] = o.Rels[1], o.Rels[0] })
	return all
}

func isSame(t *testing.T, what string, a, b api.Object, want bool) {
	t.Helper()
	if x, y := obj.Same(a, b), obj.Same(b, a); x != want || y != want {
		t.Errorf("P5.1: %s: Same = %t, the other way %t, want %t", what, x, y, want)
	}
}

func TestSame(t *testing.T) {
	o := good(t)
	isSame(t, "one and itself", o, o, true)
	isSame(t, "two that are built alike", o, good(t), true)
	roomy := api.Object{Text: slices.Grow(clone(o).Text, 9), Data: slices.Grow(clone(o).Data, 99), Syms: slices.Grow(clone(o).Syms, 9), Rels: slices.Grow(clone(o).Rels, 9)}
	isSame(t, "one with spare room", o, roomy, true)
	for what, x := range changes(t) {
		isSame(t, what, o, x, false)
		isSame(t, what+", and itself again", x, clone(x), true)
		is(t, what, x, wantObject(x))
	}
}

func TestSameOfNothing(t *testing.T) {
	empty := api.Object{Text: []uint32{}, Data: []byte{}, Syms: []api.Sym{}, Rels: []api.Rel{}}
	isSame(t, "nil and nil", api.Object{}, api.Object{}, true)
	isSame(t, "empty and empty", empty, clone(empty), true)
	isSame(t, "nil and empty", api.Object{}, empty, true)
	for n := range 16 {
		var o api.Object
		if n&1 != 0 {
			o.Text = []uint32{}
		}
		if n&2 != 0 {
			o.Data = make([]byte, 0, 8)
		}
		if n&4 != 0 {
			o.Syms = []api.Sym{}
		}
		if n&8 != 0 {
			o.Rels = []api.Rel{}
		}
		isSame(t, "nil and partly empty"+line(n), api.Object{}, o, true)
		isSame(t, "empty and partly nil"+line(n), empty, o, true)
		isOne(t, "partly nil"+line(n), o)
	}
	for what, o := range map[string]api.Object{"a word 0": {Text: []uint32{0}}, "a byte 0": {Data: []byte{0}}, "a symbol of nothing": {Syms: []api.Sym{{}}}, "a relocation of nothing": {Rels: []api.Rel{{}}}} {
		isSame(t, "nil and "+what, api.Object{}, o, false)
		isSame(t, "empty and "+what, empty, o, false)
	}
}

// roomy is an object whose lists have room behind them that isn't theirs, and all of that room.
func roomy(t *testing.T, o api.Object) (part, all api.Object) {
	t.Helper()
	all = api.Object{
		Text: append(slices.Clone(o.Text), 0xeeeeeeee, 0xdddddddd),
		Data: append(slices.Clone(o.Data), 0xee, 0xdd, 0xcc, 0xbb, 0xaa, 0x99, 0x88, 0x77),
		Syms: append(slices.Clone(o.Syms), api.Sym{Name: "room", Sect: 1}, api.Sym{Name: "room", Sect: 9}),
		Rels: append(slices.Clone(o.Rels), api.Rel{Sect: 7, At: 7}, api.Rel{Sect: 1}),
	}
	part = api.Object{Text: all.Text[:len(o.Text)], Data: all.Data[:len(o.Data)], Syms: all.Syms[:len(o.Syms)], Rels: all.Rels[:len(o.Rels)]}
	return part, all
}

// What is handed in stays, the room behind it too, whether it is an object or none.
func TestWhatIsHandedInStays(t *testing.T) {
	none := good(t)
	none.Rels[6].Sym = 5
	twice := good(t)
	twice.Syms[4].Name = "main"
	for what, o := range map[string]api.Object{"good": good(t), "nothing": {}, "no object": none, "a name twice": twice} {
		part, all := roomy(t, o)
		kept := clone(all)
		obj.Check(part)
		obj.Print(part)
		obj.Same(part, o)
		obj.Same(o, part)
		obj.Same(part, api.Object{})
		if !equal(all, kept) || !equal(part, o) {
			t.Errorf("P5.3: %s: what was handed in is now\n%s", what, tell(all))
		}
	}
}

// The room behind lists isn't theirs: it is neither printed nor looked at.
func TestRoomBehindIsNotTheirs(t *testing.T) {
	part, _ := roomy(t, good(t))
	isOne(t, "with room behind", part)
	isSame(t, "with room behind", part, good(t), true)
}

// spoil changes all that o has, its spare room too.
func spoil(o api.Object) {
	words := o.Text[:cap(o.Text)]
	for n := range words {
		words[n] = 0x5555aaaa
	}
	bytes := o.Data[:cap(o.Data)]
	for n := range bytes {
		bytes[n] = 0x55
	}
	syms := o.Syms[:cap(o.Syms)]
	for n := range syms {
		syms[n] = api.Sym{Name: "spoilt", Sect: 5, Value: 5, Frame: 5, Global: true}
	}
	rels := o.Rels[:cap(o.Rels)]
	for n := range rels {
		rels[n] = api.Rel{Sect: 5, At: 5, Kind: 5, Sym: 5, Add: 5}
	}
}

func TestAnswersAreNewMemory(t *testing.T) {
	a, e := obj.Parse(goodText)
	b, f := obj.Parse(goodText)
	if e != api.OK || f != api.OK {
		t.Fatalf("P5.1: Parse: errors %d, %d", e, f)
	}
	spoil(a)
	if !equal(b, good(t)) {
		t.Error("P5.3: two answers share their memory")
	}
	if c, e := obj.Parse(goodText); !equal(c, good(t)) || e != api.OK {
		t.Errorf("P5.3: what is changed in an answer changes the next one, error %d", e)
	}
	s, _ := obj.Print(b)
	kept := strings.Clone(s)
	spoil(b)
	if s != kept {
		t.Error("P5.3: what is changed in what was handed in changes what was printed")
	}
	if again, e := obj.Print(good(t)); again != goodText || e != api.OK {
		t.Errorf("P5.3: what is changed changes the next text, error %d", e)
	}
}

// No list of an answer changes with another one of the same answer.
func TestListsOfAnAnswerAreApart(t *testing.T) {
	for n := range 4 {
		o, _ := obj.Parse(goodText)
		want := good(t)
		switch n {
		case 0:
			spoil(api.Object{Text: o.Text})
			o.Text = want.Text
		case 1:
			spoil(api.Object{Data: o.Data})
			o.Data = want.Data
		case 2:
			spoil(api.Object{Syms: o.Syms})
			o.Syms = want.Syms
		case 3:
			spoil(api.Object{Rels: o.Rels})
			o.Rels = want.Rels
		}
		if !equal(o, want) {
			t.Errorf("P5.3: list %d of an answer shares its memory with another", n)
		}
	}
}

// A text is in bytes that change behind the call: so it is seen whether a name is a piece of it.
func TestNamesAreNoPiecesOfTheText(t *testing.T) {
	b := []byte(goodText)
	o, e := obj.Parse(unsafe.String(&b[0], len(b)))
	if e != api.OK {
		t.Fatalf("P5.1: Parse: error %d", e)
	}
	for n := range b {
		b[n] = 'x'
	}
	if !equal(o, good(t)) {
		t.Errorf("P5.3: names are pieces of the text that was handed in: %v", o.Syms)
	}
}

// What is printed has nothing of a name's bytes.
func TestTextsAreNoPiecesOfNames(t *testing.T) {
	b := []byte("name")
	o := api.Object{Syms: []api.Sym{{Name: unsafe.String(&b[0], len(b)), Global: true}}}
	s, e := obj.Print(o)
	copy(b, "xxxx")
	if want := "object\ntext 0\ndata 0\nsyms 1\nname 0 0 0 1\nrels 0\nend\n"; s != want || e != api.OK {
		t.Errorf("P5.3: Print: %q, error %d", s, e)
	}
}

// An answer hangs on nothing that was asked ahead of it.
func TestAskedAgain(t *testing.T) {
	bad := good(t)
	bad.Data = bad.Data[:7]
	for range 3 {
		isOne(t, "asked again", good(t))
		isNone(t, "asked again", bad)
		isOne(t, "asked again", api.Object{})
		isNoText(t, "asked again", goodText[1:])
	}
}
