package link_test

import (
	"slices"
	"strconv"
	"strings"
	"testing"

	"solder/api"
)

// flaws are objects each of which is none for another reason.
func flaws() map[string]api.Object {
	all := map[string]api.Object{}
	flaw := func(what string, do func(o *api.Object)) {
		o := full(9)
		do(&o)
		all[what] = o
	}
	flaw("seven bytes of data", func(o *api.Object) { o.Data = o.Data[:7] })
	flaw("a name twice", func(o *api.Object) { o.Syms[1].Name = o.Syms[0].Name })
	flaw("a name of nothing", func(o *api.Object) { o.Syms[1].Name = "" })
	flaw("a Sect 3", func(o *api.Object) { o.Syms[1].Sect = 3 })
	flaw("a Sect below 0", func(o *api.Object) { o.Syms[1].Sect = -1 })
	flaw("a Value behind the text", func(o *api.Object) { o.Syms[1].Value = 4 })
	flaw("a Value below 0", func(o *api.Object) { o.Syms[2].Value = -1 })
	flaw("a Frame of 8", func(o *api.Object) { o.Syms[0].Frame = 8 })
	flaw("a relocation of no symbol", func(o *api.Object) { o.Rels[0].Sym = 3 })
	flaw("a relocation of a symbol below 0", func(o *api.Object) { o.Rels[1].Sym = -1 })
	flaw("a relocation behind the text", func(o *api.Object) { o.Rels[1].At = 3 })
	flaw("a relocation of a word that doesn't fit", func(o *api.Object) { o.Rels[1].Kind = api.RJal })
	flaw("a relocation of a word with an Imm", func(o *api.Object) { o.Text[1] |= 1 << 20 })
	flaw("a relocation of Kind 7", func(o *api.Object) { o.Rels[1].Kind = 7 })
	flaw("a relocation of Kind RWord in the text", func(o *api.Object) { o.Rels[1].Kind = api.RWord })
	flaw("a relocation of Sect 0", func(o *api.Object) { o.Rels[0].Sect = 0 })
	flaw("a relocation of half a word of data", func(o *api.Object) { o.Rels[2].At = 6 })
	flaw("a relocation behind the data", func(o *api.Object) { o.Rels[2].At = 8 })
	flaw("an Add that is too great", func(o *api.Object) { o.Rels[2].Add = 1 << 31 })
	flaw("an Add that is too small", func(o *api.Object) { o.Rels[2].Add = -1<<31 - 1 })
	flaw("relocations that don't rise", func(o *api.Object) { o.Rels[1], o.Rels[0] = o.Rels[0], o.Rels[1] })
	flaw("two relocations of one word", func(o *api.Object) { o.Rels[1] = o.Rels[0] })
	flaw("too many words", func(o *api.Object) { o.Text = append(o.Text, make([]uint32, api.MaxWords)...) })
	flaw("too many bytes", func(o *api.Object) { o.Data = append(o.Data, make([]byte, api.MaxData)...) })
	flaw("one byte beyond many", func(o *api.Object) { o.Data = make([]byte, api.MaxData+1) })
	return all
}

func TestNoObject(t *testing.T) {
	for what, none := range flaws() {
		holds(t, what+", alone", []api.Object{none}, refused(api.ErrForm))
		holds(t, what+", twice", []api.Object{none, none}, refused(api.ErrForm))
		for at := range 4 {
			objs := slices.Insert([]api.Object{mainAlone(1), full(1), full(2)}, at, none)
			holds(t, what+", at place "+strconv.Itoa(at), objs, refused(api.ErrForm))
		}
	}
}

func TestNamesDefinedTwice(t *testing.T) {
	main := mainAlone(1)
	for _, c := range []struct {
		what string
		a, b []api.Sym
	}{
		{"in texts", syms(text("x", 0)), syms(text("x", 0))},
		{"in data", syms(data("x", 0)), syms(own("y", 0), data("x", 8))},
		{"in a text and in data", syms(text("x", 0)), syms(data("x", 0))},
		{"main", syms(text("y", 0)), syms(text("main", 0))},
		{"main, in data", syms(text("y", 0)), syms(data("main", 0))},
		{"of 40 bytes", syms(text(strings.Repeat("n", 40), 0)), syms(text(strings.Repeat("n", 40), 0))},
	} {
		a := api.Object{Text: []uint32{1}, Data: make([]byte, 8), Syms: c.a}
		b := api.Object{Text: []uint32{2}, Data: make([]byte, 8), Syms: c.b}
		holds(t, "twice, "+c.what, []api.Object{main, a, b}, refused(api.ErrTwice))
		holds(t, "twice, "+c.what+", far apart", []api.Object{a, full(1), main, {}, b}, refused(api.ErrTwice))
		holds(t, "twice, "+c.what+", and wanted", []api.Object{a, {Syms: syms(wants("x"), wants("q"))}, main, b}, refused(api.ErrTwice))
	}
	for _, c := range []struct {
		what string
		a, b []api.Sym
	}{
		{"once Global", syms(text("x", 0)), syms(own("x", 0))},
		{"never Global", syms(own("x", 0)), syms(ownData("x", 0))},
		{"defined and wanted", syms(data("x", 0)), syms(wants("x"))},
		{"main, once Global", syms(own("main", 0)), syms(ownData("main", 0))},
	} {
		a := api.Object{Syms: c.a}
		b := api.Object{Syms: c.b}
		if want := asModel(t, c.what, []api.Object{a, main, b}); want.e != api.OK {
			t.Errorf("P9.1: a name, %s: error %d", c.what, want.e)
		}
	}
	holds(t, "an object twice", []api.Object{full(1), main, full(1)}, refused(api.ErrTwice))
}

func TestNamesThatNobodyDefines(t *testing.T) {
	main := mainAlone(1)
	for _, other := range []api.Object{{}, {Syms: syms(own("x", 0))}, {Syms: syms(ownData("x", 0))}, {Syms: syms(wants("x"))}, {Syms: syms(text("X", 0), data("x.", 0), text("xx", 0))}} {
		for _, o := range []api.Object{{Syms: syms(wants("x"))}, {Syms: syms(data("y", 0), wants("x"), text("z", 0))}} {
			holds(t, "nobody defines it", []api.Object{o, main, other}, refused(api.ErrNone))
			holds(t, "nobody defines it, nor main", []api.Object{other, {}, o}, refused(api.ErrNone))
		}
	}
	with := mainAlone(1)
	with.Syms = append(with.Syms, wants("x"))
	holds(t, "main's object wants it", []api.Object{with}, refused(api.ErrNone))
	holds(t, "main itself", []api.Object{{Syms: syms(wants("main"))}}, refused(api.ErrNone))
	holds(t, "main itself, that isn't Global elsewhere", []api.Object{{Syms: syms(own("main", 0))}, {Syms: syms(wants("main"))}}, refused(api.ErrNone))
}

func TestNoMain(t *testing.T) {
	for _, s := range []api.Sym{own("main", 0), ownData("main", 0), data("main", 0), text("Main", 0), text("main.", 0), text("_main", 0), text("mai", 0), text("mainn", 0), text("a", 0)} {
		holds(t, "no main: "+s.Name, []api.Object{{Text: []uint32{comeBack}, Syms: syms(s)}}, refused(api.ErrMain))
		holds(t, "no main among others: "+s.Name, []api.Object{full(1), {Text: []uint32{comeBack}, Syms: syms(text("z", 0), s)}, full(2)}, refused(api.ErrMain))
	}
	holds(t, "main in data, wanted", []api.Object{{Syms: syms(wants("main"))}, {Data: make([]byte, 8), Syms: syms(data("main", 8))}}, refused(api.ErrMain))
	holds(t, "no symbols", []api.Object{filler(3), {Data: make([]byte, 8)}}, refused(api.ErrMain))
}

// trouble is something that is wrong of objects, by the order in which errors are told.
type trouble struct {
	e    api.Errno
	with func(objs []api.Object) []api.Object
}

func troubles() []trouble {
	more := func(l ...api.Object) func([]api.Object) []api.Object {
		return func(objs []api.Object) []api.Object { return append(objs, l...) }
	}
	great := api.Object{Data: make([]byte, api.MaxData)}
	branch := api.Object{Text: []uint32{0x00000063}, Syms: syms(own("here", 0)), Rels: []api.Rel{rel(0, api.RBranch, 0, 4096)}}
	return []trouble{
		{api.ErrForm, more(api.Object{Data: make([]byte, 3)})},
		{api.ErrTwice, more(api.Object{Syms: syms(text("x", 0))}, api.Object{Syms: syms(data("x", 0))})},
		{api.ErrNone, more(api.Object{Syms: syms(wants("nobody"))})},
		{api.ErrMain, func(objs []api.Object) []api.Object { objs[0].Syms[0].Sect = 2; objs[0].Syms[0].Frame = 0; return objs }},
		{api.ErrLong, more(slices.Repeat([]api.Object{great}, 32)...)},
		{api.ErrFar, more(branch)},
	}
}

// All of them, by themselves, two at once and more: what comes first is told, wherever it stands.
func TestErrorsAtOnce(t *testing.T) {
	all := troubles()
	for set := 1; set < 1<<len(all); set++ {
		objs := []api.Object{mainAlone(1), full(1)}
		first, what := api.OK, "errors"
		for n, one := range all {
			if set>>n&1 == 0 {
				continue
			}
			if first == api.OK {
				first = one.e
			}
			objs = one.with(objs)
			what += " " + strconv.Itoa(int(one.e))
		}
		holds(t, what, objs, refused(first))
	}
	// The same in one object.
	o := full(1)
	o.Syms = append(o.Syms, wants("nobody"), text("x", 0))
	holds(t, "twice and nobody", []api.Object{{Syms: syms(text("x", 0))}, o}, refused(api.ErrTwice))
	holds(t, "nobody and no main", []api.Object{o}, refused(api.ErrNone))
	o.Rels[0].Sym = -1
	holds(t, "no object, twice, nobody and no main", []api.Object{{Syms: syms(text("x", 0))}, o}, refused(api.ErrForm))
}
