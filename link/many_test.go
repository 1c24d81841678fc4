package link_test

import (
	"encoding/binary"
	"math/rand"
	"strconv"
	"testing"

	"solder/api"
	"solder/helps"
)

// some is one of l.
func some[E any](source *rand.Rand, l ...E) E {
	return l[source.Intn(len(l))]
}

// someText are words that relocations patch, and others, with relocations of n symbols at some of those.
func someText(source *rand.Rand, o *api.Object) {
	kinds := map[uint32]int{0x000002b7: api.RHi, 0x00028313: api.RLoI, 0x0002b007: api.RLoI, 0x0072a023: api.RLoS, 0x000000ef: api.RJal, 0x00000063: api.RBranch}
	for at := range source.Intn(8) {
		w := some[uint32](source, 0x000002b7, 0x00028313, 0x0002b007, 0x0072a023, 0x000000ef, 0x00000063, 0xfedcba98, comeBack)
		o.Text = append(o.Text, w)
		if kind := kinds[w]; kind != 0 && len(o.Syms) > 0 && source.Intn(4) > 0 {
			o.Rels = append(o.Rels, rel(at, kind, source.Intn(len(o.Syms)), someAdd(source, kind)))
		}
	}
}

// someAdd is most often near and even, where a jump's is asked for; else it is any.
func someAdd(source *rand.Rand, kind int) int {
	if (kind == api.RJal || kind == api.RBranch) && source.Intn(20) > 0 {
		return some(source, 0, 0, 0, 4, -4, 8, 2, -100, 2000)
	}
	return some(source, 0, 0, 1, -1, 4, 2047, 2048, -2048, 4096, source.Intn(1<<20), -source.Intn(1<<20), 1<<31-1, -1<<31)
}

// someSymbols are of these names, each once; none of them is told twice by what is Global, but seldom.
func someSymbols(source *rand.Rand, o *api.Object, words int, defined map[string]bool) {
	for _, name := range []string{"a", "b", "main", "c", "d"} {
		s := some(source, text(name, source.Intn(words+1)), data(name, source.Intn(9)), own(name, 0), ownData(name, 4), wants(name), wants(name))
		if name == "main" && source.Intn(8) > 0 {
			s = text(name, 0)
		}
		if defines(s) && defined[name] && source.Intn(30) > 0 {
			s = wants(name)
		}
		if s.Sect == 0 && !defined[name] && source.Intn(8) > 0 || source.Intn(6) == 0 {
			continue
		}
		defined[name] = defined[name] || defines(s)
		o.Syms = append(o.Syms, s)
	}
	source.Shuffle(len(o.Syms), func(i, j int) { o.Syms[i], o.Syms[j] = o.Syms[j], o.Syms[i] })
}

// someObject has a bit of everything.
func someObject(source *rand.Rand, defined map[string]bool) api.Object {
	var o api.Object
	someSymbols(source, &o, 0, defined)
	someText(source, &o)
	for n := range o.Syms {
		if s := &o.Syms[n]; s.Sect == 1 {
			s.Value = source.Intn(len(o.Text) + 1)
		}
	}
	o.Data = make([]byte, 8+8*source.Intn(3))
	source.Read(o.Data)
	for at := 0; at < len(o.Data) && len(o.Syms) > 0; at += 4 {
		if source.Intn(3) == 0 {
			o.Rels = append(o.Rels, relData(at, source.Intn(len(o.Syms)), someAdd(source, api.RWord)))
		}
	}
	return o
}

// someObjects are most often linked; sometimes among them is what is no object, or much that has no name.
func someObjects(source *rand.Rand) []api.Object {
	defined := map[string]bool{}
	var objs []api.Object
	for range source.Intn(5) {
		objs = append(objs, someObject(source, defined))
	}
	switch source.Intn(40) {
	case 0:
		objs = append(objs, some(source, api.Object{Data: make([]byte, 5)}, api.Object{Syms: syms(wants(""))}))
	case 1:
		objs = append(objs, few(8+source.Intn(3), 65536, 0)...)
	case 2:
		objs = append(objs, few(some(source, 1, 2, 32, 40), 0, 65536)...)
	case 3, 4, 5, 6, 7, 8, 9, 10:
		objs = append(objs, filler(900+source.Intn(200)))
	}
	source.Shuffle(len(objs), func(i, j int) { objs[i], objs[j] = objs[j], objs[i] })
	return objs
}

// Many lists of objects, in other orders too, are held against the chapter told in another way.
func TestManyLists(t *testing.T) {
	source := rand.New(rand.NewSource(9))
	seen := map[api.Errno]int{}
	changed := 0
	for range 2000 {
		objs := someObjects(source)
		want := asModel(t, "some objects", objs)
		seen[want.e]++
		for _, order := range helps.Orders(len(objs), 3) {
			if want.e == api.OK && wantAnswer(helps.InOrder(objs, order)).e == api.ErrFar {
				changed++
				break
			}
		}
	}
	t.Logf("by errors: %v; %d are linked in some orders alone", seen, changed)
	for e, least := range map[api.Errno]int{api.OK: 500, api.ErrForm: 20, api.ErrTwice: 40, api.ErrNone: 200, api.ErrMain: 200, api.ErrLong: 5, api.ErrFar: 100} {
		if seen[e] < least {
			t.Errorf("%d of 2000 lists lead to error %d: the test is too much of another kind", seen[e], e)
		}
	}
	if changed < 10 {
		t.Errorf("%d of 2000 lists are linked in some orders alone: the test is too much of another kind", changed)
	}
}

// step is a function of a chain: it adds a word of data, by its address or by a pointer to it, and calls the next one.
func step(source *rand.Rand, n int, o *api.Object, last bool) {
	name := strconv.Itoa(n)
	at := len(o.Text)
	sym := func(s api.Sym) int {
		o.Syms = append(o.Syms, s)
		return len(o.Syms) - 1
	}
	sym(text("f"+name, at))
	x, kind := sym(wants("x"+name)), api.LW
	within := []api.Instr{{Op: api.LUI, Rd: 5}, {Op: kind, Rd: 6, Rs1: 5}}
	o.Rels = append(o.Rels, rel(at+2, api.RHi, x, 0), rel(at+3, api.RLoI, x, 0))
	if n%3 == 0 {
		within = append(within, api.Instr{Op: api.LW, Rd: 6, Rs1: 6})
	}
	within = append(within, api.Instr{Op: api.ADD, Rd: 10, Rs1: 10, Rs2: 6})
	if !last {
		next := sym(wants("f" + strconv.Itoa(n+1)))
		if source.Intn(2) == 0 {
			o.Rels = append(o.Rels, rel(at+2+len(within), api.RJal, next, 0))
			within = append(within, api.Instr{Op: api.JAL, Rd: 1})
		} else {
			o.Rels = append(o.Rels, rel(at+2+len(within), api.RHi, next, 0), rel(at+3+len(within), api.RLoI, next, 0))
			within = append(within, api.Instr{Op: api.LUI, Rd: 7}, api.Instr{Op: api.JALR, Rd: 1, Rs1: 7})
		}
	}
	o.Text = append(o.Text, calling(within...)...)
}

// variable is the word that the function n adds; with a pointer ahead of it, if the function goes by that.
func variable(source *rand.Rand, n int) (api.Object, uint32) {
	w := source.Uint32()
	name := strconv.Itoa(n)
	o := api.Object{Data: make([]byte, 8+8*source.Intn(3)), Syms: syms(data("x"+name, 0), ownData("w"+name, 4))}
	binary.LittleEndian.PutUint32(o.Data[4:], w)
	o.Rels = []api.Rel{relData(0, 1, 0)}
	if n%3 != 0 {
		o.Syms[0].Value, o.Syms[1].Value = 4, 0
	}
	return o, w
}

// Many chains of functions, each with a word of data, which stand in several objects; what is left is the sum.
func TestManyChains(t *testing.T) {
	source := rand.New(rand.NewSource(19))
	for range 150 {
		objs := make([]api.Object, 1+source.Intn(4))
		var variables []api.Object
		var sum uint32
		length := 1 + source.Intn(8)
		at := -1
		for n := range length {
			// No object has two functions next to each other in the chain: it would define and want the same name.
			next := source.Intn(len(objs))
			if next == at {
				objs = append(objs, api.Object{})
				next = len(objs) - 1
			}
			at = next
			step(source, n, &objs[at], n == length-1)
			if n == 0 {
				objs[at].Syms[0].Name = "main"
			}
			o, w := variable(source, n)
			variables = append(variables, o)
			sum += w
		}
		objs = append(objs, variables...)
		source.Shuffle(len(objs), func(i, j int) { objs[i], objs[j] = objs[j], objs[i] })
		halts(t, "a chain", objs, sum, 0)
	}
}
