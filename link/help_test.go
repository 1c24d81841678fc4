package link_test

import (
	"bytes"
	"encoding/binary"
	"slices"
	"strconv"
	"testing"

	"solder/api"
	"solder/code"
	"solder/helps"
	"solder/link"
)

// word is that of an instruction.
func word(i api.Instr) uint32 {
	w, e := code.Encode(i)
	if e != api.OK {
		panic("no instruction: error " + strconv.Itoa(int(e)))
	}
	return w
}

func words(l ...api.Instr) []uint32 {
	var all []uint32
	for _, i := range l {
		all = append(all, word(i))
	}
	return all
}

// The words with which most functions here end, and those of the start behind its JAL.
const (
	comeBack = 0x00008067 // JALR 0, 1, 0
	askHalt  = 0x00300893 // ADDI 17, 0, 3
	doHalt   = 0x00000073 // ECALL
)

// text is a symbol that defines a name in a text for all, data one in data.
func text(name string, value int) api.Sym {
	return api.Sym{Name: name, Sect: 1, Value: value, Frame: 16, Global: true}
}

func data(name string, value int) api.Sym {
	return api.Sym{Name: name, Sect: 2, Value: value, Global: true}
}

// own is one in a text that isn't Global, ownData one in data.
func own(name string, value int) api.Sym {
	return api.Sym{Name: name, Sect: 1, Value: value, Frame: 48}
}

func ownData(name string, value int) api.Sym {
	return api.Sym{Name: name, Sect: 2, Value: value}
}

// wants is one that another object defines.
func wants(name string) api.Sym {
	return api.Sym{Name: name, Global: true}
}

func syms(l ...api.Sym) []api.Sym {
	return l
}

// rel is a relocation of a text, relData one of data.
func rel(at, kind, sym, add int) api.Rel {
	return api.Rel{Sect: 1, At: at, Kind: kind, Sym: sym, Add: add}
}

func relData(at, sym, add int) api.Rel {
	return api.Rel{Sect: 2, At: at, Kind: api.RWord, Sym: sym, Add: add}
}

// mainAlone is an object that has a main, and nothing else: it leaves code in register 10.
func mainAlone(code int) api.Object {
	return api.Object{Text: words(api.Instr{Op: api.ADDI, Rd: 10, Imm: code}, api.Instr{Op: api.JALR, Rs1: 1}), Syms: syms(text("main", 0))}
}

// filler is n words and nothing else.
func filler(n int) api.Object {
	return api.Object{Text: make([]uint32, n)}
}

// fillers are n words in as many objects as these take, none of them greater than one may be.
func fillers(n int) []api.Object {
	var l []api.Object
	for ; n > api.MaxWords; n -= api.MaxWords {
		l = append(l, filler(api.MaxWords))
	}
	return append(l, filler(n))
}

// answer is what both calls answer.
type answer struct {
	image  api.Image
	e      api.Errno
	names  []link.Named
	namesE api.Errno
}

func ask(objs []api.Object) answer {
	var a answer
	a.image, a.e = link.Link(objs)
	a.names, a.namesE = link.Symbols(objs)
	return a
}

// linked is what is answered where nothing is wrong; refused, where something is.
func linked(bytes []byte, names ...link.Named) answer {
	return answer{image: api.Image{Bytes: bytes}, names: names}
}

func refused(e api.Errno) answer {
	return answer{e: e, namesE: e}
}

// same takes empty lists for nil.
func same(a, b answer) bool {
	return a.image.Entry == b.image.Entry && bytes.Equal(a.image.Bytes, b.image.Bytes) && a.e == b.e &&
		slices.Equal(a.names, b.names) && a.namesE == b.namesE
}

// image is the bytes of these words, and then these.
func image(words []uint32, more ...byte) []byte {
	var b []byte
	for _, w := range words {
		b = binary.LittleEndian.AppendUint32(b, w)
	}
	return append(b, more...)
}

// is says whether both calls answer of objs what is wanted.
func is(t *testing.T, promise, what string, objs []api.Object, want answer) {
	t.Helper()
	got := ask(objs)
	if got.image.Entry != want.image.Entry || got.e != want.e || !bytes.Equal(got.image.Bytes, want.image.Bytes) {
		t.Errorf("%s: %s: Link: Entry %d, error %d, want %d, %d; %s", promise, what, got.image.Entry, got.e, want.image.Entry, want.e, differ(got.image.Bytes, want.image.Bytes))
	}
	if got.namesE != want.namesE || !slices.Equal(got.names, want.names) {
		t.Errorf("%s: %s: Symbols: %v, error %d, want %v, %d", promise, what, helps.Brief(got.names), got.namesE, helps.Brief(want.names), want.namesE)
	}
}

// differ tells of the first word in which two images differ.
func differ(got, want []byte) string {
	s := strconv.Itoa(len(got)) + " bytes, want " + strconv.Itoa(len(want))
	for at := 0; at < min(len(got), len(want)); at += 4 {
		g, w := got[at:min(at+4, len(got))], want[at:min(at+4, len(want))]
		if !bytes.Equal(g, w) {
			return s + "; at " + strconv.Itoa(at) + " bytes " + hex(g) + ", want " + hex(w)
		}
	}
	return s
}

func hex(b []byte) string {
	s := ""
	for _, x := range b {
		s += " " + strconv.FormatUint(uint64(x)+256, 16)[1:]
	}
	return s
}

// holds says whether both calls answer what is wanted, and in other orders of the objects what may be answered then.
func holds(t *testing.T, what string, objs []api.Object, want answer) {
	t.Helper()
	if model := wantAnswer(objs); !same(model, want) {
		t.Fatalf("%s: the test's model says otherwise than the test: error %d, want %d; %v, want %v; %s",
			what, model.e, want.e, helps.Brief(model.names), helps.Brief(want.names), differ(model.image.Bytes, want.image.Bytes))
	}
	is(t, "P9.1", what, objs, want)
	for _, order := range helps.Orders(len(objs), 3) {
		moved := helps.InOrder(objs, order)
		inThis := what + ", in the order" + helps.Line(order)
		is(t, "P9.1", inThis, moved, wantAnswer(moved))
		goesWith(t, inThis, want, ask(moved))
	}
}

// asModel says so of objects of which the test itself tells nothing.
func asModel(t *testing.T, what string, objs []api.Object) answer {
	t.Helper()
	want := wantAnswer(objs)
	holds(t, what, objs, want)
	return want
}

// goesWith says whether got may be answered in another order, where a is answered in one.
func goesWith(t *testing.T, what string, a, got answer) {
	t.Helper()
	if got.e == api.ErrFar || a.e == api.ErrFar && got.e == api.OK {
		return
	}
	if a.e != got.e {
		t.Errorf("P9.2: %s: error %d, in another order %d", what, got.e, a.e)
		return
	}
	withoutAddress := func(l []link.Named) []link.Named {
		l = slices.Clone(l)
		for n := range l {
			l[n].Address = 0
		}
		return l
	}
	if len(a.image.Bytes) != len(got.image.Bytes) || !slices.Equal(withoutAddress(a.names), withoutAddress(got.names)) {
		t.Errorf("P9.2: %s: %d bytes, %v, in another order %d, %v", what, len(got.image.Bytes), helps.Brief(got.names), len(a.image.Bytes), helps.Brief(a.names))
	}
}
