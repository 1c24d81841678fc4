package obj_test

import (
	"math"
	"math/rand"
	"strconv"
	"testing"

	"solder/api"
	"solder/code"
)

func TestGood(t *testing.T) {
	is(t, "good", good(t), true)
	is(t, "nothing", api.Object{}, true)
	is(t, "nothing, in lists that are there", api.Object{Text: []uint32{}, Data: []byte{}, Syms: []api.Sym{}, Rels: []api.Rel{}}, true)
	is(t, "words alone", api.Object{Text: []uint32{0, 0xffffffff, 0x80000000, 1}}, true)
	is(t, "data alone", api.Object{Data: []byte{0, 1, 0x7f, 0x80, 0xfe, 0xff, 16, 15}}, true)
}

// full is an object with so much of everything; all its words may have a relocation.
func full(t *testing.T, words, data, syms, rels int) api.Object {
	t.Helper()
	var o api.Object
	for n := range words {
		o.Text = append(o.Text, word(t, api.Instr{Op: api.LUI, Rd: n % 32}))
	}
	o.Data = make([]byte, data)
	for at := range data {
		o.Data[at] = byte(at * 31)
	}
	for n := range syms {
		o.Syms = append(o.Syms, api.Sym{Name: "s" + strconv.Itoa(n), Sect: 2, Value: min(n, data)})
	}
	for n := range rels {
		r := api.Rel{Sect: 1, At: n, Kind: api.RHi, Sym: n % syms, Add: n - 1000}
		if n >= words {
			r.Sect, r.At, r.Kind = 2, 4*(n-words), api.RWord
		}
		o.Rels = append(o.Rels, r)
	}
	return o
}

func TestLimits(t *testing.T) {
	for _, c := range []struct {
		name                    string
		words, data, syms, rels int
		want                    bool
	}{
		{"the most words", 65536, 0, 0, 0, true},
		{"one word more", 65537, 0, 0, 0, false},
		{"twice the words", 131072, 0, 0, 0, false},
		{"the most data", 0, 65536, 0, 0, true},
		{"eight bytes more", 0, 65544, 0, 0, false},
		{"one byte more", 0, 65537, 0, 0, false},
		{"the most symbols", 0, 0, 600, 0, true},
		{"one symbol more", 0, 0, 601, 0, false},
		{"the most relocations, of words", 65536, 0, 1, 65536, true},
		{"the most relocations, of both", 60000, 65536, 5, 65536, true},
		{"one relocation more", 65536, 8, 1, 65537, false},
		{"one relocation more, of few words", 60000, 65536, 1, 65537, false},
		{"a relocation of each word of data", 0, 65536, 2, 16384, true},
		{"the most of all", 65536, 65536, 600, 65536, true},
		{"the most of all and a relocation", 65536, 65536, 600, 65537, false},
		{"the most of all and a symbol", 65536, 65536, 601, 65536, false},
		{"the most of all and a word", 65537, 65536, 600, 65536, false},
		{"the most of all and data", 65536, 65544, 600, 65536, false},
	} {
		is(t, c.name, full(t, c.words, c.data, c.syms, c.rels), c.want)
	}
}

func TestLengthsOfData(t *testing.T) {
	for n := range 50 {
		is(t, strconv.Itoa(n)+" bytes of data", full(t, 1, n, 1, 0), n%8 == 0)
	}
	for n := 65520; n < 65536; n++ {
		is(t, strconv.Itoa(n)+" bytes of data", full(t, 1, n, 1, 0), n%8 == 0)
	}
}

// withSymbol is an object of 3 words and 16 bytes with s and another one.
func withSymbol(s api.Sym) api.Object {
	return api.Object{Text: make([]uint32, 3), Data: make([]byte, 16), Syms: []api.Sym{{Name: "other", Global: true}, s}}
}

// far is beyond all words: what is cut to one takes it for 0.
const far = 1 << 32

// are says whether each of l is a symbol of its Sect, or not, among others and alone.
func are(t *testing.T, sect int, want bool, l ...api.Sym) {
	t.Helper()
	for _, s := range l {
		s.Name, s.Sect = "one", sect
		what := "a symbol" + line(s.Sect, s.Value, s.Frame)
		is(t, what, withSymbol(s), want)
		alone := withSymbol(s)
		alone.Syms = alone.Syms[1:]
		is(t, what+", alone", alone, want)
	}
}

func TestSymbolsOfElsewhere(t *testing.T) {
	are(t, 0, true, api.Sym{Global: true})
	are(t, 0, false,
		api.Sym{},
		api.Sym{Global: true, Value: 1},
		api.Sym{Global: true, Value: -1},
		api.Sym{Global: true, Value: far},
		api.Sym{Global: true, Frame: 16},
		api.Sym{Global: true, Frame: 1},
		api.Sym{Global: true, Frame: -16},
	)
}

func TestSymbolsOfTheText(t *testing.T) {
	for _, global := range []bool{false, true} {
		for _, value := range []int{0, 1, 2, 3} {
			for _, frame := range []int{0, 16, 32, 48, 1<<20 - 16, 1 << 20} {
				are(t, 1, true, api.Sym{Value: value, Frame: frame, Global: global})
			}
			for _, frame := range []int{1, 2, 4, 8, 15, 17, 24, 1<<20 - 8, 1<<20 - 1, 1<<20 + 1, 1<<20 + 16, 1 << 21, far, far + 16, -1, -8, -16, -32, math.MinInt, math.MaxInt - 15, math.MaxInt} {
				are(t, 1, false, api.Sym{Value: value, Frame: frame, Global: global})
			}
		}
		for _, value := range []int{4, 5, 16, far, far + 1, -1, -4, math.MaxInt, math.MinInt} {
			are(t, 1, false, api.Sym{Value: value, Global: global}, api.Sym{Value: value, Frame: 16, Global: global})
		}
	}
}

func TestSymbolsOfTheData(t *testing.T) {
	for _, global := range []bool{false, true} {
		for _, value := range []int{0, 1, 7, 8, 15, 16} {
			are(t, 2, true, api.Sym{Value: value, Global: global})
			for _, frame := range []int{1, 16, 1 << 20, -1, -16, far, math.MinInt} {
				are(t, 2, false, api.Sym{Value: value, Frame: frame, Global: global})
			}
		}
		for _, value := range []int{17, 24, far, far + 1, -1, -8, math.MaxInt, math.MinInt} {
			are(t, 2, false, api.Sym{Value: value, Global: global})
		}
	}
}

func TestSymbolsOfNoSect(t *testing.T) {
	for _, sect := range []int{3, 4, -1, far, far + 1, far + 2, math.MaxInt, math.MinInt} {
		are(t, sect, false, api.Sym{}, api.Sym{Global: true}, api.Sym{Value: 1}, api.Sym{Value: 1, Frame: 16, Global: true})
	}
}

func TestSymbolsOfNothing(t *testing.T) {
	for _, sect := range []int{1, 2} {
		is(t, "a symbol at the end of nothing", api.Object{Syms: []api.Sym{{Name: "a", Sect: sect}}}, true)
		is(t, "a symbol behind nothing", api.Object{Syms: []api.Sym{{Name: "a", Sect: sect, Value: 1}}}, false)
	}
}

func line(numbers ...int) string {
	s := ""
	for _, n := range numbers {
		s += " " + strconv.Itoa(n)
	}
	return s
}

func TestTwoSymbolsOfOneName(t *testing.T) {
	for _, c := range []struct {
		a, b string
		want bool
	}{
		{"a", "b", true}, {"a", "A", true}, {"a", "aa", true}, {"a", ".a", true}, {"a1", "a01", true}, {"_", ".", true},
		{"a", "a", false}, {"main", "main", false}, {".", ".", false}, {"Z9", "Z9", false},
	} {
		for _, x := range []api.Sym{{Name: c.a, Global: true}, {Name: c.a, Sect: 1}, {Name: c.a, Sect: 2, Value: 8}} {
			for _, y := range []api.Sym{{Name: c.b, Global: true}, {Name: c.b, Sect: 1, Frame: 16}, {Name: c.b, Sect: 2, Global: true}} {
				o := withSymbol(x)
				o.Syms = append(o.Syms, y)
				is(t, "two symbols "+c.a+" and "+c.b, o, c.want)
				o.Syms = []api.Sym{y, o.Syms[0], x}
				is(t, "two symbols "+c.b+" and "+c.a, o, c.want)
			}
		}
	}
	o := full(t, 0, 0, 600, 0)
	o.Syms[599].Name = "s0"
	is(t, "the first of 600 symbols and the last of one name", o, false)
}

// withRelocation is an object of that one word and 16 bytes with 3 symbols and r.
func withRelocation(w uint32, r api.Rel) api.Object {
	return api.Object{Text: []uint32{w}, Data: make([]byte, 16), Syms: []api.Sym{{Name: "a", Global: true}, {Name: "b", Sect: 1, Value: 1}, {Name: "c", Sect: 2, Value: 3}}, Rels: []api.Rel{r}}
}

// fitting is, by Op, the Kind that may be at it, where its Imm is 0.
func fitting() map[int]int {
	m := map[int]int{api.LUI: api.RHi, api.JAL: api.RJal}
	for _, op := range []int{api.ADDI, api.SLTI, api.SLTIU, api.XORI, api.ORI, api.ANDI, api.LB, api.LBU, api.LW, api.JALR, api.FLD} {
		m[op] = api.RLoI
	}
	for _, op := range []int{api.SB, api.SW, api.FSD} {
		m[op] = api.RLoS
	}
	for op := api.BEQ; op <= api.BGEU; op++ {
		m[op] = api.RBranch
	}
	return m
}

// kinds are those that there are, and what comes near them.
var kinds = []int{0, api.RHi, api.RLoI, api.RLoS, api.RJal, api.RBranch, api.RWord, 7, -1, 1<<32 + 1, math.MaxInt, math.MinInt}

// Each Kind is tried at each Op, with the Imm 0 and others.
func TestKindsAtInstructions(t *testing.T) {
	imms := []int{0, 1, -1, 2, -2, 4, 31, 2047, -2048, 4094, -4096, 1<<20 - 1, 1<<20 - 2, -1 << 20, 2048, 16}
	for op := api.ADD; op <= api.FCVTDW; op++ {
		for _, imm := range imms {
			if imm != 0 && !code.Fits(op, imm) {
				continue
			}
			w := someWord(t, op, imm)
			for _, kind := range kinds {
				want := imm == 0 && kind != 0 && fitting()[op] == kind
				is(t, "kind"+line(kind)+" at op"+line(op, imm), withRelocation(w, api.Rel{Sect: 1, Kind: kind}), want)
			}
		}
	}
}

// someWord is the word of op with this Imm, and with registers other than 0 where it has some.
func someWord(t *testing.T, op, imm int) uint32 {
	t.Helper()
	for _, i := range []api.Instr{{Op: op, Rd: 3, Rs1: 30, Rs2: 9, Imm: imm}, {Op: op, Rd: 3, Rs1: 30, Imm: imm}, {Op: op, Rs1: 30, Rs2: 9, Imm: imm}, {Op: op, Rd: 3, Imm: imm}} {
		if w, e := code.Encode(i); e == api.OK {
			return w
		}
	}
	return word(t, api.Instr{Op: op, Imm: imm})
}

// Words of all ops and f3, with one of the fields beside them not 0, or two: most of them are no instruction's.
func TestKindsAtWords(t *testing.T) {
	rests := []uint32{0, 1 << 7, 1 << 11, 0x1f << 7, 1 << 15, 0x1f << 15, 1 << 20, 0x1f << 20, 1 << 25, 0x20 << 25, 1 << 31, 0x7f << 25, 1<<20 | 1<<7, 1<<15 | 1<<20, 0xfff<<20 | 0x1f<<7}
	for op := range uint32(128) {
		for f3 := range uint32(8) {
			for _, rest := range rests {
				w := op | f3<<12 | rest
				fits := kindAt(w)
				if fits == 0 {
					isNone(t, "a relocation at a word that has none", withRelocation(w, api.Rel{Sect: 1, Kind: api.RHi + int(op+f3)%5}))
					continue
				}
				for kind := api.RHi; kind <= api.RWord; kind++ {
					is(t, "kind"+line(kind), withRelocation(w, api.Rel{Sect: 1, Kind: kind}), kind == fits)
				}
			}
		}
	}
	for _, w := range []uint32{0, 0xffffffff, 0x2b4, 0x2b5, 0x2b6, 0x100073, 7} {
		for _, kind := range kinds {
			is(t, "a relocation at a word that is no instruction's", withRelocation(w, api.Rel{Sect: 1, Kind: kind}), false)
		}
	}
}

// Registers are free: each word that has a Kind has it with all of them.
func TestKindsWithAllRegisters(t *testing.T) {
	for op, kind := range fitting() {
		for r := range 32 {
			for _, i := range []api.Instr{{Op: op, Rd: r}, {Op: op, Rs1: r}, {Op: op, Rs2: r}} {
				if w, e := code.Encode(i); e == api.OK {
					isOne(t, "kind"+line(kind)+" at op"+line(op), withRelocation(w, api.Rel{Sect: 1, Kind: kind}))
				}
			}
		}
	}
}

func TestSymsAndAdds(t *testing.T) {
	const lui = 0x2b7
	for _, r := range []api.Rel{{Sect: 1, Kind: api.RHi}, {Sect: 2, Kind: api.RWord, At: 12}} {
		for _, sym := range []int{0, 1, 2, 3, 4, -1, -2, 1 << 32, math.MaxInt, math.MinInt} {
			r := r
			r.Sym = sym
			is(t, "Sym"+line(sym), withRelocation(lui, r), sym >= 0 && sym <= 2)
			o := withRelocation(lui, r)
			o.Syms = nil
			is(t, "without symbols, Sym"+line(sym), o, false)
		}
		for _, add := range []int{0, 1, -1, 2048, -1 << 31, 1<<31 - 1, -1<<31 + 1, 1<<31 - 2} {
			r := r
			r.Add = add
			is(t, "Add"+line(add), withRelocation(lui, r), true)
		}
		for _, add := range []int{1 << 31, -1<<31 - 1, 1<<32 - 1, 1 << 32, -1 << 32, math.MaxInt, math.MinInt} {
			r := r
			r.Add = add
			is(t, "Add"+line(add), withRelocation(lui, r), false)
		}
	}
}

func TestPlacesOfRelocations(t *testing.T) {
	const lui = 0x2b7
	for _, at := range []int{0, 1, 2, -1, -4, 1 << 32, math.MaxInt, math.MinInt} {
		is(t, "in the text, At"+line(at), withRelocation(lui, api.Rel{Sect: 1, At: at, Kind: api.RHi}), at == 0)
	}
	o := withRelocation(lui, api.Rel{Sect: 1, Kind: api.RHi})
	o.Text = nil
	is(t, "in no text", o, false)
	for at := -9; at <= 33; at++ {
		is(t, "in the data, At"+line(at), withRelocation(lui, api.Rel{Sect: 2, At: at, Kind: api.RWord}), at == 0 || at == 4 || at == 8 || at == 12)
	}
	for _, at := range []int{1 << 32, math.MaxInt - 3, math.MaxInt, math.MinInt, math.MinInt + 4, 1<<32 + 4} {
		is(t, "in the data, At"+line(at), withRelocation(lui, api.Rel{Sect: 2, At: at, Kind: api.RWord}), false)
	}
	o = withRelocation(lui, api.Rel{Sect: 2, Kind: api.RWord})
	o.Data = nil
	is(t, "in no data", o, false)
	o = withRelocation(lui, api.Rel{Sect: 2, At: 65532, Kind: api.RWord})
	o.Data = make([]byte, 65536)
	is(t, "at the last word of the most data", o, true)
	o.Rels[0].At = 65536
	is(t, "behind the most data", o, false)
	for _, kind := range kinds {
		is(t, "in the data, kind"+line(kind), withRelocation(lui, api.Rel{Sect: 2, Kind: kind}), kind == api.RWord)
	}
	for _, sect := range []int{0, 3, -1, 1<<32 + 1, 1<<32 + 2, math.MaxInt, math.MinInt} {
		for _, kind := range kinds {
			is(t, "Sect"+line(sect), withRelocation(lui, api.Rel{Sect: sect, Kind: kind}), false)
		}
	}
}

func TestOrderOfRelocations(t *testing.T) {
	text := func(at int) api.Rel { return api.Rel{Sect: 1, At: at, Kind: api.RHi} }
	data := func(at int) api.Rel { return api.Rel{Sect: 2, At: at, Kind: api.RWord} }
	otherSym := func(r api.Rel) api.Rel { r.Sym, r.Add = 1, 9; return r }
	for _, c := range []struct {
		name string
		rels []api.Rel
		want bool
	}{
		{"none", nil, true},
		{"rising", []api.Rel{text(0), text(1), text(2), data(0), data(4), data(12)}, true},
		{"with gaps", []api.Rel{text(2), data(8)}, true},
		{"data at a lower place than text", []api.Rel{text(1), text(2), data(0)}, true},
		{"the same places in both", []api.Rel{text(0), data(0)}, true},
		{"two texts turned", []api.Rel{text(1), text(0)}, false},
		{"the last two texts turned", []api.Rel{text(0), text(2), text(1)}, false},
		{"two data turned", []api.Rel{data(4), data(0)}, false},
		{"data ahead of text", []api.Rel{data(0), text(0)}, false},
		{"data ahead of text at a higher place", []api.Rel{data(0), text(2)}, false},
		{"data between texts", []api.Rel{text(0), data(4), text(2)}, false},
		{"one twice", []api.Rel{text(1), text(1)}, false},
		{"one place twice", []api.Rel{text(1), otherSym(text(1))}, false},
		{"one place twice, behind others", []api.Rel{text(0), text(1), text(2), otherSym(text(2)), data(0)}, false},
		{"one place of data twice", []api.Rel{text(0), data(4), otherSym(data(4))}, false},
		{"one twice with another between", []api.Rel{text(0), text(1), text(0)}, false},
	} {
		is(t, "relocations "+c.name, api.Object{Text: []uint32{0x2b7, 0x2b7, 0x2b7}, Data: make([]byte, 16), Syms: []api.Sym{{Name: "a", Global: true}, {Name: "b", Sect: 2}}, Rels: c.rels}, c.want)
	}
}

// What is wrong is found wherever it stands.
func TestFaultsAtAllPlaces(t *testing.T) {
	o := full(t, 40, 64, 30, 50)
	isOne(t, "without a fault", o)
	for n := range o.Syms {
		o := clone(o)
		o.Syms[n].Frame = 16
		is(t, "a fault in symbol"+line(n), o, false)
	}
	for n := range o.Rels {
		o := clone(o)
		o.Rels[n].Sym = 30
		is(t, "a fault in relocation"+line(n), o, false)
		o.Rels[n].Sym = 0
		if n > 0 {
			o.Rels[n], o.Rels[n-1] = o.Rels[n-1], o.Rels[n]
			is(t, "turned relocations"+line(n-1, n), o, false)
		}
	}
	for n := range o.Text {
		o := clone(o)
		o.Text[n] |= 1 << 12
		is(t, "another Imm in word"+line(n), o, false)
	}
}

// anyNumber is some number, most often one at an edge.
func anyNumber(source *rand.Rand) int {
	edges := []int{0, 1, 2, 3, 4, 5, 6, 7, 8, 12, 16, 32, -1, -4, 1 << 20, 1<<31 - 1, 1 << 31, -1 << 31, -1<<31 - 1, math.MaxInt, math.MinInt}
	if source.Intn(4) == 0 {
		return source.Intn(40)
	}
	return edges[source.Intn(len(edges))]
}

// turn changes one thing in o.
func turn(source *rand.Rand, o *api.Object) {
	s, r := &o.Syms[source.Intn(len(o.Syms))], &o.Rels[source.Intn(len(o.Rels))]
	numbers := []*int{&s.Sect, &s.Value, &s.Frame, &r.Sect, &r.At, &r.Kind, &r.Sym, &r.Add}
	switch n := source.Intn(len(numbers) + 7); n {
	default:
		*numbers[n] = anyNumber(source)
	case 8:
		s.Global = !s.Global
	case 9:
		s.Name = []string{"", "a", "main", ".L0", "9", "x-", "Z", "putw"}[source.Intn(8)]
	case 10:
		o.Text[source.Intn(len(o.Text))] ^= 1 << source.Intn(32)
	case 11:
		o.Text = o.Text[:source.Intn(len(o.Text))+1]
	case 12:
		o.Data = o.Data[:source.Intn(len(o.Data)+1)]
	case 13:
		at := source.Intn(len(o.Rels))
		o.Rels = append(o.Rels[:at:at], o.Rels[max(at, source.Intn(len(o.Rels))):]...)
	case 14:
		o.Syms = o.Syms[:source.Intn(len(o.Syms))+1]
	}
}

// Objects with one thing changed, or two, are held against the chapter told in another way.
func TestManyObjects(t *testing.T) {
	source := rand.New(rand.NewSource(5))
	ones := 0
	for range 30000 {
		o := clone(good(t))
		for n := source.Intn(2); n >= 0 && len(o.Rels) > 0; n-- {
			turn(source, &o)
		}
		want := wantObject(o)
		if want {
			ones++
		}
		is(t, "a changed object", o, want)
	}
	if ones < 3000 || ones > 27000 {
		t.Errorf("%d of 30000 are objects: the test is too much of one kind", ones)
	}
}
