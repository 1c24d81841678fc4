package link_test

import (
	"encoding/binary"
	"slices"
	"strconv"
	"testing"

	"solder/api"
	"solder/helps"
	"solder/link"
	"solder/machine"
)

// loaded is a machine with the image of objs.
func loaded(t *testing.T, what string, objs []api.Object) *machine.Machine {
	t.Helper()
	i, e := link.Link(objs)
	if e != api.OK {
		t.Fatalf("P9.3: %s: error %d", what, e)
	}
	m, e := machine.Load(i, 4096)
	if e != api.OK {
		t.Fatalf("P9.3: %s: Load: error %d", what, e)
	}
	return m
}

// halts says whether what is loaded halts with code, behind so many steps (unless they are 0), in all orders.
func halts(t *testing.T, what string, objs []api.Object, code uint32, steps int, events ...api.Event) {
	t.Helper()
	asModel(t, what, objs)
	for _, order := range helps.Orders(len(objs), 3) {
		r := loaded(t, what, helps.InOrder(objs, order)).Run(nil, 100000)
		if r.State != api.Halted || r.Code != code || !slices.Equal(r.Events, events) || steps != 0 && r.Steps != steps {
			t.Errorf("P9.3: %s, in the order%s: %v, want code %d, %d steps, %v", what, helps.Line(order), r, code, steps, events)
		}
	}
}

func TestMainIsCalled(t *testing.T) {
	halts(t, "the chapter's example", []api.Object{mainAlone(7)}, 7, 5)
	for _, code := range []int{0, 1, -1, 2047, -2048} {
		halts(t, "a code", []api.Object{mainAlone(code)}, uint32(code), 5)
		halts(t, "a code, among others", []api.Object{filler(3), mainAlone(code), full(1)}, uint32(code), 5)
	}
	halts(t, "nothing left", []api.Object{{Text: []uint32{comeBack}, Syms: syms(text("main", 0))}}, 0, 4)
	great := api.Object{Text: words(api.Instr{Op: api.LUI, Rd: 10, Imm: 0xfedcb}, api.Instr{Op: api.ADDI, Rd: 10, Rs1: 10, Imm: -0x568}, api.Instr{Op: api.JALR, Rs1: 1}), Syms: syms(text("main", 0))}
	halts(t, "a great word", []api.Object{great}, 0xfedcaa98, 6)
	// Other registers, that of the ECALL among them, are as main will.
	other := api.Object{Text: words(api.Instr{Op: api.ADDI, Rd: 17, Imm: 1}, api.Instr{Op: api.ADDI, Rd: 11, Imm: 9}, api.Instr{Op: api.ADDI, Rd: 10, Imm: 5}, api.Instr{Op: api.JALR, Rs1: 1}), Syms: syms(text("main", 0))}
	halts(t, "other registers", []api.Object{other}, 5, 7)
}

// The first step leads to main, with the way back in register 1.
func TestWayIntoMain(t *testing.T) {
	for ahead := range 5 {
		o := mainAlone(1)
		o.Text = append(make([]uint32, ahead), o.Text...)
		o.Syms[0].Value = ahead
		m := loaded(t, "main behind words", []api.Object{filler(3), o})
		if m.Place() != 0 {
			t.Errorf("P9.1: main behind words: it begins at %d", m.Place())
		}
		r := m.Run(nil, 1)
		if r.State != api.Running || int(m.Place()) != 24+4*ahead || m.Word(1) != 4 {
			t.Errorf("P9.3: main behind words: %v, comes to %d, and keeps %d", r, m.Place(), m.Word(1))
		}
		if r = m.Run(nil, 2); m.Place() != 4 || r.State != api.Running {
			t.Errorf("P9.3: main behind words: %v, comes back to %d", r, m.Place())
		}
	}
}

// Where main doesn't come back, nothing halts for it.
func TestMainThatStays(t *testing.T) {
	loops := api.Object{Text: words(api.Instr{Op: api.JAL}), Syms: syms(text("main", 0))}
	if r := loaded(t, "a loop", []api.Object{loops}).Run(nil, 1000); r.State != api.Running || r.Steps != 1000 {
		t.Errorf("P9.3: a loop: %v", r)
	}
	none := api.Object{Syms: syms(text("main", 0))}
	if r := loaded(t, "no words", []api.Object{none}).Run(nil, 1000); r.State != api.BadCode || r.Steps != 1 {
		t.Errorf("P9.3: no words: %v", r)
	}
	own := api.Object{Text: words(api.Instr{Op: api.ADDI, Rd: 10, Imm: 9}, api.Instr{Op: api.ADDI, Rd: 17, Imm: 3}, api.Instr{Op: api.ECALL}), Syms: syms(text("main", 0))}
	halts(t, "a main that halts itself", []api.Object{own}, 9, 4)
}

// enter and leave are what stands around a function that calls others.
func enter() []api.Instr {
	return []api.Instr{{Op: api.ADDI, Rd: 2, Rs1: 2, Imm: -16}, {Op: api.SW, Rs1: 2, Rs2: 1}}
}

func leave() []api.Instr {
	return []api.Instr{{Op: api.LW, Rd: 1, Rs1: 2}, {Op: api.ADDI, Rd: 2, Rs1: 2, Imm: 16}, {Op: api.JALR, Rs1: 1}}
}

// calling is a function that has these instructions within, the second word behind enter being place 2.
func calling(within ...api.Instr) []uint32 {
	return words(slices.Concat(enter(), within, leave())...)
}

func add(n int) api.Instr {
	return api.Instr{Op: api.ADDI, Rd: 10, Rs1: 10, Imm: n}
}

func TestFunctionsOfOthers(t *testing.T) {
	call := api.Instr{Op: api.JAL, Rd: 1}
	main := api.Object{Text: calling(add(1), call, call, add(2)), Syms: syms(wants("f"), text("main", 0), wants("g")), Rels: []api.Rel{rel(3, api.RJal, 0, 0), rel(4, api.RJal, 2, 0)}}
	f := api.Object{Text: append([]uint32{0}, calling(add(10), call)...), Syms: syms(text("f", 1), wants("g")), Rels: []api.Rel{rel(4, api.RJal, 1, 0)}}
	g := api.Object{Text: words(add(100), api.Instr{Op: api.JALR, Rs1: 1}), Syms: syms(text("g", 0))}
	halts(t, "functions of others", []api.Object{main, f, g}, 213, 0)
	// Four bytes behind its begin, by an Add, g does nothing.
	main.Rels[1].Add = 4
	halts(t, "a function of another, behind its begin", []api.Object{main, f, g}, 113, 0)
}

// By LUI and JALR a function is reached wherever it is.
func TestFunctionsFarAway(t *testing.T) {
	within := []api.Instr{{Op: api.LUI, Rd: 5}, {Op: api.JALR, Rd: 1, Rs1: 5}, add(1)}
	main := api.Object{Text: calling(within...), Syms: syms(text("main", 0), wants("f")), Rels: []api.Rel{rel(2, api.RHi, 1, 0), rel(3, api.RLoI, 1, 0)}}
	f := api.Object{Text: words(add(40), api.Instr{Op: api.JALR, Rs1: 1}), Syms: syms(text("f", 0))}
	for _, words := range []int{0, 500, 510, 1000, 1020, 5000, 400000} {
		r := loaded(t, "a function far away", among([]api.Object{main}, words, f)).Run(nil, 1000)
		if r.State != api.Halted || r.Code != 41 {
			t.Errorf("P9.3: a function behind %d words: %v", words, r)
		}
	}
}

// A sum of words, a real and a byte that stand in other objects, and a word that is put into one.
func TestDataOfOthers(t *testing.T) {
	lui := api.Instr{Op: api.LUI, Rd: 5}
	main := api.Object{
		Text: words(
			lui, api.Instr{Op: api.LW, Rd: 10, Rs1: 5},
			lui, api.Instr{Op: api.LBU, Rd: 6, Rs1: 5}, api.Instr{Op: api.ADD, Rd: 10, Rs1: 10, Rs2: 6},
			lui, api.Instr{Op: api.FLD, Rd: 3, Rs1: 5}, api.Instr{Op: api.FCVTWD, Rd: 6, Rs1: 3}, api.Instr{Op: api.ADD, Rd: 10, Rs1: 10, Rs2: 6},
			lui, api.Instr{Op: api.SW, Rs1: 5, Rs2: 10}, api.Instr{Op: api.JALR, Rs1: 1}),
		Syms: syms(text("main", 0), wants("w"), wants("r")),
		Rels: []api.Rel{
			rel(0, api.RHi, 1, 4), rel(1, api.RLoI, 1, 4), rel(2, api.RHi, 1, 1), rel(3, api.RLoI, 1, 1),
			rel(5, api.RHi, 2, 0), rel(6, api.RLoI, 2, 0), rel(9, api.RHi, 2, 8), rel(10, api.RLoS, 2, 8),
		},
	}
	w := api.Object{Text: make([]uint32, 3), Data: []byte{0, 200, 0, 0, 0xa0, 0x86, 1, 0}, Syms: syms(data("w", 0))}
	r := api.Object{Data: make([]byte, 24), Syms: syms(data("r", 8))}
	binary.LittleEndian.PutUint64(r.Data[8:], 0x40a7700000000000) // 3000.0
	for _, zeros := range []int{0, 8, 1000, 2000, 2008, 4000, 65536} {
		objs := []api.Object{main, w, {Data: make([]byte, zeros)}, r}
		halts(t, "data of others", objs, 103200, 0)
		m := loaded(t, "data of others", objs)
		m.Run(nil, 1000)
		names, _ := link.Symbols(objs)
		at := names[1].Address + 8 // main, r, w
		if b, e := m.Bytes(int(at), 4); names[1].Name != "r" || e != api.OK || binary.LittleEndian.Uint32(b) != 103200 {
			t.Errorf("P9.3: data of others: put there is %x, error %d", b, e)
		}
	}
}

// A table of functions, of other objects and its own, of which one is called.
func TestTablesOfFunctions(t *testing.T) {
	table := api.Object{Text: words(add(30), api.Instr{Op: api.JALR, Rs1: 1}), Data: make([]byte, 16), Syms: syms(data("table", 0), text("h", 0), wants("f"), wants("g"))}
	table.Rels = []api.Rel{relData(0, 2, 0), relData(4, 3, 0), relData(8, 1, 0), relData(12, 3, 4)}
	fg := api.Object{Text: words(add(10), api.Instr{Op: api.JALR, Rs1: 1}, add(20), add(5), api.Instr{Op: api.JALR, Rs1: 1}), Syms: syms(text("f", 0), text("g", 2))}
	for n, code := range []uint32{10, 25, 30, 5} {
		main := api.Object{
			Text: calling(api.Instr{Op: api.LUI, Rd: 5}, api.Instr{Op: api.LW, Rd: 5, Rs1: 5}, api.Instr{Op: api.JALR, Rd: 1, Rs1: 5}),
			Syms: syms(wants("table"), text("main", 0)),
			Rels: []api.Rel{rel(2, api.RHi, 0, 4*n), rel(3, api.RLoI, 0, 4*n)},
		}
		halts(t, "a table of functions, entry "+strconv.Itoa(n), []api.Object{table, fg, main}, code, 0)
	}
}

// Two functions of two objects call each other, one with a branch into the other's text.
func TestFunctionsThatCallEachOther(t *testing.T) {
	part := func(name, other string, code int) api.Object {
		return api.Object{
			Text: words(api.Instr{Op: api.BEQ, Rs1: 10}, api.Instr{Op: api.ADDI, Rd: 10, Rs1: 10, Imm: -1}, api.Instr{Op: api.JAL}, api.Instr{Op: api.ADDI, Rd: 10, Imm: code}, api.Instr{Op: api.JALR, Rs1: 1}),
			Syms: syms(text(name, 0), own("zero", 3), wants(other)),
			Rels: []api.Rel{rel(0, api.RBranch, 1, 0), rel(2, api.RJal, 2, 0)},
		}
	}
	for n := range 6 {
		main := api.Object{Text: words(add(n), api.Instr{Op: api.BNE, Rs1: 0, Rs2: 2}, add(500)), Syms: syms(text("main", 0), wants("even")), Rels: []api.Rel{rel(1, api.RBranch, 1, 0)}}
		halts(t, "functions that call each other", []api.Object{main, part("even", "odd", 70), part("odd", "even", 71)}, uint32(70+n%2), 0)
	}
}

func TestWhatMainPutsOut(t *testing.T) {
	put := []api.Instr{{Op: api.ADDI, Rd: 17, Imm: 1}, {Op: api.ECALL}, {Op: api.JALR, Rs1: 1}}
	main := api.Object{Text: calling(add(3), api.Instr{Op: api.JAL, Rd: 1}, add(1), api.Instr{Op: api.JAL, Rd: 1}, add(1)), Syms: syms(wants("put"), text("main", 0)), Rels: []api.Rel{rel(3, api.RJal, 0, 0), rel(5, api.RJal, 0, 0)}}
	halts(t, "what main puts out", []api.Object{main, {Text: words(put...), Syms: syms(text("put", 0))}}, 5, 0, api.Event{Kind: 1, Word: 3}, api.Event{Kind: 1, Word: 4})
}
