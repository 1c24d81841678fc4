package machine_test

import (
	"math"
	"slices"
	"strconv"
	"testing"

	"solder/api"
)

// joined are lists of instructions, one behind the other.
func joined(l ...[]api.Instr) []api.Instr {
	return slices.Concat(l...)
}

func TestTheChaptersExample(t *testing.T) {
	m := loaded(t, 0, set(17, 3), api.Instr{Op: api.ECALL})
	isResult(t, "the example", m.Run(nil, 100), api.Result{State: api.Halted, Steps: 2})
}

func TestCallsThatPutOut(t *testing.T) {
	ecall := api.Instr{Op: api.ECALL}
	for _, w := range []uint32{0, 1, 7, lowest - 1, lowest, ones} {
		s := plain(ecall)
		s.words[17], s.words[10] = 1, w
		m, want := s.begin(t)
		isResult(t, "ECALL 1", m.Run([]uint32{5}, 1), api.Result{Steps: 1, Events: []api.Event{{Kind: 1, Word: w}}})
		want.place += 4
		isSeen(t, "ECALL 1", m, want)
	}
	for _, x := range []uint64{0, negZero, inf, negInf, theNaN, 1, math.Float64bits(-2.5)} {
		s := plain(ecall)
		s.words[17], s.reals[10] = 5, x
		m, want := s.begin(t)
		isResult(t, "ECALL 5", m.Run([]uint32{5}, 1), api.Result{Steps: 1, Events: []api.Event{{Kind: 2, Real: x}}})
		want.place += 4
		isSeen(t, "ECALL 5", m, want)
	}
	s := plain(ecall)
	s.words[17], s.reals[10] = 5, negInf|77
	m, _ := s.begin(t)
	isResult(t, "ECALL 5 of NaN", m.Run(nil, 1), api.Result{Steps: 1, Events: []api.Event{{Kind: 2, Real: theNaN}}})
}

func TestEventsAreInOrder(t *testing.T) {
	m := loaded(t, 0, joined(
		[]api.Instr{set(10, 4), {Op: api.FCVTDW, Rd: 10, Rs1: 10}}, call(1), call(5),
		[]api.Instr{set(10, -4), {Op: api.FNEG, Rd: 10, Rs1: 10}}, call(5), call(1), call(1), call(3))...)
	four := math.Float64bits(4)
	isResult(t, "events", m.Run(nil, 100), api.Result{State: api.Halted, Code: ones - 3, Steps: 16, Events: []api.Event{
		{Kind: 1, Word: 4}, {Kind: 2, Real: four}, {Kind: 2, Real: four | negZero}, {Kind: 1, Word: ones - 3}, {Kind: 1, Word: ones - 3},
	}})
}

func TestCallsThatTakeIn(t *testing.T) {
	for _, input := range [][]uint32{nil, {}, {0}, {7}, {ones, lowest}, {1, 2, 3}, {1, 2, 3, 4, 5}} {
		l := []api.Instr{set(17, 2)}
		for n := range 4 {
			l = append(l, set(10, 99), api.Instr{Op: api.ECALL}, api.Instr{Op: api.ADDI, Rd: 20 + n, Rs1: 10})
		}
		s := plain(l...)
		m, want := s.begin(t)
		isResult(t, "ECALL 2", m.Run(input, len(l)), api.Result{Steps: len(l)})
		want.place += uint32(4 * len(l))
		want.words[17] = 2
		for n := range 4 {
			want.words[20+n], want.words[10] = 0, 0
			if n < len(input) {
				want.words[20+n], want.words[10] = input[n], input[n]
			}
		}
		isSeen(t, "ECALL 2 of "+strconv.Itoa(len(input))+" words", m, want)
	}
}

// Each Run takes its input from its beginning on, whatever the Run ahead of it has taken.
func TestEachRunHasItsInput(t *testing.T) {
	m := loaded(t, 0, joined(call(2), call(2), call(2), call(2), call(2))...)
	for n, c := range []struct {
		input []uint32
		fuel  int
		want  uint32
	}{{[]uint32{5, 6}, 2, 5}, {[]uint32{5, 6}, 2, 5}, {[]uint32{7, 8}, 4, 8}, {nil, 2, 0}} {
		m.Run(c.input, c.fuel)
		if m.Word(10) != c.want {
			t.Errorf("P4.1: Run %d: register 10 is %d, want %d", n, m.Word(10), c.want)
		}
	}
}

func TestCallsThatEnd(t *testing.T) {
	ecall := api.Instr{Op: api.ECALL}
	for _, c := range []struct {
		n     uint32
		state int
	}{{3, api.Halted}, {4, api.NoStack}} {
		for _, w := range []uint32{0, 7, lowest, ones} {
			s := plain(ecall, set(5, 1), set(5, 2))
			s.words[17], s.words[10] = c.n, w
			m, want := s.begin(t)
			end := api.Result{State: c.state, Steps: 1}
			if c.state == api.Halted {
				end.Code = w
			}
			what := "ECALL " + strconv.Itoa(int(c.n))
			isResult(t, what, m.Run(nil, 10), end)
			want.place += 4
			isSeen(t, what, m, want)
			// No more steps are made, and it is as it was.
			end.Steps = 0
			for _, fuel := range []int{10, 1, 0, -1, math.MaxInt, math.MinInt} {
				isResult(t, what+", and on", m.Run([]uint32{3}, fuel), end)
				isSeen(t, what+", and on", m, want)
			}
		}
	}
}

func TestCallsThatAreNone(t *testing.T) {
	for _, n := range []uint32{0, 6, 7, 8, 10, 42, 93, 255, 256 + 1, 256 + 3, 1<<16 + 1, lowest, lowest + 1, lowest + 3, ones - 4, ones} {
		s := plain(api.Instr{Op: api.ECALL}, set(5, 1))
		s.words[17] = n
		s.fails(t, "ECALL "+strconv.Itoa(int(n)), api.BadCode)
	}
}

// What was put out ahead of a failure stays told, and the steps.
func TestFailureBehindEvents(t *testing.T) {
	put := joined([]api.Instr{set(10, 6)}, call(1))
	for _, c := range []struct {
		name  string
		l     []api.Instr
		state int
		steps int
	}{
		{"a call that is none", call(6), api.BadCode, 4},
		{"a load", []api.Instr{{Op: api.LW, Rd: 1, Imm: 2}}, api.BadPlace, 3},
		{"a store", []api.Instr{{Op: api.FSD, Imm: 4}}, api.BadPlace, 3},
		{"a place", []api.Instr{{Op: api.JAL, Imm: 2}}, api.BadPlace, 4},
		{"a place above the top", []api.Instr{{Op: api.JALR, Rs1: 2}}, api.BadPlace, 4},
		{"no code", []api.Instr{{Op: api.JALR, Rs1: 27}}, api.BadCode, 4},
		{"no stack", call(4), api.NoStack, 5},
	} {
		m := loaded(t, 16, joined(put, c.l)...)
		isResult(t, c.name, m.Run(nil, 50), api.Result{State: c.state, Steps: c.steps, Events: []api.Event{{Kind: 1, Word: 6}}})
		isResult(t, c.name+", and on", m.Run(nil, 50), api.Result{State: c.state})
	}
}

func TestPlacesThatAreNone(t *testing.T) {
	top := plain().top()
	for _, at := range []uint32{1, 2, 3, 5, triedAt + 1, triedAt + 2, triedAt + 3, top, top - 1, top - 2, top - 3, top + 1, top + 4, top + 400, 1 << 21, 1 << 30, lowest, ones - 3, ones - 1, ones} {
		// By JALR the lowest bit is 0: what has it comes from an Entry.
		m := load(t, api.Image{Entry: int(at), Bytes: plain(set(5, 1)).image(t)}, 64)
		want := see(t, m, int(top))
		for _, fuel := range []int{0, 1, 9} {
			end := api.Result{State: api.BadPlace}
			if fuel == 0 {
				end.State = api.Running // there was no step to fail
			}
			isResult(t, "place "+strconv.Itoa(int(at)), m.Run(nil, fuel), end)
			isSeen(t, "place "+strconv.Itoa(int(at)), m, want)
		}
	}
}

// The last place is the one whose four bytes end at the top, in the stack too.
func TestTheLastPlace(t *testing.T) {
	m := loaded(t, 0, set(1, 1), set(2, 2), set(3, 3), set(4, 4))
	isResult(t, "up to the top", m.Run(nil, 4), api.Result{Steps: 4})
	if m.Place() != 16 || m.Word(4) != 4 {
		t.Errorf("P4.1: the place is %d, register 4 is %d", m.Place(), m.Word(4))
	}
	isResult(t, "at the top", m.Run(nil, 4), api.Result{State: api.BadPlace})

	l := []api.Instr{{Op: api.LW, Rd: 5, Imm: 20}, {Op: api.SW, Rs1: 2, Rs2: 5, Imm: -4}, {Op: api.ADDI, Rd: 6, Rs1: 2, Imm: -4}, {Op: api.JALR, Rs1: 6}, {Op: api.ECALL}, set(7, 7)}
	m = loaded(t, 40, l...)
	isResult(t, "in the stack", m.Run(nil, 50), api.Result{State: api.BadPlace, Steps: 5})
	if m.Place() != 80 || m.Word(7) != 7 {
		t.Errorf("P4.1: the place is %d, register 7 is %d", m.Place(), m.Word(7))
	}
}

func TestWordsThatAreNoInstruction(t *testing.T) {
	for _, w := range []uint32{0, ones, 0x00100073, 0x00003003, 0x003110d3, 0x40001013, 0x02302033, 1, 0x13 ^ 1, 0x7f, 0x0000000f, lowest} {
		s := plain()
		b := s.image(t)
		for n := range 4 {
			b[triedAt+n] = byte(w >> (8 * n))
		}
		m := load(t, api.Image{Entry: triedAt, Bytes: b}, 64)
		want := see(t, m, int(s.top()))
		for range 2 {
			isResult(t, "the word "+strconv.FormatUint(uint64(w), 16), m.Run(nil, 3), api.Result{State: api.BadCode})
			isSeen(t, "the word "+strconv.FormatUint(uint64(w), 16), m, want)
		}
	}
}

// The lowest byte of a word stands first.
func TestTextIsReadTheLowestByteFirst(t *testing.T) {
	m := load(t, api.Image{Bytes: []byte{0x93, 0x02, 0xf0, 0xff, 0xff, 0xf0, 0x02, 0x93}}, 0)
	isResult(t, "two words", m.Run(nil, 5), api.Result{State: api.BadCode, Steps: 1})
	if m.Word(5) != ones || m.Place() != 4 {
		t.Errorf("P4.1: register 5 is %#x, the place %d", m.Word(5), m.Place())
	}
}

func TestFuel(t *testing.T) {
	l := []api.Instr{}
	for n := range 20 {
		l = append(l, set(5, n+1))
	}
	for _, fuel := range []int{math.MinInt, -1 << 32, -2, -1, 0, 1, 2, 7, 19, 20} {
		m := loaded(t, 0, joined(l, call(3))...)
		want := max(fuel, 0)
		isResult(t, "fuel "+strconv.Itoa(fuel), m.Run(nil, fuel), api.Result{Steps: want})
		if m.Place() != uint32(4*want) || m.Word(5) != uint32(want) {
			t.Errorf("P4.1: with fuel %d: the place is %d, register 5 is %d", fuel, m.Place(), m.Word(5))
		}
	}
	for _, fuel := range []int{22, 23, 100, 1 << 32, 1<<32 + 5, math.MaxInt} {
		m := loaded(t, 0, joined(l, call(3))...)
		isResult(t, "fuel "+strconv.Itoa(fuel), m.Run(nil, fuel), api.Result{State: api.Halted, Steps: 22})
	}
}

// A step that fails needs fuel to be tried, though it isn't counted.
func TestFuelUpToAFailure(t *testing.T) {
	for fuel := range 6 {
		m := loaded(t, 0, set(5, 1), set(5, 2), set(5, 3), api.Instr{Op: api.LW, Rd: 1, Imm: 1})
		want := api.Result{Steps: min(fuel, 3)}
		if fuel > 3 {
			want.State = api.BadPlace
		}
		isResult(t, "fuel "+strconv.Itoa(fuel), m.Run(nil, fuel), want)
	}
}

func TestALoopGoesOn(t *testing.T) {
	m := loaded(t, 0, api.Instr{Op: api.ADDI, Rd: 5, Rs1: 5, Imm: 1}, api.Instr{Op: api.JAL, Imm: -4})
	isResult(t, "a loop", m.Run(nil, 300001), api.Result{Steps: 300001})
	if m.Word(5) != 150001 || m.Place() != 4 {
		t.Errorf("P4.1: register 5 is %d, the place %d", m.Word(5), m.Place())
	}
}

// One function calls another one, with a frame each: what a linked image is like.
func TestAProgram(t *testing.T) {
	factorial := []api.Instr{
		{Op: api.JAL, Rd: 1, Imm: 12}, set(17, 3), {Op: api.ECALL},
		// main: what is read, with its factorial put out for each, until 0 is read.
		{Op: api.ADDI, Rd: 18, Rs1: 1}, set(17, 2), {Op: api.ECALL}, {Op: api.BEQ, Rs1: 10, Imm: 20},
		{Op: api.JAL, Rd: 1, Imm: 28}, set(17, 1), {Op: api.ECALL}, {Op: api.JAL, Imm: -24},
		{Op: api.FCVTDW, Rd: 10, Rs1: 18}, {Op: api.JALR, Rs1: 18}, {Op: api.JAL}, // 44
		// factorial: 1, or the word times that of the word less 1. (56)
		{Op: api.BEQ, Rs1: 10, Imm: 36}, {Op: api.ADDI, Rd: 2, Rs1: 2, Imm: -16}, {Op: api.SW, Rs1: 2, Rs2: 1, Imm: 12}, {Op: api.SW, Rs1: 2, Rs2: 10, Imm: 8},
		{Op: api.ADDI, Rd: 10, Rs1: 10, Imm: -1}, {Op: api.BLT, Rs1: 2, Rs2: 27, Imm: 24}, {Op: api.JAL, Rd: 1, Imm: -24}, {Op: api.LW, Rd: 5, Rs1: 2, Imm: 8}, {Op: api.JAL, Imm: 24},
		set(10, 1), {Op: api.JALR, Rs1: 1}, set(17, 4), {Op: api.ECALL}, {Op: api.JAL},
		{Op: api.MUL, Rd: 10, Rs1: 10, Rs2: 5}, {Op: api.LW, Rd: 1, Rs1: 2, Imm: 12}, {Op: api.ADDI, Rd: 2, Rs1: 2, Imm: 16}, {Op: api.JALR, Rs1: 1},
	}
	put := func(words ...uint32) (l []api.Event) {
		for _, w := range words {
			l = append(l, api.Event{Kind: 1, Word: w})
		}
		return l
	}
	for _, c := range []struct {
		stack int
		state int
		want  []api.Event
	}{{1000, api.Halted, put(1, 120, 3628800)}, {160, api.Halted, put(1, 120, 3628800)}, {144, api.NoStack, put(1, 120)}, {80, api.NoStack, put(1, 120)}, {64, api.NoStack, put(1)}, {0, api.NoStack, nil}} {
		r := loaded(t, c.stack, factorial...).Run([]uint32{1, 5, 10}, 10000)
		if r.State != c.state || r.Code != 0 || !slices.Equal(r.Events, c.want) {
			t.Errorf("P4.1: with %d bytes of stack: %v, want %d, %v", c.stack, r, c.state, c.want)
		}
	}
}
