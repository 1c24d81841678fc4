package machine_test

import (
	"bytes"
	"math"
	"slices"
	"testing"

	"solder/api"
	"solder/code"
	"solder/machine"
)

const (
	theNaN  = uint64(0x7ff8) << 48
	negZero = uint64(1) << 63
	inf     = uint64(0x7ff) << 52
	negInf  = uint64(0xfff) << 52

	lowest = uint32(1) << 31 // means -2^31
	ones   = uint32(1<<32 - 1)
)

// Instructions and words are asked for again and again: once found, they are kept, since package code takes its time.
var (
	words  = map[api.Instr]coded{}
	instrs = map[uint32]coded{}
)

type coded struct {
	w uint32
	i api.Instr
	e api.Errno
}

func encoded(i api.Instr) (uint32, api.Errno) {
	c, is := words[i]
	if !is {
		c.w, c.e = code.Encode(i)
		words[i] = c
	}
	return c.w, c.e
}

func decoded(w uint32) (api.Instr, api.Errno) {
	c, is := instrs[w]
	if !is {
		c.i, c.e = code.Decode(w)
		instrs[w] = c
	}
	return c.i, c.e
}

// text are the bytes of instructions.
func text(t *testing.T, l ...api.Instr) []byte {
	t.Helper()
	var b []byte
	for _, i := range l {
		w, e := encoded(i)
		if e != api.OK {
			t.Fatalf("Encode(%v): error %d", i, e)
		}
		b = append(b, byte(w), byte(w>>8), byte(w>>16), byte(w>>24))
	}
	return b
}

// load asks for a machine that must be one.
func load(t *testing.T, i api.Image, stack int) *machine.Machine {
	t.Helper()
	m, e := machine.Load(i, stack)
	if m == nil || e != api.OK {
		t.Fatalf("P4.1: Load(Entry %d, %d bytes; %d): %v, error %d", i.Entry, len(i.Bytes), stack, m, e)
	}
	return m
}

// loaded is a machine with these instructions from address 0 on, where it begins.
func loaded(t *testing.T, stack int, l ...api.Instr) *machine.Machine {
	t.Helper()
	return load(t, api.Image{Bytes: text(t, l...)}, stack)
}

// set is ADDI with a small word.
func set(rd, n int) api.Instr {
	return api.Instr{Op: api.ADDI, Rd: rd, Imm: n}
}

// call is an ECALL with this in register 17.
func call(n int) []api.Instr {
	return []api.Instr{set(17, n), {Op: api.ECALL}}
}

// isResult says whether r is that.
func isResult(t *testing.T, what string, r, want api.Result) {
	t.Helper()
	if r.State != want.State || r.Code != want.Code || r.Steps != want.Steps || !slices.Equal(r.Events, want.Events) {
		t.Errorf("P4.1: %s: %v, want %v", what, r, want)
	}
}

// seen is all that can be seen of a machine.
type seen struct {
	words  [32]uint32
	reals  [32]uint64
	place  uint32
	memory []byte
}

// see looks at m, which has so many bytes below its top.
func see(t *testing.T, m *machine.Machine, top int) seen {
	t.Helper()
	s := seen{place: m.Place()}
	for r := range 32 {
		s.words[r], s.reals[r] = m.Word(r), m.Real(r)
	}
	b, e := m.Bytes(0, top)
	if e != api.OK {
		t.Fatalf("P4.1: Bytes(0, %d): error %d", top, e)
	}
	s.memory = b
	return s
}

// isSeen says in what m isn't as told.
func isSeen(t *testing.T, what string, m *machine.Machine, want seen) {
	t.Helper()
	got := see(t, m, len(want.memory))
	for r := range 32 {
		if got.words[r] != want.words[r] {
			t.Errorf("P4.1: %s: word %d is %#x, want %#x", what, r, got.words[r], want.words[r])
		}
		if got.reals[r] != want.reals[r] {
			t.Errorf("P4.1: %s: real %d is %#x, want %#x", what, r, got.reals[r], want.reals[r])
		}
	}
	if got.place != want.place {
		t.Errorf("P4.1: %s: the place is %#x, want %#x", what, got.place, want.place)
	}
	for at := range want.memory {
		if got.memory[at] != want.memory[at] {
			t.Errorf("P4.1: %s: byte %#x is %#x, want %#x", what, at, got.memory[at], want.memory[at])
			return
		}
	}
}

// clone is s with a memory of its own.
func (s seen) clone() seen {
	s.memory = bytes.Clone(s.memory)
	return s
}

// Where a scene's image has what: the words and the reals that its first steps load, these steps, and what is tried.
const (
	wordsAt = 0
	realsAt = 128
	firstAt = 384
	triedAt = 640
	floorAt = 1024
)

// scene is a machine with registers of our choice, ahead of what is tried: instructions from triedAt on.
type scene struct {
	words [32]uint32
	reals [32]uint64
	stack int
	tried []api.Instr
}

// plain is a scene whose registers all have something else in them.
func plain(tried ...api.Instr) scene {
	s := scene{stack: 64, tried: tried}
	for r := range 32 {
		s.words[r] = 0x01010101 * uint32(r)
		s.reals[r] = math.Float64bits(float64(r) + 0.25)
	}
	s.words[2], s.words[27] = s.top(), floorAt
	return s
}

func (s scene) top() uint32 {
	return uint32(floorAt + (s.stack+15)/16*16)
}

// image are the scene's bytes: with what isn't told filled up, so that it is seen if it changes.
func (s scene) image(t *testing.T) []byte {
	t.Helper()
	b := make([]byte, floorAt)
	for at := range b {
		b[at] = byte(at*7 + 3)
	}
	first := []api.Instr{}
	for r := range 32 {
		for n := range 4 {
			b[wordsAt+4*r+n] = byte(s.words[r] >> (8 * n))
		}
		for n := range 8 {
			b[realsAt+8*r+n] = byte(s.reals[r] >> (8 * n))
		}
		first = append(first, api.Instr{Op: api.FLD, Rd: r, Imm: realsAt + 8*r})
		if r > 0 {
			first = append(first, api.Instr{Op: api.LW, Rd: r, Imm: wordsAt + 4*r})
		}
	}
	first = append(first, api.Instr{Op: api.JAL, Imm: triedAt - firstAt - 4*len(first)})
	copy(b[firstAt:], text(t, first...))
	copy(b[triedAt:], text(t, s.tried...))
	return b
}

// begin is the machine at triedAt, and how it must look there.
func (s scene) begin(t *testing.T) (*machine.Machine, seen) {
	t.Helper()
	b := s.image(t)
	m := load(t, api.Image{Entry: firstAt, Bytes: b}, s.stack)
	isResult(t, "the first steps of a scene", m.Run(nil, 64), api.Result{Steps: 64})
	want := seen{words: s.words, reals: s.reals, place: triedAt, memory: make([]byte, s.top())}
	want.words[0] = 0
	for r := range 32 {
		if math.IsNaN(math.Float64frombits(want.reals[r])) {
			want.reals[r] = theNaN
		}
	}
	copy(want.memory, b)
	isSeen(t, "the beginning of a scene", m, want)
	return m, want
}

// does says whether the first step of what is tried changes what the scene shows as told, and the place behind it
// alone, unless change says otherwise.
func (s scene) does(t *testing.T, what string, change func(*seen)) {
	t.Helper()
	m, want := s.begin(t)
	r := m.Run(nil, 1)
	isResult(t, what, r, api.Result{Steps: 1})
	want.place += 4
	change(&want)
	want.words[0] = 0
	isSeen(t, what, m, want)
}

// fails says whether the first step of what is tried fails so, and changes nothing, then and later.
func (s scene) fails(t *testing.T, what string, state int) {
	t.Helper()
	m, want := s.begin(t)
	for _, fuel := range []int{5, 5, 1, 0, math.MaxInt} {
		isResult(t, what, m.Run([]uint32{9}, fuel), api.Result{State: state})
		isSeen(t, what, m, want)
	}
}
