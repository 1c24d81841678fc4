package machine_test

import (
	"bytes"
	"math"
	"slices"
	"testing"

	"solder/api"
	"solder/machine"
)

// counter puts out what it reads and a word of its image that it counts up, again and again.
func counter() []api.Instr {
	return []api.Instr{
		set(17, 2), {Op: api.ECALL}, set(17, 1), {Op: api.ECALL},
		{Op: api.LW, Rd: 10, Imm: 60}, {Op: api.ADDI, Rd: 10, Rs1: 10, Imm: 1}, {Op: api.SW, Rs2: 10, Imm: 60}, {Op: api.ECALL},
		{Op: api.FCVTDW, Rd: 10, Rs1: 10}, {Op: api.FSD, Rs1: 2, Rs2: 10, Imm: -8}, {Op: api.SB, Rs1: 27, Rs2: 10, Imm: 0}, set(17, 5), {Op: api.ECALL},
		{Op: api.JAL, Imm: -52},
	}
}

const round = 14

// counted is what so many rounds of counter put out, from a count on.
func counted(from int, input ...uint32) []api.Event {
	var l []api.Event
	for n, w := range input {
		count := from + n + 1
		l = append(l, api.Event{Kind: 1, Word: w}, api.Event{Kind: 1, Word: uint32(count)}, api.Event{Kind: 2, Real: math.Float64bits(float64(count))})
	}
	return l
}

func isOut(t *testing.T, what string, m *machine.Machine, input []uint32, want []api.Event) []api.Event {
	t.Helper()
	r := m.Run(input, round*len(want)/3)
	if r.State != api.Running || !slices.Equal(r.Events, want) {
		t.Errorf("P4.3: %s: %v, want %v", what, r, want)
	}
	return r.Events
}

// counterBytes are the image of counter, with room behind them that isn't theirs.
func counterBytes(t *testing.T) []byte {
	t.Helper()
	b := append(text(t, counter()...), 0, 0, 0, 0, 0, 0, 0, 0)
	return append(b, bytes.Repeat([]byte{0xee}, 200)...)[:len(b)]
}

func TestTheImageStays(t *testing.T) {
	b := counterBytes(t)
	before := bytes.Clone(b[:cap(b)])
	i := api.Image{Bytes: b}
	m := load(t, i, 100)
	isOut(t, "the counter", m, []uint32{7, 8, 9}, counted(0, 7, 8, 9))
	if !bytes.Equal(b[:cap(b)], before) || len(i.Bytes) != 64 || i.Entry != 0 {
		t.Error("P4.3: a run has changed the image that was handed in, or the room behind it")
	}
}

// The room behind the image isn't the image's: there are zeros.
func TestRoomBehindTheImage(t *testing.T) {
	b := counterBytes(t)[:61]
	m := load(t, api.Image{Bytes: b}, 100)
	got, e := m.Bytes(61, 176-61)
	if e != api.OK || !bytes.Equal(got, make([]byte, 176-61)) {
		t.Errorf("P4.3: behind the image: %v, error %d, want zeros", got, e)
	}
}

func TestTheImageIsNotKept(t *testing.T) {
	b := counterBytes(t)
	m := load(t, api.Image{Bytes: b}, 100)
	clear(b[:cap(b)])
	isOut(t, "with the image cleared", m, []uint32{7}, counted(0, 7))
	if got, e := m.Bytes(0, 52); e != api.OK || !bytes.Equal(got, text(t, counter()...)[:52]) {
		t.Errorf("P4.3: with the image cleared: %v, error %d", got, e)
	}
}

func TestTwoMachinesOfOneImage(t *testing.T) {
	i := api.Image{Bytes: counterBytes(t)}
	a := load(t, i, 100)
	isOut(t, "the first", a, []uint32{1, 2}, counted(0, 1, 2))
	b := load(t, i, 100)
	isOut(t, "the second", b, []uint32{3}, counted(0, 3))
	isOut(t, "the first again", a, []uint32{4}, counted(2, 4))
	isOut(t, "the second again", b, []uint32{5, 6}, counted(1, 5, 6))
}

func TestTheInputStaysAndIsNotKept(t *testing.T) {
	room := []uint32{5, 6, 77, 78}
	input := room[:2]
	m := load(t, api.Image{Bytes: counterBytes(t)}, 100)
	isOut(t, "an input that ends", m, input, counted(0, 5, 6, 0)) // not 77, which stands behind its end
	if !slices.Equal(room, []uint32{5, 6, 77, 78}) {
		t.Errorf("P4.3: the input is %v now", room)
	}
	room[0], room[1] = 90, 91
	isOut(t, "none", m, nil, counted(3, 0, 0))
	isOut(t, "another one", m, []uint32{8}, counted(5, 8))
	isOut(t, "the first, changed", m, input, counted(6, 90, 91))
}

func TestEventsAreNewMemory(t *testing.T) {
	m := load(t, api.Image{Bytes: counterBytes(t)}, 100)
	first := isOut(t, "the first run", m, []uint32{1, 2}, counted(0, 1, 2))
	kept := slices.Clone(first)
	second := isOut(t, "the second run", m, []uint32{3}, counted(2, 3))
	if !slices.Equal(first, kept) {
		t.Errorf("P4.3: the events of the first run are %v now", first)
	}
	kept = slices.Clone(second)
	first = first[:cap(first)]
	for n := range first {
		first[n] = api.Event{Kind: 9, Word: 9, Real: 9}
	}
	if !slices.Equal(second, kept) {
		t.Errorf("P4.3: the events of the second run are %v now", second)
	}
	isOut(t, "the third run", m, []uint32{4}, counted(3, 4))
}

func TestBytesAreNewMemory(t *testing.T) {
	m := load(t, api.Image{Bytes: counterBytes(t)}, 100)
	all, e := m.Bytes(0, 176)
	part, f := m.Bytes(0, 8)
	if e != api.OK || f != api.OK {
		t.Fatalf("P4.3: Bytes: errors %d, %d", e, f)
	}
	kept := bytes.Clone(all)
	part = part[:cap(part)]
	for n := range part {
		part[n] = 0xdd
	}
	if !bytes.Equal(all, kept) {
		t.Error("P4.3: two answers share their memory")
	}
	clear(all[:cap(all)])
	if again, _ := m.Bytes(0, 176); !bytes.Equal(again, kept) {
		t.Error("P4.3: what is changed in an answer changes the machine")
	}
	isOut(t, "with the answers changed", m, []uint32{7}, counted(0, 7))

	// An answer stays what it was, whatever is stored later.
	before, _ := m.Bytes(0, 176)
	kept = bytes.Clone(before)
	isOut(t, "with an answer kept", m, []uint32{7}, counted(1, 7))
	if now, _ := m.Bytes(0, 176); !bytes.Equal(before, kept) || bytes.Equal(now, kept) {
		t.Error("P4.3: an answer has changed with the machine")
	}
}

// What is asked of a machine changes nothing in it.
func TestAskingChangesNothing(t *testing.T) {
	m := load(t, api.Image{Bytes: counterBytes(t)}, 100)
	m.Run([]uint32{5}, 9)
	want := see(t, m, 176)
	for range 3 {
		isSeen(t, "asked again", m, want)
		m.Word(-1)
		m.Real(99)
		m.Bytes(-1, 5)
		m.Run([]uint32{1, 2, 3}, 0)
		m.Run([]uint32{1, 2, 3}, -7)
	}
	isSeen(t, "asked again", m, want)
}

// A Load that is refused leaves what was handed in as it is.
func TestRefusedImageStays(t *testing.T) {
	b := counterBytes(t)
	before := bytes.Clone(b[:cap(b)])
	for _, c := range [][2]int{{-1, 0}, {0, -1}, {0, api.MaxMemory}, {1 << 32, 0}} {
		if m, e := machine.Load(api.Image{Entry: c[0], Bytes: b}, c[1]); m != nil || e != api.ErrRange {
			t.Errorf("P4.1: Load(%v): %v, error %d", c, m, e)
		}
	}
	if !bytes.Equal(b[:cap(b)], before) {
		t.Error("P4.3: a Load that was refused has changed the image")
	}
}
