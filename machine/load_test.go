package machine_test

import (
	"math"
	"strconv"
	"testing"

	"solder/api"
	"solder/machine"
)

// image is one of so many bytes, all of them other than 0.
func image(entry, n int) api.Image {
	b := make([]byte, n)
	for at := range b {
		b[at] = byte(at%255 + 1)
	}
	return api.Image{Entry: entry, Bytes: b}
}

func TestFloorAndTop(t *testing.T) {
	for _, c := range []struct{ n, stack, floor, top int }{
		{0, 0, 0, 0}, {1, 0, 16, 16}, {15, 0, 16, 16}, {16, 0, 16, 16}, {17, 0, 32, 32}, {32, 0, 32, 32},
		{0, 1, 0, 16}, {0, 15, 0, 16}, {0, 16, 0, 16}, {0, 17, 0, 32},
		{1, 15, 16, 32}, {8, 8, 16, 32}, {16, 1, 16, 32}, {17, 16, 32, 48}, {31, 17, 32, 64}, {33, 100, 48, 160},
		{100, 1000, 112, 1120},
		{0, api.MaxMemory, 0, api.MaxMemory}, {0, api.MaxMemory - 15, 0, api.MaxMemory}, {0, api.MaxMemory - 16, 0, api.MaxMemory - 16},
		{1, api.MaxMemory - 16, 16, api.MaxMemory}, {16, api.MaxMemory - 16, 16, api.MaxMemory}, {16, api.MaxMemory - 31, 16, api.MaxMemory},
		{17, api.MaxMemory - 32, 32, api.MaxMemory},
		{api.MaxMemory, 0, api.MaxMemory, api.MaxMemory}, {api.MaxMemory - 15, 0, api.MaxMemory, api.MaxMemory},
		{api.MaxMemory - 16, 16, api.MaxMemory - 16, api.MaxMemory}, {api.MaxMemory - 16, 1, api.MaxMemory - 16, api.MaxMemory},
	} {
		i := image(8, c.n)
		m := load(t, i, c.stack)
		want := seen{place: 8, memory: make([]byte, c.top)}
		want.words[2], want.words[27] = uint32(c.top), uint32(c.floor)
		copy(want.memory, i.Bytes)
		what := "Load of " + strconv.Itoa(c.n) + " bytes with " + strconv.Itoa(c.stack) + " of stack"
		isSeen(t, what, m, want)
		if b, e := m.Bytes(0, c.top+1); len(b) != 0 || e != api.ErrRange {
			t.Errorf("P4.1: %s: Bytes above the top: %d of them, error %d", what, len(b), e)
		}
	}
}

func TestFloorAndTopOfManyLengths(t *testing.T) {
	for n := range 70 {
		for stack := range 70 {
			floor := n
			for floor%16 != 0 {
				floor++
			}
			top := floor + stack
			for top%16 != 0 {
				top++
			}
			m := load(t, image(0, n), stack)
			if m.Word(2) != uint32(top) || m.Word(27) != uint32(floor) {
				t.Errorf("P4.1: of %d bytes with %d of stack: floor %d, top %d, want %d, %d", n, stack, m.Word(27), m.Word(2), floor, top)
			}
		}
	}
}

func TestLoadRefuses(t *testing.T) {
	for _, c := range []struct {
		name            string
		entry, n, stack int
	}{
		{"no stack below 0", 0, 4, -1},
		{"not one that would lead back below the top", 0, 1000, -500},
		{"the least stack", 0, 4, math.MinInt},
		{"a top just above", 0, 0, api.MaxMemory + 1},
		{"a top just above, by the floor", 0, 1, api.MaxMemory - 15},
		{"a top just above, by a floor that is the image's end", 0, 16, api.MaxMemory - 15},
		{"a top just above, by the last bytes", 0, 17, api.MaxMemory - 16},
		{"a floor just above", 0, api.MaxMemory + 1, 0},
		{"a stack on a full memory", 0, api.MaxMemory, 1},
		{"a stack on a floor that is full", 0, api.MaxMemory - 15, 1},
		{"a floor far above", 0, 2 * api.MaxMemory, 0},
		{"the greatest stack", 0, 4, math.MaxInt},
		{"the greatest stack but the floor", 0, 16, math.MaxInt - 15},
		{"a stack of 2^32", 0, 4, 1 << 32},
		{"an Entry below 0", -1, 4, 0},
		{"an Entry of -4", -4, 4, 0},
		{"an Entry of -2^32", -1 << 32, 4, 0},
		{"the least Entry", math.MinInt, 4, 0},
		{"an Entry of 2^32", 1 << 32, 4, 0},
		{"an Entry of 2^32 and 4", 1<<32 + 4, 16, 0},
		{"the greatest Entry", math.MaxInt, 4, 0},
		{"all of it wrong", -1, api.MaxMemory + 1, -1},
	} {
		if m, e := machine.Load(image(c.entry, c.n), c.stack); m != nil || e != api.ErrRange {
			t.Errorf("P4.1: Load of %s: %v, error %d, want none, ErrRange", c.name, m, e)
		}
	}
}

// An Entry may be any word, even if no step can be made there.
func TestEntryAtItsEnds(t *testing.T) {
	for _, entry := range []int{0, 1, 2, 3, 4, 16, 28, 29, 32, 1<<31 - 1, 1 << 31, 1<<32 - 16, 1<<32 - 4, 1<<32 - 1} {
		b := make([]byte, 32)
		for at := range 7 {
			copy(b[4*at:], text(t, set(5, 1)))
		}
		m := load(t, api.Image{Entry: entry, Bytes: b}, 0)
		if m.Place() != uint32(entry) {
			t.Errorf("P4.1: Entry %d: the place is %d", entry, m.Place())
		}
		want := api.Result{State: api.BadPlace}
		switch {
		case entry == 28: // the zeros there are no instruction
			want.State = api.BadCode
		case entry < 28 && entry%4 == 0:
			want = api.Result{State: api.BadCode, Steps: (28 - entry) / 4}
		}
		isResult(t, "from Entry "+strconv.Itoa(entry), m.Run(nil, 10), want)
	}
}

func TestLoadOfNothing(t *testing.T) {
	for _, b := range [][]byte{nil, {}} {
		m := load(t, api.Image{Bytes: b}, 0)
		isSeen(t, "nothing", m, seen{})
		isResult(t, "nothing", m.Run(nil, 3), api.Result{State: api.BadPlace})
		m = load(t, api.Image{Bytes: b}, 4)
		isResult(t, "zeros", m.Run(nil, 3), api.Result{State: api.BadCode})
	}
}

func TestRegistersThatAreNone(t *testing.T) {
	s := plain(set(5, 1))
	s.words[31], s.reals[31], s.reals[0] = 7, inf, negInf
	m, _ := s.begin(t)
	for _, r := range []int{-1, -2, -32, 32, 33, 64, 1 << 32, 1<<32 + 5, -1<<32 + 5, math.MinInt, math.MaxInt} {
		if w, x := m.Word(r), m.Real(r); w != 0 || x != 0 {
			t.Errorf("P4.1: register %d: word %#x, real %#x, want 0", r, w, x)
		}
	}
	if m.Word(31) != 7 || m.Word(0) != 0 || m.Real(31) != inf || m.Real(0) != negInf {
		t.Errorf("P4.1: the first and the last: words %#x, %#x, reals %#x, %#x", m.Word(0), m.Word(31), m.Real(0), m.Real(31))
	}
}

func TestBytes(t *testing.T) {
	m := load(t, image(0, 20), 10) // the floor is 32, the top 48
	for at := range 49 {
		for n := range 49 {
			b, e := m.Bytes(at, n)
			if at+n > 48 {
				if len(b) != 0 || e != api.ErrRange {
					t.Errorf("P4.1: Bytes(%d, %d): %v, error %d, want ErrRange", at, n, b, e)
				}
				continue
			}
			if len(b) != n || e != api.OK {
				t.Fatalf("P4.1: Bytes(%d, %d): %v, error %d", at, n, b, e)
			}
			for k, x := range b {
				want := byte(0)
				if at+k < 20 {
					want = byte(at + k + 1)
				}
				if x != want {
					t.Errorf("P4.1: Bytes(%d, %d): %v", at, n, b)
					break
				}
			}
		}
	}
}

func TestBytesThatAreNotThere(t *testing.T) {
	m := load(t, image(0, 20), 10)
	for _, c := range [][2]int{
		{-1, 1}, {-1, 2}, {-1, 49}, {-4, 4}, {-48, 96}, {48, 1}, {47, 2}, {0, 49}, {49, 1}, {1 << 32, 1}, {0, 1 << 32},
		{-1 << 32, 1}, {1<<32 + 4, 4}, {4, -1}, {0, -1}, {48, -1}, {100, -60},
		{math.MaxInt, 1}, {math.MaxInt, math.MaxInt}, {1, math.MaxInt}, {math.MaxInt - 3, 4}, {math.MinInt, 1}, {math.MinInt, math.MinInt},
		{0, math.MinInt}, {math.MinInt, math.MaxInt}, {-1, math.MaxInt}, {math.MaxInt, math.MinInt},
	} {
		if b, e := m.Bytes(c[0], c[1]); len(b) != 0 || e != api.ErrRange {
			t.Errorf("P4.1: Bytes(%d, %d): %v, error %d, want ErrRange", c[0], c[1], b, e)
		}
	}
}
