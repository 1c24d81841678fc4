package layout_test

import (
	"math"
	"testing"

	"solder/api"
	"solder/layout"
)

// isAt says whether a symbol, and a relocation, of that Sect with that Value, that At, are at the address that is wanted, whatever else they have.
func isAt(t *testing.T, p layout.Place, sect, times int, want uint32) {
	t.Helper()
	if model := wantAddress(p, sect, times); model != want {
		t.Fatalf("the test's model says otherwise than the test: Sect %d, %d, at %v: %#x, want %#x", sect, times, p, model, want)
	}
	for _, s := range []api.Sym{
		{Sect: sect, Value: times},
		{Name: "main", Sect: sect, Value: times, Frame: 32, Global: true},
		{Name: "9 ", Sect: sect, Value: times, Frame: math.MinInt},
	} {
		if w := layout.Address(p, s); w != want {
			t.Errorf("P7.1: Address(%v, %v) = %#x, want %#x", p, s, w, want)
		}
	}
	for _, r := range []api.Rel{
		{Sect: sect, At: times},
		{Sect: sect, At: times, Kind: api.RHi, Sym: 3, Add: -4},
		{Sect: sect, At: times, Kind: api.RWord, Add: 8},
		{Sect: sect, At: times, Kind: -1, Sym: -1, Add: math.MaxInt},
	} {
		if w := layout.Where(p, r); w != want {
			t.Errorf("P7.1: Where(%v, %v) = %#x, want %#x", p, r, w, want)
		}
	}
}

func TestAddresses(t *testing.T) {
	p := layout.Place{Text: 100, Data: 200}
	for _, c := range []struct {
		sect, times int
		want        uint32
	}{
		{1, 0, 100}, {1, 1, 104}, {1, 2, 108}, {1, 3, 112}, {1, 65536, 262244},
		{2, 0, 200}, {2, 1, 201}, {2, 3, 203}, {2, 8, 208}, {2, 65536, 65736},
		{1, -1, 96}, {1, -25, 0}, {1, -26, math.MaxUint32 - 3}, {2, -1, 199}, {2, -200, 0}, {2, -201, math.MaxUint32},
	} {
		isAt(t, p, c.sect, c.times, c.want)
	}
	isAt(t, layout.Place{}, 1, 7, 28)
	isAt(t, layout.Place{}, 2, 7, 7)
	// A place that Layout would answer for nothing is one all the same.
	isAt(t, layout.Place{Text: 13, Data: 17}, 1, 1, 17)
	isAt(t, layout.Place{Text: 13, Data: 17}, 2, 1, 18)
}

// What is neither in the text nor in the data is at 0, wherever that object stands.
func TestAddressesOfOtherSects(t *testing.T) {
	for _, sect := range []int{0, 3, 4, 9, -1, -2, 257, 258, 1 << 32, 1<<32 + 1, 1<<32 + 2, -1<<32 + 1, math.MaxInt, math.MinInt} {
		for _, times := range []int{0, 1, 3, -1, 1 << 40, math.MaxInt, math.MinInt} {
			for _, p := range []layout.Place{{}, {Text: 100, Data: 200}, {Text: -100, Data: 1 << 40}} {
				isAt(t, p, sect, times, 0)
			}
		}
	}
}

func TestAddressesThatDoNotFitAWord(t *testing.T) {
	p := layout.Place{Text: 100, Data: 200}
	for _, c := range []struct {
		p           layout.Place
		sect, times int
		want        uint32
	}{
		{p, 1, 1<<30 - 26, math.MaxUint32 - 3}, {p, 1, 1<<30 - 25, 0}, {p, 1, 1<<30 - 24, 4}, {p, 1, 1 << 30, 100}, {p, 1, 1<<61 + 1, 104}, {p, 1, 1<<62 + 2, 108},
		{p, 2, 1<<32 - 201, math.MaxUint32}, {p, 2, 1<<32 - 200, 0}, {p, 2, 1 << 32, 200}, {p, 2, 1<<62 + 5, 205},
		{p, 1, math.MaxInt, 96}, {p, 1, math.MinInt, 100}, {p, 2, math.MaxInt, 199}, {p, 2, math.MinInt, 200},
		{p, 1, 1 << 29, 1<<31 + 100}, {p, 2, 1 << 31, 1<<31 + 200},
		{layout.Place{Text: -12, Data: -8}, 1, 0, math.MaxUint32 - 11}, {layout.Place{Text: -12, Data: -8}, 1, 4, 4},
		{layout.Place{Text: -12, Data: -8}, 2, 0, math.MaxUint32 - 7}, {layout.Place{Text: -12, Data: -8}, 2, 9, 1},
		{layout.Place{Text: 1 << 32, Data: 1<<32 + 8}, 1, 2, 8}, {layout.Place{Text: 1 << 32, Data: 1<<32 + 8}, 2, 2, 10},
		{layout.Place{Text: 1<<40 + 12, Data: -1<<40 + 16}, 1, 1, 16}, {layout.Place{Text: 1<<40 + 12, Data: -1<<40 + 16}, 2, 1, 17},
		{layout.Place{Text: math.MaxInt, Data: math.MaxInt}, 1, 1, 3}, {layout.Place{Text: math.MaxInt, Data: math.MaxInt}, 2, 1, 0},
		{layout.Place{Text: math.MinInt, Data: math.MinInt}, 1, -1, math.MaxUint32 - 3}, {layout.Place{Text: math.MinInt, Data: math.MinInt}, 2, -1, math.MaxUint32},
		{layout.Place{Text: math.MaxInt, Data: math.MaxInt}, 1, math.MaxInt, math.MaxUint32 - 4}, {layout.Place{Text: math.MaxInt, Data: math.MaxInt}, 2, math.MaxInt, math.MaxUint32 - 1},
		{layout.Place{Text: math.MinInt, Data: math.MinInt}, 1, math.MinInt, 0}, {layout.Place{Text: math.MinInt, Data: math.MinInt}, 2, math.MinInt, 0},
	} {
		isAt(t, c.p, c.sect, c.times, c.want)
	}
}

func TestAddressesByNumbersWithoutBounds(t *testing.T) {
	edges := []int{0, 1, 2, 3, 4, 7, 8, 12, 4096, -1, -4, -12}
	for _, power := range []int{20, 21, 29, 30, 31, 32, 33, 60, 61, 62, 63} {
		n := 1 << power // the last is the least int
		edges = append(edges, n-1, n, n+1, -n)
	}
	for _, begin := range edges {
		for _, times := range edges {
			for sect := -1; sect < 4; sect++ {
				// The other part is elsewhere, so that it would be seen if it were taken.
				p := layout.Place{Text: begin, Data: begin + 1<<20 + 3}
				isAt(t, p, sect, times, wantAddress(p, sect, times))
			}
		}
	}
}

// Within an image: what is one behind the last of an object is where the next one begins.
func TestAddressesOfObjects(t *testing.T) {
	objs := objects(sizes(3, 8, 0, 16, 2, 0, 5, 24))
	a := ask(objs)
	if a.e != api.OK || len(a.places) != len(objs) {
		t.Fatalf("P7.1: Layout: %v, error %d", a.places, a.e)
	}
	text, data := uint32(12), uint32(56)
	for n, o := range objs {
		p := a.places[n]
		isAt(t, p, 1, 0, text)
		isAt(t, p, 2, 0, data)
		text, data = text+uint32(4*len(o.Text)), data+uint32(len(o.Data))
		isAt(t, p, 1, len(o.Text), text)
		isAt(t, p, 2, len(o.Data), data)
	}
	if text != 52 || int(data) != a.bytes {
		t.Errorf("P7.1: the last text ends at %d, the last data at %d of %d bytes", text, data, a.bytes)
	}
}
