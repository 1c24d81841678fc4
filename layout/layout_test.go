package layout_test

import (
	"math"
	"slices"
	"testing"

	"solder/api"
	"solder/helps"
)

func TestOneObject(t *testing.T) {
	for _, c := range []struct {
		what string
		l    []size
		want answer
	}{
		{"the chapter's example", sizes(2, 8), laid(32, 12, 24)},
		{"a word and eight bytes", sizes(1, 8), laid(24, 12, 16)},
		{"a word alone", sizes(1, 0), laid(16, 12, 16)},
		{"two words alone", sizes(2, 0), laid(24, 12, 24)},
		{"data alone", sizes(0, 8), laid(24, 12, 16)},
		{"nothing", sizes(0, 0), laid(16, 12, 16)},
		{"some more", sizes(101, 800), laid(12+404+800, 12, 416)},
		{"the greatest that is one", sizes(api.MaxWords, api.MaxData), laid(16+4*65536+65536, 12, 16+4*65536)},
	} {
		holds(t, c.what, objects(c.l), c.want)
	}
}

func TestNoObjects(t *testing.T) {
	holds(t, "nil", nil, laid(16))
	holds(t, "empty", []api.Object{}, laid(16))
	holds(t, "empty, with room", objects(sizes(3, 8, 5, 8))[:0], laid(16))
}

func TestManyObjects(t *testing.T) {
	for _, c := range []struct {
		what string
		l    []size
		want answer
	}{
		{"two", sizes(2, 8, 1, 16), laid(48, 12, 24, 20, 32)},
		{"two alike", sizes(3, 8, 3, 8), laid(56, 12, 40, 24, 48)},
		{"two of a word", sizes(1, 8, 1, 8), laid(40, 12, 24, 16, 32)},
		{"three", sizes(5, 24, 2, 8, 4, 16), laid(104, 12, 56, 32, 80, 40, 88)},
		{"three in another order", sizes(4, 16, 5, 24, 2, 8), laid(104, 12, 56, 28, 72, 48, 96)},
		{"five", sizes(1, 8, 2, 16, 3, 24, 4, 32, 5, 40), laid(192, 12, 72, 16, 80, 24, 96, 36, 120, 52, 152)},
	} {
		holds(t, c.what, objects(c.l), c.want)
	}
	hundred := laid(12 + 1200 + 4 + 1600)
	for n := range 100 {
		hundred.places = append(hundred.places, places(12+12*n, 1216+16*n)...)
	}
	holds(t, "a hundred", objects(slices.Repeat(sizes(3, 16), 100)), hundred)
}

// What is without words, without data, or without both, takes no room, but has a place.
func TestWithoutSomething(t *testing.T) {
	for _, c := range []struct {
		what string
		l    []size
		want answer
	}{
		{"the first without words", sizes(0, 8, 3, 16, 2, 24), laid(80, 12, 32, 12, 40, 24, 56)},
		{"one in the midst without words", sizes(3, 16, 0, 8, 2, 24), laid(80, 12, 32, 24, 48, 24, 56)},
		{"the last without words", sizes(3, 16, 2, 24, 0, 8), laid(80, 12, 32, 24, 48, 32, 72)},
		{"the first without data", sizes(4, 0, 3, 16, 2, 24), laid(88, 12, 48, 28, 48, 40, 64)},
		{"one in the midst without data", sizes(3, 16, 4, 0, 2, 24), laid(88, 12, 48, 24, 64, 40, 64)},
		{"the last without data", sizes(3, 16, 2, 24, 4, 0), laid(88, 12, 48, 24, 64, 32, 88)},
		{"the first without both", sizes(0, 0, 3, 16, 2, 24), laid(72, 12, 32, 12, 32, 24, 48)},
		{"one in the midst without both", sizes(3, 16, 0, 0, 2, 24), laid(72, 12, 32, 24, 48, 24, 48)},
		{"the last without both", sizes(3, 16, 2, 24, 0, 0), laid(72, 12, 32, 24, 48, 32, 72)},
		{"all without words", sizes(0, 8, 0, 16, 0, 8), laid(48, 12, 16, 12, 24, 12, 40)},
		{"all without data", sizes(1, 0, 2, 0, 3, 0), laid(40, 12, 40, 16, 40, 24, 40)},
		{"all without both", sizes(0, 0, 0, 0, 0, 0), laid(16, 12, 16, 12, 16, 12, 16)},
		{"words alone, then data alone", sizes(2, 0, 0, 8), laid(32, 12, 24, 20, 24)},
		{"data alone, then words alone", sizes(0, 8, 2, 0), laid(32, 12, 24, 12, 32)},
	} {
		holds(t, c.what, objects(c.l), c.want)
	}
}

// The zeros stand once, ahead of all data, and just if the number of all words is even.
func TestZerosAheadOfData(t *testing.T) {
	for words := range 40 {
		data := 12 + 4*words
		if words%2 == 0 {
			data += 4
		}
		holds(t, "one object", objects(sizes(words, 8)), laid(data+8, 12, data))
		holds(t, "without data", objects(sizes(words, 0)), laid(data, 12, data))
		holds(t, "two objects, the first without words", objects(sizes(0, 8, words, 8)), laid(data+16, 12, data, 12, data+8))
		holds(t, "two objects, the last without words", objects(sizes(words, 8, 0, 8)), laid(data+16, 12, data, 12+4*words, data+8))
	}
	holds(t, "two odd numbers", objects(sizes(1, 8, 3, 8)), laid(48, 12, 32, 16, 40))
	holds(t, "two even numbers", objects(sizes(2, 8, 4, 8)), laid(56, 12, 40, 20, 48))
	holds(t, "odd and even", objects(sizes(1, 8, 4, 8)), laid(48, 12, 32, 16, 40))
	holds(t, "even and odd", objects(sizes(4, 8, 1, 8)), laid(48, 12, 32, 28, 40))
}

// Data stands end to end, wherever that leads: nothing is put between, nor behind the last.
func TestDataThatIsNoMultipleOfEight(t *testing.T) {
	for _, c := range []struct {
		what string
		l    []size
		want answer
	}{
		{"a byte", sizes(1, 1), laid(17, 12, 16)},
		{"seven bytes", sizes(2, 7), laid(31, 12, 24)},
		{"nine bytes, without words", sizes(0, 9), laid(25, 12, 16)},
		{"first", sizes(1, 5, 1, 8, 1, 16), laid(53, 12, 24, 16, 29, 20, 37)},
		{"in the midst", sizes(1, 8, 1, 5, 1, 16), laid(53, 12, 24, 16, 32, 20, 37)},
		{"last", sizes(1, 8, 1, 16, 1, 5), laid(53, 12, 24, 16, 32, 20, 48)},
		{"ahead of one without data", sizes(1, 3, 1, 0, 1, 8), laid(35, 12, 24, 16, 27, 20, 27)},
		{"all", sizes(1, 1, 2, 2, 3, 3, 4, 4), laid(66, 12, 56, 16, 57, 24, 59, 36, 62)},
		{"all, that together are a multiple of 8", sizes(1, 1, 1, 7, 1, 4, 1, 12), laid(56, 12, 32, 16, 33, 20, 40, 24, 44)},
	} {
		holds(t, c.what, objects(c.l), c.want)
	}
}

// Words that are no instructions, and bytes of any kind, are laid as zeros are.
func TestNothingButNumbersIsLookedAt(t *testing.T) {
	objs := objects(sizes(2, 8, 3, 5))
	want := laid(45, 12, 32, 20, 40)
	for _, w := range []uint32{0, 1, 0x13, 0x000002b7, 0x80000000, math.MaxUint32} {
		for _, b := range []byte{0, 1, 0x7f, 0x80, 0xff} {
			for _, o := range objs {
				helps.Fill(o.Text, w)
				helps.Fill(o.Data, b)
			}
			holds(t, "all words and bytes alike", objs, want)
		}
	}
	// No object has so many, but they are neither words nor bytes.
	objs[0].Syms = make([]api.Sym, api.MaxSyms+1)
	objs[1].Rels = make([]api.Rel, api.MaxRels+1)
	is(t, "P7.1", "too many symbols and relocations", objs, want)
	is(t, "P7.1", "one object twice", []api.Object{objs[0], objs[0]}, laid(48, 12, 32, 20, 40))
}
