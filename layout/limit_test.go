package layout_test

import (
	"slices"
	"strconv"
	"testing"

	"solder/api"
	"solder/layout"
	"solder/obj"
)

// greatest is a list whose image has just MaxMemory bytes.
type greatest struct {
	what  string
	l     []size
	zeros bool // does it have zeros ahead of the data?
	all   bool // are all of them objects, none greater than one may be?
}

func allGreatest() []greatest {
	few := func(n, words, bytes int, more ...int) []size {
		return append(slices.Repeat(sizes(words, bytes), n), sizes(more...)...)
	}
	return []greatest{
		{"words alone, of one", sizes(524285, 0), false, false},
		{"words alone, of one, and zeros", sizes(524284, 0), true, false},
		{"words alone, of many", few(7, 65536, 0, 65533, 0), false, true},
		{"words alone, of many, and zeros", few(7, 65536, 0, 65532, 0), true, true},
		{"data alone, of one", sizes(0, 2097136), true, false},
		{"data alone, of many", few(31, 0, 65536, 0, 65520), true, true},
		{"data alone, of two, no multiples of 8", sizes(0, 1000001, 0, 1097135), true, false},
		{"words and data, of one", sizes(100001, 1697136), false, false},
		{"words and data, of one, and zeros", sizes(100000, 1697136), true, false},
		{"words and data, of many", few(6, 65536, 65536, 1, 65536, 0, 65520), false, true},
		{"words and data, of many, and zeros", few(6, 65536, 65536, 0, 65536, 0, 65520), true, true},
		{"many words, then a little data", sizes(524283, 0, 0, 8), false, false},
		{"much data, then a word", sizes(0, 2097136, 1, 0), false, false},
		{"of very many", few(1000, 100, 1600, 0, 65536, 0, 31600), true, true},
		{"of one behind very many of nothing", few(1000, 0, 0, 3, 2097128), false, false},
	}
}

// changed is l with so many words and bytes more at one place.
func changed(l []size, at, words, bytes int) []size {
	l = slices.Clone(l)
	l[at].words += words
	l[at].bytes += bytes
	return l
}

func isTooLong(t *testing.T, what string, l []size) {
	t.Helper()
	holds(t, what, objects(l), tooLong)
}

// hasBytes says whether the image has so many, and all else is as it must be.
func hasBytes(t *testing.T, what string, l []size, bytes int) {
	t.Helper()
	objs := objects(l)
	want := wantAnswer(objs)
	if want.bytes != bytes {
		t.Fatalf("%s: the test's model says otherwise than the test: %d bytes, error %d, want %d", what, want.bytes, want.e, bytes)
	}
	holds(t, what, objs, want)
}

func TestTheGreatestImage(t *testing.T) {
	for _, g := range allGreatest() {
		hasBytes(t, g.what, g.l, api.MaxMemory)
		hasBytes(t, g.what+", and one of nothing behind", append(sizes(), append(g.l, size{})...), api.MaxMemory)
		hasBytes(t, g.what+", and one of nothing ahead", append(sizes(0, 0), g.l...), api.MaxMemory)
		if all := allObjects(objects(g.l)); all != g.all {
			t.Errorf("%s: all are objects: %t, want %t", g.what, all, g.all)
		}
	}
}

func allObjects(objs []api.Object) bool {
	return !slices.ContainsFunc(objs, func(o api.Object) bool { return obj.Check(o) != api.OK })
}

// A byte more is too much at each place. A word more is, unless it stands where there would be zeros; two words more always are.
func TestALittleMoreThanTheGreatest(t *testing.T) {
	for _, g := range allGreatest() {
		places := []int{0, len(g.l) / 2, len(g.l) - 1}
		slices.Sort(places)
		for _, at := range slices.Compact(places) {
			what := g.what + ", more at " + strconv.Itoa(at)
			isTooLong(t, what+": a byte", changed(g.l, at, 0, 1))
			isTooLong(t, what+": eight bytes", changed(g.l, at, 0, 8))
			isTooLong(t, what+": two words", changed(g.l, at, 2, 0))
			if g.zeros {
				hasBytes(t, what+": a word where there were zeros", changed(g.l, at, 1, 0), api.MaxMemory)
			} else {
				isTooLong(t, what+": a word", changed(g.l, at, 1, 0))
			}
		}
		isTooLong(t, g.what+", and a byte behind", append(slices.Clone(g.l), size{0, 1}))
		isTooLong(t, g.what+", and a byte ahead", append(sizes(0, 1), g.l...))
		isTooLong(t, g.what+", and two words behind", append(slices.Clone(g.l), size{2, 0}))
		isTooLong(t, g.what+", and two words ahead", append(sizes(2, 0), g.l...))
	}
}

func TestALittleLessThanTheGreatest(t *testing.T) {
	hasBytes(t, "a word less, with zeros for it", sizes(524284, 0), api.MaxMemory)
	hasBytes(t, "two words less", sizes(524283, 0), api.MaxMemory-8)
	hasBytes(t, "two words less, and seven bytes", sizes(524283, 7), api.MaxMemory-1)
	hasBytes(t, "a byte less", sizes(0, 2097135), api.MaxMemory-1)
	hasBytes(t, "a byte less, of many", append(slices.Repeat(sizes(0, 65536), 31), size{0, 65519}), api.MaxMemory-1)
}

func TestFarMoreThanTheGreatest(t *testing.T) {
	isTooLong(t, "words of one", sizes(1<<22, 0))
	isTooLong(t, "data of one", sizes(0, 1<<24))
	isTooLong(t, "words of the first", sizes(1<<20, 0, 1, 8, 0, 0))
	isTooLong(t, "words of the last", sizes(1, 8, 0, 0, 1<<20, 0))
	isTooLong(t, "data of the first", sizes(0, 1<<22, 1, 8, 0, 0))
	isTooLong(t, "data of the last", sizes(1, 8, 0, 0, 0, 1<<22))
	isTooLong(t, "words and data, that each fit alone", sizes(1<<18, 0, 0, 0, 0, 1<<20))
	isTooLong(t, "words, as many as there are bytes", sizes(api.MaxMemory, 0))
	isTooLong(t, "words, half as many as there are bytes", sizes(api.MaxMemory/2, 0))
	full := slices.Repeat(sizes(api.MaxWords, api.MaxData), 7)
	isTooLong(t, "full objects", full)
	isTooLong(t, "full objects of words", slices.Repeat(sizes(api.MaxWords, 0), 8))
	isTooLong(t, "full objects of data", slices.Repeat(sizes(0, api.MaxData), 32))
}

// Many objects that have the same words make sums that as 32 bits would be small ones.
func TestSumsBeyondWords(t *testing.T) {
	text, data := make([]uint32, 1<<20), make([]byte, 1<<22)
	for _, o := range []api.Object{{Text: text}, {Data: data}} {
		for _, many := range []int{512, 1024, 2048} {
			objs := slices.Repeat([]api.Object{o}, many)
			holds(t, strconv.Itoa(many)+" objects", objs, tooLong)
			holds(t, strconv.Itoa(many)+" objects, and a little one", append(objs, objects(sizes(1, 8))...), tooLong)
		}
	}
}

func TestBesideErrLong(t *testing.T) {
	for _, l := range [][]size{sizes(524286, 0), sizes(0, 2097137), sizes(1, 8, 524285, 8), sizes(1, 8, 1, 2097136, 1, 8)} {
		if places, bytes, e := layout.Layout(objects(l)); len(places) != 0 || bytes != 0 || e != api.ErrLong {
			t.Errorf("P7.1: Layout of %v: %v, %d, error %d, want nothing and ErrLong", l, places, bytes, e)
		}
	}
}
