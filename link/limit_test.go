package link_test

import (
	"slices"
	"testing"

	"solder/api"
)

// sized is an object of so many words and bytes; where there are some, the last of both isn't 0.
func sized(words, bytes int) api.Object {
	o := api.Object{Text: make([]uint32, words), Data: make([]byte, bytes)}
	if words > 0 {
		o.Text[words-1] = 0xfedcba98
	}
	if bytes > 0 {
		o.Data[bytes-1] = 0xff
	}
	return o
}

func sizes(l ...[2]int) []api.Object {
	var objs []api.Object
	for _, s := range l {
		objs = append(objs, sized(s[0], s[1]))
	}
	return objs
}

// few are n objects of so many words and bytes, with others behind.
func few(n, words, bytes int, more ...[2]int) []api.Object {
	return append(slices.Repeat(sizes([2]int{words, bytes}), n), sizes(more...)...)
}

// isGreatest says whether objs are linked to just MaxMemory bytes.
func isGreatest(t *testing.T, what string, objs []api.Object) {
	t.Helper()
	if want := asModel(t, what, objs); want.e != api.OK || len(want.image.Bytes) != api.MaxMemory {
		t.Fatalf("%s: the test's model says otherwise than the test: error %d, %d bytes", what, want.e, len(want.image.Bytes))
	}
}

// Images of just MaxMemory bytes, and the least beyond: a word more, or a line of data. (A byte more is no object's.)
func TestGreatestImages(t *testing.T) {
	main := api.Object{Syms: syms(text("main", 0))}
	for _, c := range []struct {
		what  string
		rest  []api.Object
		zeros bool // has the image zeros ahead of the data?
	}{
		{"words alone", few(7, 65536, 0, [2]int{65533, 0}), false},
		{"words alone, and zeros", few(7, 65536, 0, [2]int{65532, 0}), true},
		{"data alone", few(31, 0, 65536, [2]int{0, 65520}), true},
		{"words and data", few(6, 65536, 65536, [2]int{1, 65536}, [2]int{0, 65520}), false},
		{"words and data, and zeros", few(6, 65536, 65536, [2]int{0, 65536}, [2]int{0, 65520}), true},
		{"many of few", few(1000, 100, 1600, [2]int{0, 65536}, [2]int{0, 31600}), true},
	} {
		objs := append([]api.Object{main}, c.rest...)
		isGreatest(t, c.what, objs)
		holds(t, c.what+", a line of data more", append(objs, sized(0, 8)), refused(api.ErrLong))
		if c.zeros {
			isGreatest(t, c.what+", a word more", append(objs, sized(1, 0)))
			objs = append(objs, sized(1, 0))
		}
		holds(t, c.what+", beyond the zeros", append(objs, sized(1, 0)), refused(api.ErrLong))
		holds(t, c.what+", a byte more", append(objs, sized(0, 1)), refused(api.ErrForm))
	}
}

// The sum of what is too long isn't laid anywhere, how many they may be.
func TestFarTooLong(t *testing.T) {
	main := api.Object{Syms: syms(text("main", 0))}
	holds(t, "all words", append(few(200, 65536, 0), main), refused(api.ErrLong))
	holds(t, "all bytes", append(few(200, 0, 65536), main), refused(api.ErrLong))
	holds(t, "all of both", append(few(5000, 65536, 65536), main), refused(api.ErrLong))
}

// Where the greatest image has relocations at its ends.
func TestEndsOfTheGreatestImage(t *testing.T) {
	main := mainAlone(1)
	main.Text = append(main.Text, 0x000002b7)
	main.Syms = append(main.Syms, wants("end"))
	main.Rels = []api.Rel{rel(2, api.RHi, 1, -1)}
	last := api.Object{Data: make([]byte, 65504), Syms: syms(data("end", 65504)), Rels: []api.Rel{relData(65500, 0, -4)}}
	objs := slices.Concat([]api.Object{main}, few(31, 0, 65536, [2]int{0, 8}), []api.Object{last})
	want := asModel(t, "ends", objs)
	if want.e != api.OK || len(want.image.Bytes) != api.MaxMemory {
		t.Fatalf("the test has another image: error %d, %d bytes", want.e, len(want.image.Bytes))
	}
	if first := want.image.Bytes[20:24]; !slices.Equal(first, image([]uint32{0x002002b7})) {
		t.Fatalf("the test's model says otherwise than the test: the first is %x", first)
	}
	if end := want.image.Bytes[api.MaxMemory-4:]; !slices.Equal(end, image([]uint32{0x001ffffc})) {
		t.Fatalf("the test's model says otherwise than the test: the last are %x", end)
	}
}
