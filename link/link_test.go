package link_test

import (
	"strconv"
	"testing"

	"solder/api"
	"solder/link"
)

// startTo are the start's words, where this is its JAL.
func startTo(jal uint32, behind ...uint32) []uint32 {
	return append([]uint32{jal, askHalt, doHalt}, behind...)
}

func TestOneObject(t *testing.T) {
	main := link.Named{Name: "main", Address: 12, Frame: 16}
	three := mainAlone(7)
	three.Text = append(three.Text, 0xfedcba98)
	holds(t, "the chapter's example", []api.Object{mainAlone(7)}, linked(image(startTo(0x00c000ef, 0x00700513, comeBack, 0)), main))
	holds(t, "one more word, no zeros", []api.Object{three}, linked(image(startTo(0x00c000ef, 0x00700513, comeBack, 0xfedcba98)), main))

	three.Data = []byte{1, 2, 3, 4, 5, 6, 7, 255}
	holds(t, "with data", []api.Object{three}, linked(image(startTo(0x00c000ef, 0x00700513, comeBack, 0xfedcba98), 1, 2, 3, 4, 5, 6, 7, 255), main))
	three.Text = append(three.Text, 0x89abcdef)
	holds(t, "with data behind zeros", []api.Object{three}, linked(image(startTo(0x00c000ef, 0x00700513, comeBack, 0xfedcba98, 0x89abcdef, 0), 1, 2, 3, 4, 5, 6, 7, 255), main))

	behind := mainAlone(7)
	behind.Text = append([]uint32{0x01020304, 0x05060708}, behind.Text...)
	behind.Syms = syms(own("x", 1), text("main", 2))
	main.Address = 20
	holds(t, "main behind the first word", []api.Object{behind}, linked(image(startTo(0x014000ef, 0x01020304, 0x05060708, 0x00700513, comeBack, 0)), main))
}

// A main behind the last word is one all the same.
func TestMainWithoutWords(t *testing.T) {
	none := api.Object{Syms: syms(text("main", 0))}
	holds(t, "an object without words", []api.Object{none}, linked(image(startTo(0x00c000ef, 0)), link.Named{Name: "main", Address: 12, Frame: 16}))
	atEnd := api.Object{Text: []uint32{0x11223344}, Data: make([]byte, 8), Syms: syms(text("main", 1))}
	holds(t, "behind the last word", []api.Object{atEnd}, linked(image(startTo(0x010000ef, 0x11223344), make([]byte, 8)...), link.Named{Name: "main", Address: 16, Frame: 16}))
	holds(t, "behind the last word of the first", []api.Object{atEnd, filler(2)},
		linked(image(startTo(0x010000ef, 0x11223344, 0, 0), make([]byte, 8)...), link.Named{Name: "main", Address: 16, Frame: 16}))
}

// three are objects in the midst of which w is patched: in the text at address 16, or in data at 40 or 44. Around it are
// words and bytes that must stay.
func three(w uint32, r api.Rel, s api.Sym) []api.Object {
	return []api.Object{
		{Text: []uint32{comeBack}, Data: []byte{1, 2, 3, 4, 5, 6, 7, 8}, Syms: syms(text("main", 0), data("d", 0))},
		{Text: []uint32{w}, Data: []byte{9, 10, 11, 12, 13, 14, 15, 16}, Syms: syms(ownData("other", 2), s), Rels: []api.Rel{r}},
		{Text: []uint32{0x11223344, 0xfedcba98}, Data: []byte{17, 18, 19, 20, 21, 22, 23, 24, 25, 26, 27, 28, 29, 30, 31, 255},
			Syms: syms(own("x", 1), data("g", 0), text("f", 1), data("end", 16), text("last", 2))},
	}
}

// ofThree is the image of three, where it has w.
func ofThree(w uint32) []byte {
	return image(startTo(0x00c000ef, comeBack, w, 0x11223344, 0xfedcba98, 0),
		1, 2, 3, 4, 5, 6, 7, 8, 9, 10, 11, 12, 13, 14, 15, 16,
		17, 18, 19, 20, 21, 22, 23, 24, 25, 26, 27, 28, 29, 30, 31, 255)
}

// namesOfThree are the names of three, where it has s.
func namesOfThree(s api.Sym) []link.Named {
	l := []link.Named{{"d", 32, 0}, {"end", 64, 0}, {"f", 24, 16}, {"g", 48, 0}, {"last", 28, 16}, {"main", 12, 16}}
	if s.Name == "my" && s.Global {
		address := uint32(16 + 4*s.Value)
		if s.Sect == 2 {
			address = uint32(40 + s.Value)
		}
		l = append(l, link.Named{Name: "my", Address: address, Frame: s.Frame})
	}
	return l
}

const far = 0 // no word of those below

// patched are the symbols and Adds of a relocation in three, and what becomes of each word: by all Kinds, in order.
func patched() []struct {
	what  string
	s     api.Sym
	add   int
	words [6]uint32
} {
	return []struct {
		what  string
		s     api.Sym
		add   int
		words [6]uint32
	}{
		{"its own text", own("my", 1), 0, [6]uint32{0x000002b7, 0x01428313, 0x0072aa23, 0x004000ef, 0x00000263, 0x00000014}},
		{"itself", own("my", 0), 0, [6]uint32{0x000002b7, 0x01028313, 0x0072a823, 0x000000ef, 0x00000063, 0x00000010}},
		{"its own data", ownData("my", 4), 0, [6]uint32{0x000002b7, 0x02c28313, 0x0272a623, 0x01c000ef, 0x00000e63, 0x0000002c}},
		{"its own text, Global", text("my", 0), 8, [6]uint32{0x000002b7, 0x01828313, 0x0072ac23, 0x008000ef, 0x00000463, 0x00000018}},
		{"its own data, Global", data("my", 8), -4, [6]uint32{0x000002b7, 0x02c28313, 0x0272a623, 0x01c000ef, 0x00000e63, 0x0000002c}},
		{"a text ahead", wants("main"), 0, [6]uint32{0x000002b7, 0x00c28313, 0x0072a623, 0xffdff0ef, 0xfe000ee3, 0x0000000c}},
		{"a text ahead and more", wants("main"), 4, [6]uint32{0x000002b7, 0x01028313, 0x0072a823, 0x000000ef, 0x00000063, 0x00000010}},
		{"data ahead and more", wants("d"), 2044, [6]uint32{0x000012b7, 0x81c28313, 0x8072ae23, 0x00d000ef, 0x000006e3, 0x0000081c}},
		{"data ahead up to 4096", wants("d"), 4064, [6]uint32{0x000012b7, 0x00028313, 0x0072a023, 0x7f1000ef, 0x7e0008e3, 0x00001000}},
		{"a text behind", wants("f"), 0, [6]uint32{0x000002b7, 0x01828313, 0x0072ac23, 0x008000ef, 0x00000463, 0x00000018}},
		{"a text behind, its end, and less", wants("last"), -12, [6]uint32{0x000002b7, 0x01028313, 0x0072a823, 0x000000ef, 0x00000063, 0x00000010}},
		{"data behind", wants("g"), 8, [6]uint32{0x000002b7, 0x03828313, 0x0272ac23, 0x028000ef, 0x02000463, 0x00000038}},
		{"data behind down to 0", wants("end"), -64, [6]uint32{0x000002b7, 0x00028313, 0x0072a023, 0xff1ff0ef, 0xfe0008e3, 0x00000000}},
		{"data behind down below 0", wants("end"), -80, [6]uint32{0x000002b7, 0xff028313, 0xfe72a823, 0xfe1ff0ef, 0xfe0000e3, 0xfffffff0}},
		{"a text ahead down below 0", wants("main"), -13, [6]uint32{0x000002b7, 0xfff28313, 0xfe72afa3, far, far, 0xffffffff}},
		{"its own text and the least", own("my", 1), -1 << 31, [6]uint32{0x800002b7, 0x01428313, 0x0072aa23, far, far, 0x80000014}},
		{"its own data and the greatest", ownData("my", 4), 1<<31 - 1, [6]uint32{0x800002b7, 0x02b28313, 0x0272a5a3, far, far, 0x8000002b}},
		{"data behind up to the middle", wants("end"), 1<<31 - 64, [6]uint32{0x800002b7, 0x00028313, 0x0072a023, far, far, 0x80000000}},
		{"as far as a jump may be", wants("g"), 1<<20 - 34, [6]uint32{0x001002b7, 0x00e28313, 0x0072a723, 0x7ffff0ef, far, 0x0010000e}},
		{"as far back as one may be", wants("main"), -1<<20 + 4, [6]uint32{0xfff002b7, 0x01028313, 0x0072a823, 0x800000ef, far, 0xfff00010}},
		{"as far as a branch may be", wants("g"), 4062, [6]uint32{0x000012b7, 0x00e28313, 0x0072a723, 0x7ff000ef, 0x7e000fe3, 0x0000100e}},
		{"as far back as one may be", wants("main"), -4092, [6]uint32{0xfffff2b7, 0x01028313, 0x0072a823, 0x800ff0ef, 0x80000063, 0xfffff010}},
	}
}

func TestOneRelocation(t *testing.T) {
	// LUI 5; ADDI 6, 5; SW 7 to 5; JAL 1; BEQ 0, 0: each without its Imm.
	unpatched := [6]uint32{0x000002b7, 0x00028313, 0x0072a023, 0x000000ef, 0x00000063}
	for _, c := range patched() {
		for n, w := range c.words[:5] {
			what := c.what + ", Kind " + strconv.Itoa(n+1)
			want := linked(ofThree(w), namesOfThree(c.s)...)
			if w == far {
				want = refused(api.ErrFar)
			}
			holds(t, what, three(unpatched[n], rel(0, n+1, 1, c.add), c.s), want)
		}
		for at := 0; at < 8; at += 4 {
			bytes := ofThree(comeBack)
			copy(bytes[40+at:], image(c.words[5:]))
			holds(t, c.what+", of data", three(comeBack, relData(at, 1, c.add), c.s), linked(bytes, namesOfThree(c.s)...))
		}
	}
}

// All Kinds in one object, each with a symbol of its own and with the same one, among words and bytes of which no relocation is.
func TestManyRelocations(t *testing.T) {
	part := func(s ...api.Sym) api.Object {
		o := api.Object{
			Text: []uint32{0xdeadbeef, 0x000002b7, 0x00028313, 0x000002b7, 0x0072a023, 0x000000ef, 0x000000ef, 0x00000063, 0x000002b7, 0x00000063},
			Data: []byte{1, 2, 3, 4, 5, 6, 7, 8, 9, 10, 11, 12, 13, 14, 15, 16},
			Syms: s,
		}
		of := func(n int) int { return n % len(s) }
		o.Rels = []api.Rel{
			rel(1, api.RHi, of(0), 4), rel(2, api.RLoI, of(0), 4), rel(4, api.RLoS, of(1), 0), rel(5, api.RJal, of(2), 0), rel(7, api.RBranch, of(3), -4),
			relData(4, of(4), 0), relData(12, of(0), 2),
		}
		return o
	}
	// The first stands at 12 and 96, the second at 52 and 112, main at 92.
	main := api.Object{Text: []uint32{comeBack}, Syms: syms(text("main", 0))}
	want := image(startTo(0x05c000ef,
		0xdeadbeef, 0x000002b7, 0x03828313, 0x000002b7, 0x0672a623, 0x00c000ef, 0x000000ef, 0x02000063, 0x000002b7, 0x00000063,
		0xdeadbeef, 0x000002b7, 0x03828313, 0x000002b7, 0x0272aa23, 0xfedff0ef, 0x000000ef, 0xfe0000e3, 0x000002b7, 0x00000063,
		comeBack,
	), 1, 2, 3, 4, 0x70, 0, 0, 0, 9, 10, 11, 12, 0x36, 0, 0, 0, 1, 2, 3, 4, 0x34, 0, 0, 0, 9, 10, 11, 12, 0x36, 0, 0, 0)
	first := part(wants("b"), ownData("q", 12), own("r", 8), wants("s"), wants("e"))
	second := part(text("b", 0))
	second.Syms = append(second.Syms, text("s", 6), data("e", 0))
	holds(t, "all Kinds at once", []api.Object{first, second, main},
		linked(want, link.Named{Name: "b", Address: 52, Frame: 16}, link.Named{Name: "e", Address: 112}, link.Named{Name: "main", Address: 92, Frame: 16}, link.Named{Name: "s", Address: 76, Frame: 16}))
}
