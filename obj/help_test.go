package obj_test

import (
	"slices"
	"testing"

	"solder/api"
	"solder/code"
	"solder/obj"
)

// word is the word of an instruction.
func word(t testing.TB, i api.Instr) uint32 {
	t.Helper()
	w, e := code.Encode(i)
	if e != api.OK {
		t.Fatalf("Encode(%v): error %d", i, e)
	}
	return w
}

// good is an object that has something of everything: a symbol of each Sect, a relocation of each Kind.
func good(t testing.TB) api.Object {
	t.Helper()
	return api.Object{
		Text: []uint32{
			word(t, api.Instr{Op: api.LUI, Rd: 5}),
			word(t, api.Instr{Op: api.LW, Rd: 6, Rs1: 5}),
			word(t, api.Instr{Op: api.SW, Rs1: 5, Rs2: 7}),
			word(t, api.Instr{Op: api.JAL, Rd: 1}),
			word(t, api.Instr{Op: api.BNE, Rs1: 8, Rs2: 9}),
			0xfedcba98,
			0,
		},
		Data: []byte{1, 2, 3, 4, 5, 6, 7, 255, 0, 0, 0, 0, 0xab, 0xcd, 0xef, 0x10},
		Syms: []api.Sym{
			{Name: "main", Sect: 1, Value: 1, Frame: 32, Global: true},
			{Name: ".L0", Sect: 2, Value: 8},
			{Name: "putw", Global: true},
			{Name: "_v.9", Sect: 2, Value: 16, Global: true},
			{Name: "Z", Sect: 1, Value: 7},
		},
		Rels: []api.Rel{
			{Sect: 1, At: 0, Kind: api.RHi, Sym: 1, Add: -4},
			{Sect: 1, At: 1, Kind: api.RLoI, Sym: 1, Add: -4},
			{Sect: 1, At: 2, Kind: api.RLoS, Sym: 3, Add: 2147483647},
			{Sect: 1, At: 3, Kind: api.RJal, Sym: 2},
			{Sect: 1, At: 4, Kind: api.RBranch, Sym: 4, Add: 10},
			{Sect: 2, At: 4, Kind: api.RWord, Sym: 0},
			{Sect: 2, At: 12, Kind: api.RWord, Sym: 4, Add: -2147483648},
		},
	}
}

// goodText is the text of good.
const goodText = "object\ntext 7\n000002b7\n0002a303\n0072a023\n000000ef\n00941063\nfedcba98\n00000000\n" +
	"data 16\n01020304050607ff\n00000000abcdef10\n" +
	"syms 5\nmain 1 1 32 1\n.L0 2 8 0 0\nputw 0 0 0 1\n_v.9 2 16 0 1\nZ 1 7 0 0\n" +
	"rels 7\n1 0 1 1 -4\n1 1 2 1 -4\n1 2 3 3 2147483647\n1 3 4 2 0\n1 4 5 4 10\n2 4 6 0 0\n2 12 6 4 -2147483648\nend\n"

// nothing is the text of nothing.
const nothing = "object\ntext 0\ndata 0\nsyms 0\nrels 0\nend\n"

// equal tells whether a and b are, place by place.
func equal(a, b api.Object) bool {
	return slices.Equal(a.Text, b.Text) && slices.Equal(a.Data, b.Data) && slices.Equal(a.Syms, b.Syms) && slices.Equal(a.Rels, b.Rels)
}

// clone is o in memory of its own.
func clone(o api.Object) api.Object {
	return api.Object{Text: slices.Clone(o.Text), Data: slices.Clone(o.Data), Syms: slices.Clone(o.Syms), Rels: slices.Clone(o.Rels)}
}

// brief is enough of s to know it again.
func brief(s string) string {
	if len(s) > 600 {
		return s[:300] + " .. " + s[len(s)-300:]
	}
	return s
}

// isOne says whether all calls take o for an object, and its text leads there and back.
func isOne(t *testing.T, what string, o api.Object) {
	t.Helper()
	want := tell(o)
	if e := obj.Check(o); e != api.OK {
		t.Errorf("P5.1: %s: Check: error %d, want none; of\n%s", what, e, brief(want))
	}
	s, e := obj.Print(o)
	if s != want || e != api.OK {
		t.Errorf("P5.1: %s: Print:\n%s, error %d, want\n%s", what, brief(s), e, brief(want))
	}
	back, e := obj.Parse(s)
	if e != api.OK || !equal(back, o) || !obj.Same(back, o) {
		t.Errorf("P5.2: %s: what is printed is parsed to another object, error %d:\n%s", what, e, brief(tell(back)))
	}
	isText(t, what, want)
}

// isText says whether s is parsed, and printed as it was.
func isText(t *testing.T, what, s string) {
	t.Helper()
	o, e := obj.Parse(s)
	if e != api.OK {
		t.Errorf("P5.1: %s: Parse: error %d, want none; of\n%s", what, e, brief(s))
		return
	}
	if back, e := obj.Print(o); back != s || e != api.OK {
		t.Errorf("P5.2: %s: what is parsed is printed otherwise, error %d:\n%s, want\n%s", what, e, brief(back), brief(s))
	}
}

// isNone says whether all calls refuse o, and what stood in its text.
func isNone(t *testing.T, what string, o api.Object) {
	t.Helper()
	s := tell(o)
	if e := obj.Check(o); e != api.ErrForm {
		t.Errorf("P5.1: %s: Check: error %d, want ErrForm; of\n%s", what, e, brief(s))
	}
	if s, e := obj.Print(o); s != "" || e != api.ErrForm {
		t.Errorf("P5.1: %s: Print: %q, error %d, want none, ErrForm", what, brief(s), e)
	}
	isNoText(t, what, s)
}

// isNoText says whether s is refused.
func isNoText(t *testing.T, what, s string) {
	t.Helper()
	o, e := obj.Parse(s)
	if e != api.ErrForm || !equal(o, api.Object{}) {
		t.Errorf("P5.1: %s: Parse: error %d, want none, ErrForm; of\n%s\nanswered\n%s", what, e, brief(s), brief(tell(o)))
	}
}

// is says one or the other.
func is(t *testing.T, what string, o api.Object, want bool) {
	t.Helper()
	if wantObject(o) != want {
		t.Fatalf("%s: the test's own tables say otherwise than the test:\n%s", what, brief(tell(o)))
	}
	if want {
		isOne(t, what, o)
	} else {
		isNone(t, what, o)
	}
}
