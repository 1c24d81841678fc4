package patch_test

import (
	"math"
	"slices"
	"testing"

	"solder/api"
	"solder/code"
)

// Words as an assembler makes them: without their Imm, and patched.
func TestWords(t *testing.T) {
	for _, c := range []struct {
		what         string
		kind         int
		w            uint32
		value, place uint32
		want         uint32
	}{
		{"the chapter's jump", api.RJal, 0x000000ef, 108, 100, 0x008000ef},
		{"LUI 5", api.RHi, 0x000002b7, 0x12345678, 0, 0x123452b7},
		{"LUI 5, one more", api.RHi, 0x000002b7, 0x12345800, 0, 0x123462b7},
		{"LUI 13", api.RHi, 0x000006b7, 0x12344fff, 0, 0x123456b7},
		{"LUI 31, all bits", api.RHi, 0x00000fb7, 0xfffff7ff, 0, 0xffffffb7},
		{"LUI 31, all round", api.RHi, 0x00000fb7, 0xfffff800, 0, 0x00000fb7},
		{"LUI 0", api.RHi, 0x00000037, 0x7ffff800, 0, 0x80000037},
		{"ADDI 1, 2", api.RLoI, 0x00010093, 0x00000fff, 0, 0xfff10093},
		{"ADDI 18, 23", api.RLoI, 0x000b8913, 0x12345800, 0, 0x800b8913},
		{"SLTI 19, 24", api.RLoI, 0x000c2993, 0xfffff7ff, 0, 0x7ffc2993},
		{"SLTIU 20, 25", api.RLoI, 0x000cba13, math.MaxUint32, 0, 0xfffcba13},
		{"XORI 21, 26", api.RLoI, 0x000d4a93, 0x00001001, 0, 0x001d4a93},
		{"ORI 22, 27", api.RLoI, 0x000deb13, 0x55555555, 0, 0x555deb13},
		{"ANDI 23, 28", api.RLoI, 0x000e7b93, 0xaaaaaaaa, 0, 0xaaae7b93},
		{"LB 27, 7", api.RLoI, 0x00038d83, 0x800, 0, 0x80038d83},
		{"LBU 28, 8", api.RLoI, 0x00044e03, 0x2005, 0, 0x00544e03},
		{"LW 29, 9", api.RLoI, 0x0004ae83, 0x1ffd, 0, 0xffd4ae83},
		{"JALR 1, 5", api.RLoI, 0x000280e7, 0xfffffffd, 0, 0xffd280e7},
		{"FLD 17, 2", api.RLoI, 0x00013887, 0x12344ff8, 0, 0xff813887},
		{"SB 10, 30", api.RLoS, 0x01e50023, 0xfff, 0, 0xffe50fa3},
		{"SW 11, 31", api.RLoS, 0x01f5a023, 0x7ff, 0, 0x7ff5afa3},
		{"FSD 25, 24", api.RLoS, 0x018cb027, 0x1800, 0, 0x818cb027},
		{"BEQ 0, 0", api.RBranch, 0x00000063, 0, 4096, 0x80000063},
		{"BNE 1, 5", api.RBranch, 0x00509063, 4094, 0, 0x7e509fe3},
		{"BLT 2, 10", api.RBranch, 0x00a14063, 2148, 100, 0x00a140e3},
		{"BGE 3, 15", api.RBranch, 0x00f1d063, 98, 100, 0xfef1dfe3},
		{"BLTU 4, 20", api.RBranch, 0x01426063, 0x80000400, 0x80000000, 0x41426063},
		{"BGEU 5, 25", api.RBranch, 0x0192f063, 26, 0xfffffffc, 0x0192ff63},
		{"JAL 1, far back", api.RJal, 0x000000ef, 0, 1 << 20, 0x800000ef},
		{"JAL 0, far on", api.RJal, 0x0000006f, 1048574, 0, 0x7ffff06f},
		{"JAL 15", api.RJal, 0x000007ef, 2060, 12, 0x001007ef},
		{"JAL 16", api.RJal, 0x0000086f, 349524, 0, 0x5545586f},
		{"JAL 17", api.RJal, 0x000008ef, 0, 21846, 0xaabfa8ef},
		{"JAL 31, on", api.RJal, 0x00000fef, 2, 0, 0x00200fef},
		{"JAL 31, back", api.RJal, 0x00000fef, math.MaxUint32, 1, 0xffffffef},
		{"a word", api.RWord, 0, 77, 5, 77},
		{"a word of all bits", api.RWord, 0xffffffff, 0x80000000, 5, 0x80000000},
	} {
		is(t, c.what, call{c.kind, c.w, c.value, c.place}, becomes(c.want))
	}
}

// What a value is told by doesn't hang on the place, but for jumps and branches.
func TestPlacesThatDoNotMatter(t *testing.T) {
	for _, c := range []call{{api.RHi, 0x000002b7, 0x12345800, 0}, {api.RLoI, 0x00010093, 0x12345fff, 0}, {api.RLoS, 0x01f5a023, 0xfffff7ff, 0}, {api.RWord, 7, 0x12345fff, 0}} {
		want := wantAnswer(c)
		for _, c.place = range values() {
			is(t, "at any place", c, want)
		}
	}
}

// Each Kind is asked with words of each operation: those that it patches, those that others patch, and those that none does.
func TestEachKindWithEachOperation(t *testing.T) {
	patched := map[int]map[int]int{}
	for _, one := range instrs() {
		w := encoded(t, one.i)
		for _, kind := range kinds() {
			c := call{kind, w, 0x1234, 0x1200}
			got := asModel(t, "a word of an operation", c)
			if kind == api.RWord {
				is(t, "a word", c, becomes(0x1234))
				continue
			}
			if (got.e == api.OK) != (kind == one.kind) {
				t.Errorf("P8.1: Kind %d, %v: error %d", kind, one.i, got.e)
			}
			if got.e == api.OK {
				if patched[kind] == nil {
					patched[kind] = map[int]int{}
				}
				patched[kind][one.i.Op]++
			}
		}
	}
	for kind, ops := range map[int]int{api.RHi: 1, api.RLoI: 11, api.RLoS: 3, api.RJal: 1, api.RBranch: 6} {
		if len(patched[kind]) != ops {
			t.Errorf("Kind %d patches %d operations, want %d", kind, len(patched[kind]), ops)
		}
	}
}

// Whatever the value is, and however far, an Imm that is there already is no such word.
func TestImmThatIsThere(t *testing.T) {
	for _, one := range instrs() {
		if one.kind == 0 {
			continue
		}
		for _, imm := range []int{2, -2, 4, -4, 8, 16, 32, 64, 128, 256, 512, 1024, 1, -1, 2047, -2048, -4096, 2048, 4094, 4096, 1 << 19, 1<<20 - 2, 1<<20 - 1, -1 << 20} {
			i := one.i
			if i.Imm = imm; !code.Fits(i.Op, imm) {
				continue
			}
			w := encoded(t, i)
			for _, value := range []uint32{0, 8, uint32(imm), -uint32(imm), 0x12345678, 0x80000001} {
				is(t, "an Imm that isn't 0", call{one.kind, w, value, 0}, noWord)
				is(t, "a word with an Imm", call{api.RWord, w, value, 0}, becomes(value))
			}
		}
	}
}

// Each bit of an Imm makes it another word than one that can be patched.
func TestEachBitOfAnImm(t *testing.T) {
	for _, one := range instrs() {
		w := encoded(t, one.i)
		for bit := range 32 {
			other := w ^ 1<<bit
			for _, kind := range kinds()[:5] {
				want := asModel(t, "a word with a bit changed", call{kind, other, 0x20, 0})
				if kind == one.kind && immBits(kind)>>bit&1 == 1 && want != noWord {
					t.Errorf("the test's model takes %#08x for Kind %d", other, kind)
				}
			}
		}
	}
}

// noInstrs are words that aren't instructions, some of them next to those that are.
func noInstrs(t *testing.T) []uint32 {
	t.Helper()
	l := []uint32{
		0, math.MaxUint32, 1, 0x12345678, 0x80000000, 0x0000007f, 0x00000036, 0x00000035, 0x00000033 | 2<<25, 0x0000006e, 0x0000006b,
		0x00001003, 0x00003003, 0x00005003, 0x00006003, 0x00007003, 0x00001067, 0x00007067, 0x00000007, 0x00002007, 0x00004007,
		0x00001023, 0x00003023, 0x00004023, 0x00007023, 0x00000027, 0x00002027, 0x00007027, 0x00002063, 0x00003063, 0x00000173, 0x00100073,
	}
	for _, w := range l {
		if i, e := code.Decode(w); e == api.OK {
			t.Fatalf("%#08x is %v", w, i)
		}
	}
	return l
}

func TestNoInstruction(t *testing.T) {
	for _, w := range noInstrs(t) {
		for _, value := range []uint32{0, 1, 4, 0x12345678, 0x80000000, math.MaxUint32} {
			for _, kind := range kinds()[:5] {
				is(t, "no instruction", call{kind, w, value, 0}, noWord)
			}
			is(t, "no instruction", call{api.RWord, w, value, 0}, becomes(value))
		}
	}
}

// RWord takes any word for any other one.
func TestAnyWord(t *testing.T) {
	for _, w := range values() {
		for _, value := range values() {
			is(t, "a word", call{api.RWord, w, value, w - value}, becomes(value))
		}
	}
}

// A kind that is none comes first, whatever else there is.
func TestNoKind(t *testing.T) {
	words := noInstrs(t)
	for _, one := range instrs() {
		words = append(words, encoded(t, one.i))
	}
	words = append(words, 0xfff10093, 0x123456b7, 0x008000ef, 0x7ff5afa3, 0x0192ff63)
	for _, kind := range noKinds() {
		if slices.Contains(kinds(), kind) {
			t.Fatalf("%d is a kind", kind)
		}
		for _, w := range words {
			for _, value := range []uint32{0, 1, 8, 0x80000000, 1 << 20, math.MaxUint32} {
				is(t, "no kind", call{kind, w, value, 0}, noKind)
			}
		}
	}
}

// The registers, and which instruction it is, stay: only the Imm is another.
func TestRegistersStay(t *testing.T) {
	for _, one := range instrs() {
		if one.kind == 0 {
			continue
		}
		for _, value := range []uint32{0, 4, 0x7fe, 0x800, 0xffe, 0xfffff800, 0xfffff000} {
			for r := range 32 {
				i := one.i
				for _, part := range []*int{&i.Rd, &i.Rs1, &i.Rs2} {
					if *part != 0 {
						*part = r
					}
				}
				w := encoded(t, i)
				got := ask(call{one.kind, w, value, 0})
				back, e := code.Decode(got.w)
				if i.Imm = back.Imm; got.e != api.OK || e != api.OK || back != i || got.w&^immBits(one.kind) != w {
					t.Errorf("P8.1: Kind %d of %#08x and %#x: %#08x, error %d: %v, want %v", one.kind, w, value, got.w, got.e, back, i)
				}
				is(t, "with other registers", call{one.kind, w, value, 0}, becomes(got.w))
			}
		}
	}
}

// What is patched can't be patched once more, unless it became 0.
func TestPatchedTwice(t *testing.T) {
	for _, one := range instrs() {
		if one.kind == 0 {
			continue
		}
		w := encoded(t, one.i)
		once := asModel(t, "once", call{one.kind, w, 0x7f4, 0x7ec})
		is(t, "twice", call{one.kind, once.w, 0x7f4, 0x7ec}, map[bool]answer{true: once, false: noWord}[once.w == w])
		is(t, "by what is 0", call{one.kind, w, 0x1000, 0x1000}, map[bool]answer{true: becomes(w | 1<<12), false: becomes(w)}[one.kind == api.RHi])
	}
}

// Errors of two sorts at once: a kind that is none is told ahead of a word that is none such, and that ahead of what is too far.
func TestWhichErrorIsFirst(t *testing.T) {
	const jump, branch, add, jumpBy4 = 0x000000ef, 0x00208063, 0x002081b3, 0x004000ef
	for _, c := range []struct {
		what string
		c    call
		want answer
	}{
		{"no kind, no instruction", call{0, 0, 0, 0}, noKind},
		{"no kind, no instruction, far", call{7, 0, 0x80000000, 0}, noKind},
		{"no kind, an Imm", call{7, jumpBy4, 0, 0}, noKind},
		{"no kind, far", call{-1, jump, 0x80000000, 0}, noKind},
		{"no kind, odd", call{7, branch, 3, 0}, noKind},
		{"no instruction, far", call{api.RJal, 0, 0x80000000, 0}, noWord},
		{"no instruction, odd", call{api.RBranch, 0, 3, 0}, noWord},
		{"another operation, far", call{api.RJal, add, 0x80000000, 0}, noWord},
		{"another operation, odd", call{api.RBranch, add, 3, 0}, noWord},
		{"a branch for a jump, far", call{api.RJal, branch, 0x80000000, 0}, noWord},
		{"a jump for a branch, far for a branch", call{api.RBranch, jump, 8192, 0}, noWord},
		{"a jump for a branch, far", call{api.RBranch, jump, 0x80000000, 0}, noWord},
		{"an Imm, far", call{api.RJal, jumpBy4, 0x80000000, 0}, noWord},
		{"an Imm, odd", call{api.RJal, jumpBy4, 3, 0}, noWord},
		{"far alone", call{api.RJal, jump, 0x80000000, 0}, tooFar},
		{"odd alone", call{api.RBranch, branch, 3, 0}, tooFar},
		{"a jump's for a branch", call{api.RBranch, branch, 8192, 0}, tooFar},
		{"a jump's for a jump", call{api.RJal, jump, 8192, 0}, becomes(0x000020ef)},
	} {
		is(t, c.what, c.c, c.want)
	}
}

// An answer hangs on nothing that was asked ahead of it.
func TestAskedAgain(t *testing.T) {
	for range 3 {
		is(t, "a jump", call{api.RJal, 0x000000ef, 108, 100}, becomes(0x008000ef))
		is(t, "no kind", call{0, 0x000000ef, 108, 100}, noKind)
		is(t, "far", call{api.RJal, 0x000000ef, 1 << 20, 0}, tooFar)
		is(t, "no word", call{api.RBranch, 0x000000ef, 108, 100}, noWord)
		isSplit(t, 0xfff, 1, -1)
	}
}
