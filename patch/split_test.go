package patch_test

import (
	"testing"

	"solder/api"
	"solder/patch"
	"solder/word"
)

// isSplit says whether Hi and Lo of value are as wanted, are the Imms of words that are patched, and are together the value.
func isSplit(t *testing.T, value uint32, hi, lo int) {
	t.Helper()
	if wantHi(value) != hi || wantLo(value) != lo {
		t.Fatalf("the test's model says otherwise than the test: of %#x: %d, %d, want %d, %d", value, wantHi(value), wantLo(value), hi, lo)
	}
	gotHi, gotLo := patch.Hi(value), patch.Lo(value)
	if gotHi != hi || gotLo != lo {
		t.Errorf("P8.1: of %#x: Hi %d, Lo %d, want %d, %d", value, gotHi, gotLo, hi, lo)
	}
	if sum := word.Of(gotHi)*4096 + word.Of(gotLo); sum != value {
		t.Errorf("P8.2: of %#x: Hi %d times 4096 and Lo %d are %#x", value, gotHi, gotLo, sum)
	}
	is(t, "by Hi", call{api.RHi, 0x000002b7, value, 0}, becomes(0x000002b7|uint32(hi)<<12))
	is(t, "by Lo", call{api.RLoI, 0x00010093, value, 0}, becomes(0x00010093|uint32(lo)<<20))
	is(t, "by Lo, of S", call{api.RLoS, 0x01f5a023, value, 0}, becomes(0x01f5a023|uint32(lo)&31<<7|uint32(lo)>>5<<25))
}

// asSplit says whether Hi and Lo of value are those of the model.
func asSplit(t *testing.T, value uint32) {
	t.Helper()
	isSplit(t, value, wantHi(value), wantLo(value))
}

func TestHiAndLo(t *testing.T) {
	for _, c := range []struct {
		value  uint32
		hi, lo int
	}{
		{0xfff, 1, -1}, // the chapter's
		{0, 0, 0}, {1, 0, 1}, {2046, 0, 2046}, {2047, 0, 2047}, {2048, 1, -2048}, {2049, 1, -2047},
		{4094, 1, -2}, {4096, 1, 0}, {4097, 1, 1}, {6143, 1, 2047}, {6144, 2, -2048}, {8191, 2, -1}, {8192, 2, 0},
		{0x12345678, 0x12345, 0x678}, {0x12345800, 0x12346, -2048}, {0x123457ff, 0x12345, 2047}, {0x89abcdef, 0x89abd, -0x211},
		{0x7fffefff, 0x7ffff, -1}, {0x7ffff000, 0x7ffff, 0}, {0x7ffff7fe, 0x7ffff, 2046}, {0x7ffff7ff, 0x7ffff, 2047},
		{0x7ffff800, 0x80000, -2048}, {0x7ffff801, 0x80000, -2047}, {0x7fffffff, 0x80000, -1},
		{0x80000000, 0x80000, 0}, {0x80000001, 0x80000, 1}, {0x800007ff, 0x80000, 2047}, {0x80000800, 0x80001, -2048},
		{0xffffe800, 0xfffff, -2048}, {0xffffefff, 0xfffff, -1}, {0xfffff000, 0xfffff, 0}, {0xfffff001, 0xfffff, 1},
		{0xfffff7fe, 0xfffff, 2046}, {0xfffff7ff, 0xfffff, 2047}, {0xfffff800, 0, -2048}, {0xfffff801, 0, -2047},
		{0xfffffffe, 0, -2}, {0xffffffff, 0, -1},
	} {
		isSplit(t, c.value, c.hi, c.lo)
	}
}

// Each multiple of 2048, those of 4096 among them, with what is next to it on both sides.
func TestNextToMultiples(t *testing.T) {
	for n := range uint32(1 << 21) {
		for by := range uint32(5) {
			value := n*2048 + by - 2
			if patch.Hi(value) != wantHi(value) || patch.Lo(value) != wantLo(value) {
				asSplit(t, value)
			}
		}
		// Words that are patched take more time: a few of them all the way, and all at both ends and in the middle.
		if near := n % (1 << 20); near <= 20 || near >= 1<<20-20 || n%1009 == 0 {
			for by := range uint32(5) {
				asSplit(t, n*2048+by-2)
			}
		}
	}
	for _, value := range values() {
		asSplit(t, value)
	}
}

// Within its 4096 Lo goes from -2048 to 2047, and Hi is one.
func TestAllOfOneHi(t *testing.T) {
	for _, hi := range []int{0, 1, 0x12345, 0x7ffff, 0x80000, 0xfffff} {
		for lo := -2048; lo < 2048; lo++ {
			isSplit(t, word.Of(hi*4096+lo), hi, lo)
		}
	}
}
