package patch_test

import (
	"math"
	"testing"

	"solder/api"
)

// reach is a Kind that tells what is far, with words of each operation that it patches, and how far these may be.
type reach struct {
	kind        int
	words       []uint32
	least, most int
}

func reaches(t *testing.T) []reach {
	t.Helper()
	all := []reach{{kind: api.RJal, least: -1 << 20, most: 1<<20 - 2}, {kind: api.RBranch, least: -4096, most: 4094}}
	for n := range all {
		for _, one := range instrs() {
			if one.kind == all[n].kind {
				all[n].words = append(all[n].words, encoded(t, one.i))
			}
		}
	}
	return all
}

// places are where something is patched: the ends of all words, and of those below 2^31, and others.
func places() []uint32 {
	return []uint32{
		0, 1, 2, 3, 4, 100, 4095, 4096, 1<<20 - 2, 1 << 20, 1 << 21, 0x7ffff000, 0x7ffffffe, 0x7fffffff,
		0x80000000, 0x80000001, 0x80000004, 0xfff00000, 0xfffff000, 0xfffffffc, 0xfffffffe, 0xffffffff,
	}
}

// isFar says whether what is so far from each place is answered as wanted, for each word; mayBe: whether it may be.
func isFar(t *testing.T, what string, r reach, far int, mayBe bool) {
	t.Helper()
	for _, w := range r.words {
		for _, place := range places() {
			c := call{r.kind, w, uint32(int(place) + far), place}
			if want := wantAnswer(c); (want != tooFar) != mayBe {
				t.Fatalf("the test's model says otherwise than the test: %s, Kind %d, %d from %#x: error %d", what, r.kind, far, place, want.e)
			}
			asModel(t, what, c)
		}
	}
}

func TestFarEnds(t *testing.T) {
	for _, r := range reaches(t) {
		if len(r.words) == 0 {
			t.Fatalf("Kind %d patches nothing", r.kind)
		}
		for _, far := range []int{0, 2, -2, 4, -4, 6, -6, 8, -8, 2046, 2048, 2050, -2046, -2048, -2050, r.most, r.most - 2, r.most - 4, r.least, r.least + 2, r.least + 4} {
			isFar(t, "near enough", r, far, true)
		}
		for _, far := range []int{r.most + 2, r.most + 4, r.most + 6, r.least - 2, r.least - 4, r.least - 6, 2 * r.most, 2 * r.least, 2*r.most + 4, 4 * r.most, 4 * r.least} {
			isFar(t, "beyond an end", r, far, false)
		}
		for _, far := range []int{1, -1, 3, -3, 5, 7, -7, 2047, -2047, r.most - 1, r.most + 1, r.most + 3, r.least - 1, r.least + 1, r.least + 3, r.least - 3} {
			isFar(t, "odd", r, far, false)
		}
	}
}

// Each bit of what is far comes to its own place in the word.
func TestEachBitOfFar(t *testing.T) {
	for _, r := range reaches(t) {
		for bit := 1; 1<<bit <= r.most; bit++ {
			isFar(t, "a bit", r, 1<<bit, true)
			isFar(t, "all bits but one", r, r.most-1<<bit, true)
			isFar(t, "a bit, back", r, -1<<bit, true)
			isFar(t, "a bit, odd", r, 1<<bit+1, false)
		}
	}
}

// Nowhere does what is far become near again by its lowest bits, though these are those of something near.
func TestFarAway(t *testing.T) {
	for _, r := range reaches(t) {
		for bit := range 32 {
			for _, near := range []int{0, 4, -4, r.most, r.least} {
				far := wantFar(uint32(1<<bit+near), 0)
				isFar(t, "a power of 2 away", r, far, far >= r.least && far <= r.most && far%2 == 0)
			}
		}
		for _, far := range []int{math.MinInt32, math.MinInt32 + 2, math.MinInt32 + 4, math.MaxInt32, math.MaxInt32 - 1, math.MaxInt32 - 3} {
			isFar(t, "as far as can be", r, far, false)
		}
	}
}

// Where the least and the greatest word are next to each other, and where those that mean the greatest and the least are.
func TestAroundTheEndsOfWords(t *testing.T) {
	const jump, branch = 0x000000ef, 0x00000063
	for _, c := range []struct {
		what         string
		kind         int
		w            uint32
		value, place uint32
		want         answer
	}{
		{"over the end", api.RJal, jump, 0, 0xfffffffc, becomes(0x004000ef)},
		{"over the end, back", api.RJal, jump, 0xfffffffc, 0, becomes(0xffdff0ef)},
		{"over the end, as far as may be", api.RJal, jump, 0xffffe, 0, becomes(0x7ffff0ef)},
		{"over the end, as far back as may be", api.RJal, jump, 0xfff00000, 0, becomes(0x800000ef)},
		{"over the end, a step more", api.RJal, jump, 0x000ffffc, 0xfffffffc, tooFar},
		{"over the end, a step more back", api.RJal, jump, 0xffeffffe, 0, tooFar},
		{"over the end, odd", api.RJal, jump, 1, 0xfffffffc, tooFar},
		{"over the middle", api.RJal, jump, 0x80000000, 0x7ffffffc, becomes(0x004000ef)},
		{"over the middle, back", api.RJal, jump, 0x7ffffffc, 0x80000000, becomes(0xffdff0ef)},
		{"half round", api.RJal, jump, 0x80000000, 0, tooFar},
		{"half round, back", api.RJal, jump, 0, 0x80000000, tooFar},
		{"half round from the middle", api.RJal, jump, 0x3ffffffe, 0xc0000000, tooFar},
		{"the greatest from the least", api.RJal, jump, 0xffffffff, 0, tooFar},
		{"the least from the greatest", api.RJal, jump, 0, 0xffffffff, tooFar},
		{"both odd", api.RJal, jump, 3, 0xffffffff, becomes(0x004000ef)},
		{"a branch over the end", api.RBranch, branch, 0xffe, 0, becomes(0x7e000fe3)},
		{"a branch over the end, from behind", api.RBranch, branch, 0xffa, 0xfffffffc, becomes(0x7e000fe3)},
		{"a branch over the end, a step more", api.RBranch, branch, 0xffc, 0xfffffffc, tooFar},
		{"a branch over the end, back", api.RBranch, branch, 0xfffff000, 0, becomes(0x80000063)},
		{"a branch over the end, a step more back", api.RBranch, branch, 0xffffeffe, 0, tooFar},
		{"a branch, half round", api.RBranch, branch, 0x80000000, 0, tooFar},
	} {
		is(t, c.what, call{c.kind, c.w, c.value, c.place}, c.want)
	}
}

// All that a branch may be, and a good deal beyond.
func TestAllBranches(t *testing.T) {
	for far := -5000; far <= 5000; far++ {
		asModel(t, "a branch", call{api.RBranch, 0x0192f063, uint32(1<<20 + far), 1 << 20})
	}
}
