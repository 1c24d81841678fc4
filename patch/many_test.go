package patch_test

import (
	"math/rand"
	"testing"

	"solder/api"
)

// anyCall is one of all sorts: with a word that is patched mostly, with values near the place and anywhere.
func anyCall(source *rand.Rand, words []uint32) call {
	c := call{kind: source.Intn(8), w: words[source.Intn(len(words))], value: source.Uint32(), place: source.Uint32()}
	if source.Intn(4) > 0 {
		c.kind = wantKind(c.w)
	}
	if source.Intn(8) == 0 {
		c.w ^= 1 << source.Intn(32)
	}
	if reach := 1 << (1 + source.Intn(22)); source.Intn(4) > 0 {
		c.value = c.place + uint32(source.Intn(2*reach)-reach)
	}
	if source.Intn(2) == 0 {
		c.value -= (c.value - c.place) % 2
	}
	return c
}

func TestManyCalls(t *testing.T) {
	source := rand.New(rand.NewSource(8))
	var words []uint32
	for _, one := range instrs() {
		words = append(words, encoded(t, one.i))
		if one.kind != 0 {
			words = append(words, words[len(words)-1], words[len(words)-1])
		}
	}
	seen := map[answer]int{}
	kind := map[int]int{}
	for range 200000 {
		c := anyCall(source, words)
		got := asModel(t, "some call", c)
		if got.e == api.OK {
			kind[c.kind]++
		}
		seen[answer{e: got.e}]++
	}
	for _, e := range []api.Errno{api.OK, api.ErrRange, api.ErrForm, api.ErrFar} {
		if seen[answer{e: e}] < 5000 {
			t.Errorf("only %d calls with error %d", seen[answer{e: e}], e)
		}
	}
	for _, k := range kinds() {
		if kind[k] < 1000 {
			t.Errorf("only %d calls of Kind %d that are carried out", kind[k], k)
		}
	}
}

func TestManyValues(t *testing.T) {
	source := rand.New(rand.NewSource(9))
	for range 200000 {
		asSplit(t, source.Uint32())
	}
}
