package layout_test

import (
	"math/rand"
	"testing"

	"solder/api"
)

// someNumber is most often small, often 0; if there may be a great one, sometimes that.
func someNumber(source *rand.Rand, great int) int {
	switch source.Intn(8) {
	case 0, 1:
		return 0
	case 2, 3, 4:
		return source.Intn(10)
	case 5, 6:
		return 8 * source.Intn(20)
	}
	return source.Intn(great)
}

// Many lists of objects, and their images, are held against the chapter told in another way.
func TestManyLists(t *testing.T) {
	source := rand.New(rand.NewSource(7))
	seen := map[api.Errno]int{}
	whole := 0
	for range 1500 {
		great := 100
		if source.Intn(3) == 0 {
			great = 1 << 22
		}
		var l []size
		for range source.Intn(9) {
			s := size{someNumber(source, great/4), someNumber(source, great)}
			if source.Intn(3) > 0 {
				s.bytes -= s.bytes % 8
			}
			l = append(l, s)
		}
		objs := objects(l)
		want := wantAnswer(objs)
		seen[want.e]++
		if want.e == api.OK && want.bytes%8 == 0 && len(l) > 1 {
			whole++
		}
		holds(t, "some objects", objs, want)
	}
	if seen[api.OK] < 500 || seen[api.ErrLong] < 50 || whole < 200 {
		t.Errorf("%d of 1500 lists are laid, %d too long, %d laid with whole data: the test is too much of another kind", seen[api.OK], seen[api.ErrLong], whole)
	}
}
