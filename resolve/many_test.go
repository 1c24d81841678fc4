package resolve_test

import (
	"math/rand"
	"testing"

	"solder/api"
)

// someObject has some symbols of few names, so that they often meet; most often it is an object.
func someObject(source *rand.Rand) api.Object {
	names := []string{"main", "a", "b", "c", "aa", "_", "a.", "B"}
	source.Shuffle(len(names), func(i, j int) { names[i], names[j] = names[j], names[i] })
	var o []api.Sym
	for _, name := range names[:source.Intn(5)] {
		kinds := []func(string) api.Sym{text, text, data, own, own, ownData, wants}
		o = append(o, kinds[source.Intn(len(kinds))](name))
	}
	if source.Intn(25) == 0 {
		o = append(o, own("a"), own("a"))
	}
	return object(o...)
}

// Many lists of objects, in all orders of a few, are held against the chapter told in another way.
func TestManyLists(t *testing.T) {
	source := rand.New(rand.NewSource(6))
	seen := map[api.Errno]int{}
	mains, needs := 0, 0
	for range 6000 {
		objs := make([]api.Object, source.Intn(6))
		for n := range objs {
			objs[n] = someObject(source)
		}
		want := wantAnswer(objs)
		seen[want.e]++
		if want.mainE == api.OK {
			mains++
		}
		if len(want.needs) > 1 {
			needs++
		}
		holds(t, "some objects", objs, want)
	}
	for _, e := range []api.Errno{api.OK, api.ErrForm, api.ErrTwice, api.ErrNone} {
		if seen[e] < 300 {
			t.Errorf("%d of 6000 lists lead to error %d: the test is too much of another kind", seen[e], e)
		}
	}
	if mains < 100 || needs < 300 {
		t.Errorf("%d of 6000 lists have a main, %d need more than one: the test is too much of another kind", mains, needs)
	}
}
