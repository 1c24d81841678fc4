package resolve_test

import (
	"slices"
	"strconv"
	"testing"

	"solder/api"
)

func areNeeds(t *testing.T, what string, objs []api.Object, want ...string) {
	t.Helper()
	model := wantAnswer(objs)
	if !slices.Equal(model.needs, want) {
		t.Fatalf("%s: the test's model says otherwise than the test: %v, want %v", what, model.needs, want)
	}
	holds(t, what, objs, model)
}

func TestNeeds(t *testing.T) {
	areNeeds(t, "no objects", nil)
	areNeeds(t, "no symbols", []api.Object{object(), {}})
	areNeeds(t, "nothing wanted", objects(syms(text("a"), own("b")), syms(data("c"))))
	areNeeds(t, "all wanted is there", objects(syms(text("a"), wants("c")), syms(data("c"), wants("a"))))
	areNeeds(t, "one", objects(syms(wants("a"))), "a")
	areNeeds(t, "one beside one that is there", objects(syms(wants("a"), wants("b")), syms(text("b"))), "a")
	areNeeds(t, "one name in three", objects(syms(wants("a")), syms(text("b"), wants("a")), syms(wants("a"))), "a")
	areNeeds(t, "one name in three, others between", objects(syms(wants("b"), wants("a")), syms(wants("c")), syms(wants("a")), syms(wants("b"))), "a", "b", "c")
	areNeeds(t, "in an order that isn't theirs", objects(syms(wants("z"), wants("m"), wants("a")), syms(wants("q"), wants("b"))), "a", "b", "m", "q", "z")
	areNeeds(t, "those that only some bear that aren't Global", objects(syms(own("a"), ownData("b")), syms(wants("b"), wants("a"))), "a", "b")
	areNeeds(t, "those that aren't Global need nothing", objects(syms(own("a"), ownData("b")), syms(own("b"))))
	areNeeds(t, "main", objects(syms(wants("main"), text("a"))), "main")
}

// Rising: by bytes, what is a beginning of another name ahead of it.
func TestNeedsRise(t *testing.T) {
	rising := []string{".", ".0", "A", "Z", "Zz", "_", "_a", "a", "a.", "a.b", "a0", "a1", "a10", "a2", "aA", "a_", "aa", "aab", "ab", "b"}
	if !slices.IsSorted(rising) {
		t.Fatal("the test's own list doesn't rise")
	}
	from := func(step int) []api.Object {
		objs := make([]api.Object, 3)
		for n := range rising {
			at := n * step % len(rising)
			objs[n%3].Syms = append(objs[n%3].Syms, wants(rising[at]))
			if o := &objs[(n+1)%3]; n%2 == 0 {
				o.Syms = append(o.Syms, wants(rising[at]))
			}
		}
		return objs
	}
	for _, step := range []int{1, 3, 7, 9, 11, 13, 17, 19} {
		areNeeds(t, "names in steps of "+strconv.Itoa(step), from(step), rising...)
	}
	objs := from(7)
	objs = append(objs, object(text("a"), data("a1"), own("aa"), text("Z")))
	areNeeds(t, "beginnings of others are there", objs, ".", ".0", "A", "Zz", "_", "_a", "a.", "a.b", "a0", "a10", "a2", "aA", "a_", "aa", "aab", "ab", "b")
	objs[3] = object(text("aab"), data("a10"), own("a"), text("Zz"))
	areNeeds(t, "what others are beginnings of is there", objs, ".", ".0", "A", "Z", "_", "_a", "a", "a.", "a.b", "a0", "a1", "a2", "aA", "a_", "aa", "ab", "b")
}

// A name that is defined twice is defined: it isn't in need, and others are.
func TestNeedsBesideTwice(t *testing.T) {
	areNeeds(t, "a name twice", objects(syms(text("a")), syms(data("a"))))
	areNeeds(t, "a name twice, wanted", objects(syms(text("a")), syms(data("a")), syms(wants("a"))))
	areNeeds(t, "a name twice, another in need", objects(syms(text("a"), wants("c")), syms(data("a")), syms(wants("b"), wants("a"))), "b", "c")
	areNeeds(t, "two names twice, two in need", objects(syms(wants("y"), text("a"), text("b")), syms(data("a"), wants("x")), syms(wants("x"), text("b"))), "x", "y")
}

func TestNeedsBesideNoObject(t *testing.T) {
	want := object(wants("a"), wants("b"))
	for what, none := range flaws() {
		areNeeds(t, what+", alone", []api.Object{none})
		areNeeds(t, what+", first", []api.Object{none, want, object(text("b"))})
		areNeeds(t, what+", last", []api.Object{want, object(text("b")), none})
	}
	areNeeds(t, "no object, without it", []api.Object{want, object(text("b"))}, "a")
}

func TestManyNeeds(t *testing.T) {
	var objs []api.Object
	var want []string
	for n := range 60 {
		var o api.Object
		for m := range 30 {
			o.Syms = append(o.Syms, wants("n"+strconv.Itoa((n*17+m*11)%500)))
		}
		objs = append(objs, o)
	}
	for n := range 500 {
		if name := "n" + strconv.Itoa(n); n%3 == 0 {
			objs = append(objs, object(text(name)))
		} else {
			want = append(want, name)
		}
	}
	slices.Sort(want)
	areNeeds(t, "many needs", objs, want...)
}
