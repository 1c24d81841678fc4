package resolve_test

import (
	"math"
	"strconv"
	"strings"
	"testing"

	"solder/api"
	"solder/helps"
	"solder/resolve"
)

func TestNoObjects(t *testing.T) {
	holds(t, "nil", nil, answer{mainE: api.ErrMain})
	holds(t, "an empty list", []api.Object{}, answer{mainE: api.ErrMain})
}

func TestObjectsWithoutSymbols(t *testing.T) {
	nothing := api.Object{}
	empty := api.Object{Text: []uint32{}, Data: []byte{}, Syms: []api.Sym{}, Rels: []api.Rel{}}
	holds(t, "an object of nothing", []api.Object{nothing}, resolved(at(0, 0), api.ErrMain, nil))
	holds(t, "one of empty lists", []api.Object{empty}, resolved(at(0, 0), api.ErrMain, nil))
	holds(t, "one without symbols", []api.Object{object()}, resolved(at(0, 0), api.ErrMain, nil))
	holds(t, "three", []api.Object{nothing, object(), empty}, resolved(at(0, 0), api.ErrMain, nil, nil, nil))
	holds(t, "around one with symbols", []api.Object{nothing, object(text("main"), data("a")), empty},
		resolved(at(1, 0), api.OK, nil, targets(at(1, 0), at(1, 1)), nil))
	holds(t, "between two with symbols", []api.Object{object(wants("a")), nothing, object(own("b"), data("a"))},
		resolved(at(0, 0), api.ErrMain, targets(at(2, 1)), nil, targets(at(2, 0), at(2, 1))))
}

func TestOneObject(t *testing.T) {
	holds(t, "a text's", []api.Object{object(text("a"))}, resolved(at(0, 0), api.ErrMain, targets(at(0, 0))))
	holds(t, "data's", []api.Object{object(data("a"))}, resolved(at(0, 0), api.ErrMain, targets(at(0, 0))))
	holds(t, "its own", []api.Object{object(own("a"), ownData("b"))}, resolved(at(0, 0), api.ErrMain, targets(at(0, 0), at(0, 1))))
	holds(t, "of all kinds but elsewhere's", []api.Object{object(text("a"), own("b"), data("c"), ownData("d"), text("main"))},
		resolved(at(0, 4), api.OK, targets(at(0, 0), at(0, 1), at(0, 2), at(0, 3), at(0, 4))))
	holds(t, "elsewhere's", []api.Object{object(wants("a"))}, refused(api.ErrNone, at(0, 0), "a"))
	holds(t, "elsewhere's, last", []api.Object{object(text("main"), own("b"), wants("a"))}, refused(api.ErrNone, at(0, 2), "a"))
}

func TestManyObjects(t *testing.T) {
	const many = 400
	var objs []api.Object
	want := answer{main: at(many-7, 3)}
	name := func(n int) string { return "s" + strconv.Itoa(n%many) }
	for n := range many {
		next, far := (n+1)%many, (n*7+3)%many
		if far == next || far == n {
			far = (n + many/2) % many
		}
		o := object(wants(name(next)), own("here"), text(name(n)), wants(name(far)), data("d"+strconv.Itoa(n)))
		l := targets(at(next, 2), at(n, 1), at(n, 2), at(far, 2), at(n, 4))
		if n == many-7 {
			o.Syms[3] = text("main")
			l[3] = at(n, 3)
		}
		objs = append(objs, o)
		want.targets = append(want.targets, l)
	}
	holds(t, "many objects", objs, want)

	twice := helps.Clone(objs)
	twice[many-1].Syms[0], twice[many-1].Syms[2] = wants("s5"), text("s0")
	holds(t, "the first's name once more in the last of many", twice, refused(api.ErrTwice, at(many-1, 2), "s399"))
	none := helps.Clone(objs)
	none[many/2].Syms[3] = wants("nobody")
	holds(t, "one without a target in the midst of many", none, refused(api.ErrNone, at(many/2, 3), "nobody"))
	form := helps.Clone(objs)
	form[many-1].Data = make([]byte, 7)
	holds(t, "the last of many is no object", form, refused(api.ErrForm, at(many-1, 0)))
}

// The most symbols that an object may have, each of them wanted in another one, in another order.
func TestManySymbols(t *testing.T) {
	const many = api.MaxSyms
	there, wanted := api.Object{Text: make([]uint32, many)}, api.Object{}
	want := resolved(at(0, 500), api.OK, nil, nil)
	ofLast := 0
	for n := range many {
		name := "s" + strconv.Itoa(n)
		other := (n*7 + 5) % many
		if n == 500 {
			name = "main"
		}
		there.Syms = append(there.Syms, api.Sym{Name: name, Sect: 1, Value: n, Global: true})
		want.targets[0] = append(want.targets[0], at(0, n))
		want.targets[1] = append(want.targets[1], at(0, other))
		wanted.Syms = append(wanted.Syms, wants("s"+strconv.Itoa(other)))
		if other == 500 {
			wanted.Syms[n] = wants("main")
		}
		if other == many-1 {
			ofLast = n
		}
	}
	holds(t, "600 symbols", []api.Object{there, wanted}, want)
	there.Syms = there.Syms[:many-1]
	holds(t, "599 of 600 symbols", []api.Object{there, wanted}, refused(api.ErrNone, at(1, ofLast), "s599"))
}

// flaws are objects each of which is none for another reason.
func flaws() map[string]api.Object {
	all := map[string]api.Object{}
	flaw := func(what string, do func(o *api.Object)) {
		o := object(text("f"), own("g"), wants("main"))
		do(&o)
		all[what] = o
	}
	flaw("a name twice", func(o *api.Object) { o.Syms[1].Name = "f" })
	flaw("a name that is defined and wanted", func(o *api.Object) { o.Syms[2].Name = "f" })
	flaw("a name of nothing", func(o *api.Object) { o.Syms[0].Name = "" })
	flaw("a name with a digit first", func(o *api.Object) { o.Syms[0].Name = "9f" })
	flaw("a name that is too long", func(o *api.Object) { o.Syms[0].Name = strings.Repeat("f", 41) })
	flaw("a Frame of 8", func(o *api.Object) { o.Syms[0].Frame = 8 })
	flaw("a Sect 3", func(o *api.Object) { o.Syms[0].Sect = 3 })
	flaw("a Sect below 0", func(o *api.Object) { o.Syms[1].Sect = -1 })
	flaw("a Value behind the text", func(o *api.Object) { o.Syms[0].Value = 3 })
	flaw("one of elsewhere that isn't Global", func(o *api.Object) { o.Syms[2].Global = false })
	flaw("one of elsewhere with a Frame", func(o *api.Object) { o.Syms[2].Frame = 16 })
	flaw("seven bytes of data", func(o *api.Object) { o.Data = o.Data[:7] })
	flaw("a relocation of no symbol", func(o *api.Object) { o.Rels[0].Sym = 3 })
	flaw("a relocation at no LUI", func(o *api.Object) { o.Rels[0].At = 1 })
	flaw("a relocation far away", func(o *api.Object) { o.Rels[0].At = math.MaxInt })
	flaw("too many symbols", func(o *api.Object) {
		for n := range api.MaxSyms {
			o.Syms = append(o.Syms, own("s"+strconv.Itoa(n)))
		}
	})
	flaw("no symbols, and nine bytes", func(o *api.Object) { *o = api.Object{Data: make([]byte, 9)} })
	return all
}

// ErrForm tells of an object, never of a symbol of it.
func TestNoneAmongThem(t *testing.T) {
	a, b, c := object(text("main"), wants("x")), object(data("x")), object(own("x"), wants("main"))
	for what, none := range flaws() {
		holds(t, what+", alone", []api.Object{none}, refused(api.ErrForm, at(0, 0)))
		holds(t, what+", first", []api.Object{none, a, b, c}, refused(api.ErrForm, at(0, 0)))
		holds(t, what+", second", []api.Object{a, none, b, c}, refused(api.ErrForm, at(1, 0)))
		holds(t, what+", third", []api.Object{a, b, none, c}, refused(api.ErrForm, at(2, 0)))
		holds(t, what+", last", []api.Object{a, b, c, none}, refused(api.ErrForm, at(3, 0)))
		for other, second := range flaws() {
			holds(t, what+" and "+other, []api.Object{a, none, b, second}, refused(api.ErrForm, at(1, 0)))
		}
		holds(t, what+", first and last", []api.Object{none, a, none}, refused(api.ErrForm, at(0, 0)))
		holds(t, what+", at all places", []api.Object{none, none, none}, refused(api.ErrForm, at(0, 0)))
	}
}

// What would be within one object is no object: it is told as such, wherever the name is.
func TestTwiceWithinOneObject(t *testing.T) {
	both := []api.Object{object(text("a")), object(own("c"), text("b"), data("b"))}
	holds(t, "a name defined twice in one object", both, refused(api.ErrForm, at(1, 0)))
	holds(t, "a name wanted and defined in one object", objects(syms(wants("a"), text("a")), syms(text("b"))), refused(api.ErrForm, at(0, 0)))
	holds(t, "and defined in another one too", objects(syms(data("a")), syms(text("a"), wants("a"))), refused(api.ErrForm, at(1, 0)))
	holds(t, "a name wanted twice in one object", objects(syms(data("a")), syms(wants("a"), wants("a"))), refused(api.ErrForm, at(1, 0)))
}

func TestDefinedTwice(t *testing.T) {
	for _, c := range []struct {
		what string
		objs []api.Object
		at   resolve.Target
	}{
		{"in neighbours", objects(syms(text("a")), syms(text("a"))), at(1, 0)},
		{"in neighbours, in other sections", objects(syms(text("a")), syms(data("a"))), at(1, 0)},
		{"in neighbours, in data", objects(syms(data("b"), data("a")), syms(own("c"), ownData("b"), data("a"))), at(1, 2)},
		{"main", objects(syms(text("main")), syms(text("main"))), at(1, 0)},
		{"main, once in data", objects(syms(data("main")), syms(own("x"), text("main"))), at(1, 1)},
		{"in two far apart", objects(syms(own("q"), text("a")), nil, syms(text("b")), syms(wants("a")), syms(text("c"), own("b"), data("a"))), at(4, 2)},
		{"three times", objects(syms(text("a")), syms(data("a")), syms(text("a"))), at(1, 0)},
		{"three times, from the second on", objects(syms(text("b")), syms(data("a")), syms(own("b"), text("a")), syms(text("a"))), at(2, 1)},
		{"two names in the same two", objects(syms(text("a"), text("b")), syms(text("b"), text("a"))), at(1, 0)},
		{"two names in the same two, the other way", objects(syms(text("a"), text("b")), syms(text("a"), text("b"))), at(1, 0)},
		{"two names, one within the other's", objects(syms(text("a")), syms(text("b")), syms(own("x"), text("b")), syms(text("a"))), at(2, 1)},
		{"two names, crossed", objects(syms(text("a")), syms(text("b")), syms(own("x"), text("a")), syms(text("b"))), at(2, 1)},
		{"two names, one behind the other", objects(syms(text("z")), syms(text("z")), syms(text("a")), syms(text("a"))), at(1, 0)},
		{"three names, told by place and not by name", objects(syms(text("a"), text("m"), text("z")), syms(own("a"), data("m")), syms(data("z"), data("a"))), at(1, 1)},
		{"with those that want it", objects(syms(wants("a")), syms(text("a")), syms(wants("a")), syms(text("a"))), at(3, 0)},
	} {
		holds(t, "defined twice: "+c.what, c.objs, refused(api.ErrTwice, c.at))
	}
}

// Names are told apart by their bytes, and by no fewer.
func TestNamesThatAreNear(t *testing.T) {
	long := strings.Repeat("n", 39)
	objs := objects(
		syms(text("a"), text("A"), text("_a"), text("."), data(long+"1")),
		syms(text("aa"), text("a."), text(".a"), text("_"), data(long+"2")),
		syms(wants("a."), wants("."), wants("A"), wants(long+"2"), wants("aa"), wants("_a"), wants(".a"), wants("a"), wants("_"), wants(long+"1")),
	)
	holds(t, "names that are near", objs, resolved(at(0, 0), api.ErrMain,
		targets(at(0, 0), at(0, 1), at(0, 2), at(0, 3), at(0, 4)),
		targets(at(1, 0), at(1, 1), at(1, 2), at(1, 3), at(1, 4)),
		targets(at(1, 1), at(0, 3), at(0, 1), at(1, 4), at(1, 0), at(0, 2), at(1, 2), at(0, 0), at(1, 3), at(0, 4))))
}

// Those that aren't Global define nothing for others, and are their own targets.
func TestNotGlobal(t *testing.T) {
	holds(t, "one name in both, Global in none", objects(syms(own("a")), syms(own("a")), syms(ownData("a"), own("b"))),
		resolved(at(0, 0), api.ErrMain, targets(at(0, 0)), targets(at(1, 0)), targets(at(2, 0), at(2, 1))))
	holds(t, "one name, Global in one", objects(syms(own("a")), syms(text("a")), syms(ownData("a"))),
		resolved(at(0, 0), api.ErrMain, targets(at(0, 0)), targets(at(1, 0)), targets(at(2, 0))))
	holds(t, "one name, Global in one and wanted in another", objects(syms(own("a")), syms(own("b"), data("a")), syms(wants("a")), syms(ownData("a"))),
		resolved(at(0, 0), api.ErrMain, targets(at(0, 0)), targets(at(1, 0), at(1, 1)), targets(at(1, 1)), targets(at(3, 0))))
	holds(t, "main in all, Global in one", objects(syms(own("main")), syms(ownData("main")), syms(own("b"), text("main")), syms(wants("main"))),
		resolved(at(2, 1), api.OK, targets(at(0, 0)), targets(at(1, 0)), targets(at(2, 0), at(2, 1)), targets(at(2, 1))))
	holds(t, "a name that only one bears that isn't Global", objects(syms(own("a")), syms(text("b"), wants("a"))), refused(api.ErrNone, at(1, 1), "a"))
	holds(t, "a name that only two bear that aren't Global", objects(syms(own("a")), syms(wants("a")), syms(ownData("a"))), refused(api.ErrNone, at(1, 0), "a"))
}

func TestDefinedElsewhere(t *testing.T) {
	holds(t, "ahead, in a text", objects(syms(text("a")), syms(wants("a"))), resolved(at(0, 0), api.ErrMain, targets(at(0, 0)), targets(at(0, 0))))
	holds(t, "behind, in a text", objects(syms(wants("a")), syms(text("a"))), resolved(at(0, 0), api.ErrMain, targets(at(1, 0)), targets(at(1, 0))))
	holds(t, "ahead, in data", objects(syms(own("b"), data("a")), syms(wants("a"), own("c"))),
		resolved(at(0, 0), api.ErrMain, targets(at(0, 0), at(0, 1)), targets(at(0, 1), at(1, 1))))
	holds(t, "behind, in data", objects(syms(own("c"), wants("a")), syms(own("b"), own("d"), data("a"))),
		resolved(at(0, 0), api.ErrMain, targets(at(0, 0), at(1, 2)), targets(at(1, 0), at(1, 1), at(1, 2))))
	holds(t, "far ahead and far behind", objects(syms(text("a"), wants("b")), nil, syms(wants("b"), wants("a")), nil, syms(wants("a"), data("b"))),
		resolved(at(0, 0), api.ErrMain, targets(at(0, 0), at(4, 1)), nil, targets(at(4, 1), at(0, 0)), nil, targets(at(0, 0), at(4, 1))))
	holds(t, "each in the other", objects(syms(text("a"), wants("b")), syms(wants("a"), text("b"))),
		resolved(at(0, 0), api.ErrMain, targets(at(0, 0), at(1, 1)), targets(at(0, 0), at(1, 1))))
	holds(t, "by three", objects(syms(wants("a")), syms(wants("a")), syms(wants("a")), syms(text("a"))),
		resolved(at(0, 0), api.ErrMain, targets(at(3, 0)), targets(at(3, 0)), targets(at(3, 0)), targets(at(3, 0))))
}

func TestDefinedNowhere(t *testing.T) {
	for _, c := range []struct {
		what  string
		objs  []api.Object
		at    resolve.Target
		needs []string
	}{
		{"alone", objects(syms(wants("a"))), at(0, 0), []string{"a"}},
		{"in the first", objects(syms(text("b"), wants("a")), syms(text("c"))), at(0, 1), []string{"a"}},
		{"in the last", objects(syms(text("b")), syms(text("c"), wants("b")), syms(wants("c"), own("d"), wants("a"))), at(2, 2), []string{"a"}},
		{"wanted by two", objects(syms(wants("b"), wants("a")), syms(wants("a"), text("b"))), at(0, 1), []string{"a"}},
		{"two in one", objects(syms(text("b")), syms(own("c"), wants("z"), wants("a"))), at(1, 1), []string{"a", "z"}},
		{"two in two, told by place and not by name", objects(syms(text("b")), syms(own("c"), wants("z")), syms(wants("a"))), at(1, 1), []string{"a", "z"}},
		{"all of many", objects(syms(wants("c"), wants("b")), syms(wants("a")), syms(wants("b"), wants("d"))), at(0, 0), []string{"a", "b", "c", "d"}},
		{"near to one that is defined", objects(syms(text("aa"), data("A")), syms(wants("a"))), at(1, 0), []string{"a"}},
		{"main", objects(syms(wants("main")), syms(text("a"))), at(0, 0), []string{"main"}},
	} {
		holds(t, "defined nowhere: "+c.what, c.objs, refused(api.ErrNone, c.at, c.needs...))
	}
}

// Two errors at once: the first by its kind is told, wherever the other stands.
func TestTwoErrors(t *testing.T) {
	none := object(own("k"), text("x"), text("x"))
	a, twice, lost := object(text("a")), object(own("m"), data("a")), object(own("n"), wants("l"))
	form := func(n int) answer { return refused(api.ErrForm, at(n, 0)) }
	double := func(n int) answer { return refused(api.ErrTwice, at(n, 1), "l") }

	holds(t, "no object ahead of twice", []api.Object{none, a, twice}, form(0))
	holds(t, "no object between", []api.Object{a, none, twice}, form(1))
	holds(t, "no object behind twice", []api.Object{a, twice, none}, form(2))
	holds(t, "no object ahead of none", []api.Object{none, lost}, form(0))
	holds(t, "no object behind none", []api.Object{lost, none}, form(1))
	holds(t, "twice ahead of none", []api.Object{a, twice, lost}, double(1))
	holds(t, "twice around none", []api.Object{a, lost, twice}, double(2))
	holds(t, "twice behind none", []api.Object{lost, a, twice}, double(2))
	holds(t, "all three, none first", []api.Object{lost, a, twice, none}, form(3))
	holds(t, "all three, no object first", []api.Object{none, lost, a, twice}, form(0))
	holds(t, "all three, twice first", []api.Object{a, twice, lost, none}, form(3))
	holds(t, "none and twice in one object", []api.Object{a, object(wants("l"), text("a"))}, refused(api.ErrTwice, at(1, 1), "l"))
	holds(t, "twice and none in one object", []api.Object{a, object(own("c"), text("a"), wants("l"))}, refused(api.ErrTwice, at(1, 1), "l"))
	holds(t, "one name twice where it is wanted, another nowhere", []api.Object{object(wants("a"), wants("l")), a, twice}, double(2))
}
