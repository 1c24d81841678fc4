package resolve_test

import (
	"testing"

	"solder/api"
	"solder/resolve"
)

func isMain(t *testing.T, what string, objs []api.Object, want resolve.Target, e api.Errno) {
	t.Helper()
	model := wantAnswer(objs)
	if model.main != want || model.mainE != e {
		t.Fatalf("%s: the test's model says otherwise than the test: %v, error %d, want %v, error %d", what, model.main, model.mainE, want, e)
	}
	holds(t, what, objs, model)
}

func TestWhatDefinesMain(t *testing.T) {
	isMain(t, "main alone", objects(syms(text("main"))), at(0, 0), api.OK)
	isMain(t, "main first", objects(syms(text("main"), text("a")), syms(text("b"))), at(0, 0), api.OK)
	isMain(t, "main last", objects(syms(text("a")), syms(text("b")), syms(own("c"), data("d"), text("main"))), at(2, 2), api.OK)
	isMain(t, "main in the midst", objects(syms(text("a")), syms(text("b"), text("main"), text("c")), syms(text("d"))), at(1, 1), api.OK)
	isMain(t, "main wanted ahead of it", objects(syms(wants("main")), syms(own("a"), text("main"))), at(1, 1), api.OK)
	isMain(t, "main wanted behind it", objects(syms(own("a"), text("main")), syms(wants("main"))), at(0, 1), api.OK)
	isMain(t, "main that isn't Global elsewhere", objects(syms(own("main")), syms(ownData("main")), syms(own("a"), text("main"))), at(2, 1), api.OK)
	atEnd := api.Object{Syms: []api.Sym{{Name: "main", Sect: 1, Global: true}}}
	isMain(t, "main of an object without words", []api.Object{object(data("a")), atEnd}, at(1, 0), api.OK)
	noFrame := api.Object{Text: []uint32{0x73}, Syms: []api.Sym{{Name: "x", Sect: 2}, {Name: "main", Sect: 1, Value: 1, Global: true}}}
	isMain(t, "main without a Frame, behind all words", []api.Object{noFrame}, at(0, 1), api.OK)
}

func TestMainThatIsNone(t *testing.T) {
	isMain(t, "nothing", nil, at(0, 0), api.ErrMain)
	isMain(t, "an object of nothing", []api.Object{{}}, at(0, 0), api.ErrMain)
	isMain(t, "no main", objects(syms(text("a")), syms(own("c"), data("b"))), at(0, 0), api.ErrMain)
	isMain(t, "names near to main", objects(syms(text("Main"), text("mai"), text("main0")), syms(text(".main"), text("MAIN"), text("main."), text("_main"))), at(0, 0), api.ErrMain)
	isMain(t, "main in data", objects(syms(data("main"))), at(0, 0), api.ErrMain)
	isMain(t, "main in data, in the midst", objects(syms(text("a")), syms(own("b"), data("main")), syms(text("c"))), at(0, 0), api.ErrMain)
	isMain(t, "main in data, wanted", objects(syms(text("a"), wants("main")), syms(own("b"), data("main"))), at(0, 0), api.ErrMain)
	isMain(t, "main not Global", objects(syms(text("a")), syms(own("b"), own("main"))), at(0, 0), api.ErrMain)
	isMain(t, "main not Global in two", objects(syms(own("b"), own("main")), syms(own("main"))), at(0, 0), api.ErrMain)
	isMain(t, "main not Global, and in data", objects(syms(text("a"), own("main")), syms(data("main"))), at(0, 0), api.ErrMain)
	isMain(t, "main not Global in data", objects(syms(text("a"), ownData("main"))), at(0, 0), api.ErrMain)
}

// Resolve's error comes first, whether there is a main or not; where it is isn't told.
func TestMainOfWhatIsNotResolved(t *testing.T) {
	isMain(t, "main of elsewhere alone", objects(syms(text("a")), syms(own("b"), wants("main"))), at(0, 0), api.ErrNone)
	isMain(t, "main of elsewhere, and not Global", objects(syms(own("b"), wants("main")), syms(own("main"))), at(0, 0), api.ErrNone)
	isMain(t, "main twice", objects(syms(text("a")), syms(own("b"), text("main")), syms(own("c"), text("main"))), at(0, 0), api.ErrTwice)
	isMain(t, "main twice, once in data", objects(syms(text("main")), syms(own("b"), data("main"))), at(0, 0), api.ErrTwice)
	none := object(text("a"), own("a"))
	for _, c := range []struct {
		what string
		main []api.Sym
	}{{"with main", syms(own("y"), text("main"))}, {"without main", syms(own("y"), text("x"))}, {"with main in data", syms(data("main"))}, {"with main not Global", syms(own("main"))}} {
		o := object(c.main...)
		isMain(t, "no object, "+c.what, []api.Object{o, object(), none}, at(0, 0), api.ErrForm)
		isMain(t, "another name twice, "+c.what, []api.Object{o, object(text("a")), object(own("c"), data("a"))}, at(0, 0), api.ErrTwice)
		isMain(t, "another name nowhere, "+c.what, []api.Object{o, object(text("a"), wants("b"))}, at(0, 0), api.ErrNone)
		isMain(t, "another name nowhere, in its own object, "+c.what, []api.Object{object(), object(append(c.main, wants("b"))...)}, at(0, 0), api.ErrNone)
	}
}
