package parse_test

import (
	"fmt"
	"testing"

	"solder/api"
	"solder/helps"
	"solder/parse"
)

// answer is what Parse answers, its module told.
type answer struct {
	module string
	at     int
	e      api.Errno
}

// fine is what is answered where nothing is wrong.
func fine(decls ...api.Decl) answer {
	return answer{module: told(api.Module{Decls: decls})}
}

// wrong is what is answered where the first token that doesn't fit stands at a place.
func wrong(at int, e api.Errno) answer {
	return answer{told(api.Module{}), at, e}
}

// told tells a module, each field of each part; an empty list is told as none is.
func told(m api.Module) string {
	return fmt.Sprintf("%+v", m)
}

func ask(text string) answer {
	m, at, e := parse.Parse(text)
	return answer{told(m), at, e}
}

// is says whether Parse answers of a text what is wanted.
func is(t *testing.T, promise, text string, want answer) {
	t.Helper()
	got := ask(text)
	if got.at != want.at || got.e != want.e {
		t.Errorf("%s: Parse(%s): error %d at %d, want %d at %d", promise, helps.Short(text), got.e, got.at, want.e, want.at)
	} else if got.module != want.module {
		t.Errorf("%s: Parse(%s): .. %s .., want .. %s ..", promise, helps.Short(text), helps.Around(got.module, want.module), helps.Around(want.module, got.module))
	}
}

// holds says that too, whether the model finds the same wrong, and whether what is right is shown as it is.
func holds(t *testing.T, text string, want answer) {
	t.Helper()
	is(t, "P11.1", text, want)
	if at, e := model(text); at != want.at || e != want.e {
		t.Errorf("of %s the model says error %d at %d, and the test %d at %d", helps.Short(text), e, at, want.e, want.at)
	}
	if want.e == api.OK {
		shown(t, text)
	}
}

// refused says whether a text is refused with an error, at the place behind a first part of it.
func refused(t *testing.T, ahead, behind string, e api.Errno) {
	t.Helper()
	holds(t, ahead+behind, wrong(len(ahead), e))
}

// right says whether the model and Parse take a text, whatever module it tells.
func right(t *testing.T, text string) {
	t.Helper()
	holds(t, text, answer{ask(text).module, 0, api.OK})
}

// asModel says whether Parse finds wrong in a text what the model does, and shows it as it is, if that is nothing.
func asModel(t *testing.T, text string) api.Errno {
	t.Helper()
	at, e := model(text)
	want := answer{ask(text).module, at, e}
	if e != api.OK {
		want = wrong(at, e)
	}
	is(t, "P11.1", text, want)
	if e == api.OK {
		shown(t, text)
	}
	return e
}

// parsed is the module of a text in which nothing may be wrong.
func parsed(t *testing.T, text string) api.Module {
	t.Helper()
	m, at, e := parse.Parse(text)
	if at != 0 || e != api.OK {
		t.Fatalf("P11.1: Parse(%s): error %d at %d", helps.Short(text), e, at)
	}
	return m
}

// shown says whether what is shown of a text's module is parsed to the same one, but for all At, and shown the same
// way. Show sets no brackets but those that must be there: so it may become too long, and neither too many tokens nor
// too deep.
func shown(t *testing.T, text string) {
	t.Helper()
	m := parsed(t, text)
	s := parse.Show(m)
	n, at, e := parse.Parse(s)
	if len(s) > 8192 {
		if at != 0 || e != api.ErrLong {
			t.Errorf("P11.2: of %s is shown %s: error %d at %d", helps.Short(text), helps.Short(s), e, at)
		}
		return
	}
	if at != 0 || e != api.OK {
		t.Errorf("P11.2: of %s is shown %s: error %d at %d", helps.Short(text), helps.Short(s), e, at)
		return
	}
	if a, b := told(placeless(m)), told(placeless(n)); a != b {
		t.Errorf("P11.2: of %s is shown %s: .. %s .. became .. %s ..", helps.Short(text), helps.Short(s), helps.Around(a, b), helps.Around(b, a))
	}
	if again := parse.Show(n); again != s {
		t.Errorf("P11.2: of %s is shown %s, and then %s", helps.Short(text), helps.Short(s), helps.Short(again))
	}
}
