package resolve_test

import (
	"slices"
	"testing"
	"unsafe"

	"solder/api"
	"solder/helps"
	"solder/resolve"
)

// lists are objects by what is answered of them.
func lists() map[string][]api.Object {
	return map[string][]api.Object{
		"resolved":   objects(syms(text("main"), wants("x"), own("y")), nil, syms(data("x"), wants("main"), wants("z")), syms(own("q"), text("z"))),
		"no main":    objects(syms(text("a"), wants("x")), syms(data("x"))),
		"in need":    objects(syms(wants("z"), text("main")), syms(wants("a"), wants("z")), syms(wants("m"))),
		"twice":      objects(syms(wants("b"), text("a")), syms(wants("b"), data("a"))),
		"no object":  objects(syms(wants("b"), text("a")), syms(text("a"), text("a"))),
		"nothing":    nil,
		"no symbols": {{}, object()},
	}
}

func TestWhatIsHandedInStays(t *testing.T) {
	for what, objs := range lists() {
		part, all := helps.Roomy(objs, object(text("room"), wants("room")), object(text("main"), wants("gone")))
		list, inner := helps.Clone(part[:cap(part)]), helps.Clone(all)
		want := wantAnswer(objs)
		is(t, "P6.1", what+", with room behind", part, want)
		if !helps.Equal(helps.Clone(part[:cap(part)]), list) || !helps.Equal(all, inner) {
			t.Errorf("P6.3: %s: what was handed in is now %v", what, all)
		}
	}
}

// What Resolve answers may be changed and lengthened, and nothing else changes with it.
func TestTargetsAreNewMemory(t *testing.T) {
	for what, objs := range lists() {
		kept, want := helps.Clone(objs), wantAnswer(objs)
		a, _, _ := resolve.Resolve(objs)
		b, _, _ := resolve.Resolve(objs)
		for n, l := range a {
			l = l[:cap(l)]
			for m := range l {
				l[m] = at(-n, -m)
			}
		}
		for n := range a[:cap(a)] {
			a[:cap(a)][n] = targets(at(9, 9))
		}
		if !sameTargets(b, want.targets) || !helps.Equal(objs, kept) {
			t.Errorf("P6.3: %s: an answer shares its memory with another, or with what was handed in: %v", what, b)
		}
		is(t, "P6.3", what+", asked again", objs, want)
	}
}

// No list of an answer is behind another one, nor changes with it.
func TestListsOfAnAnswerAreApart(t *testing.T) {
	for what, objs := range lists() {
		want := wantAnswer(objs).targets
		for n := range want {
			got, _, _ := resolve.Resolve(objs)
			l := got[n][:cap(got[n])]
			for m := range l {
				l[m] = at(-1, -1)
			}
			_ = append(got[n], at(-2, -2), at(-3, -3))
			got[n] = want[n]
			if !sameTargets(got, want) {
				t.Errorf("P6.3: %s: list %d of an answer shares its memory with another: %v", what, n, got)
			}
		}
	}
}

func TestNeedsAreNewMemory(t *testing.T) {
	for what, objs := range lists() {
		kept, want := helps.Clone(objs), wantAnswer(objs)
		a, b := resolve.Needs(objs), resolve.Needs(objs)
		for n := range a[:cap(a)] {
			a[:cap(a)][n] = "spoilt"
		}
		if !slices.Equal(b, want.needs) || !helps.Equal(objs, kept) {
			t.Errorf("P6.3: %s: an answer shares its memory with another, or with what was handed in: %v", what, b)
		}
		is(t, "P6.3", what+", asked again", objs, want)
	}
}

// What was handed in may be changed behind the call: the answers stay.
func TestAnswersStay(t *testing.T) {
	for what, objs := range lists() {
		want := wantAnswer(objs)
		got := ask(objs)
		helps.Spoil(objs)
		if !sameAnswer(got, want) {
			t.Errorf("P6.3: %s: an answer has changed with what was handed in: %v, want %v", what, got, want)
		}
	}
}

// Names are in bytes that change behind the call: so it is seen whether an answer has some of them.
func TestNeedsAreNoPiecesOfNames(t *testing.T) {
	bytes := [][]byte{[]byte("zz"), []byte("aaa"), []byte("zz")}
	var objs []api.Object
	for _, b := range bytes {
		objs = append(objs, object(wants(unsafe.String(&b[0], len(b)))))
	}
	needs := resolve.Needs(objs)
	for _, b := range bytes {
		for n := range b {
			b[n] = 'x'
		}
	}
	if want := []string{"aaa", "zz"}; !slices.Equal(needs, want) {
		t.Errorf("P6.3: Needs: %v, want %v: an answer has the names' own bytes", needs, want)
	}
}

// An answer hangs on nothing that was asked ahead of it.
func TestAskedAgain(t *testing.T) {
	for range 3 {
		for what, objs := range lists() {
			is(t, "P6.3", what+", asked again", objs, wantAnswer(objs))
		}
	}
}
