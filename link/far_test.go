package link_test

import (
	"encoding/binary"
	"slices"
	"strconv"
	"testing"

	"solder/api"
)

// uses is a word with a relocation of a name.
func uses(w uint32, kind int, name string, add int) api.Object {
	return api.Object{Text: []uint32{w}, Syms: syms(wants(name)), Rels: []api.Rel{rel(0, kind, 0, add)}}
}

// among is objects around so many words.
func among(ahead []api.Object, words int, behind ...api.Object) []api.Object {
	return slices.Concat(ahead, fillers(words), behind)
}

// isNear says whether objs are linked, with this word at an address.
func isNear(t *testing.T, what string, objs []api.Object, at int, want uint32) {
	t.Helper()
	a := asModel(t, what, objs)
	if a.e != api.OK || binary.LittleEndian.Uint32(a.image.Bytes[at:]) != want {
		t.Fatalf("%s: the test's model says otherwise than the test: error %d, %#08x", what, a.e, a.image.Bytes[at:][:4])
	}
}

func isFar(t *testing.T, what string, objs []api.Object) {
	t.Helper()
	holds(t, what, objs, refused(api.ErrFar))
}

func TestJumpsAheadThatAreFar(t *testing.T) {
	main := uses(0x000000ef, api.RJal, "g", 0)
	main.Syms = append(main.Syms, text("main", 0))
	ahead, g := []api.Object{main}, api.Object{Syms: syms(text("g", 0))}
	const most = 1<<18 - 2 // words between
	isNear(t, "a jump as far as may be", among(ahead, most, g), 12, 0x7fdff0ef)
	isNear(t, "a jump a word less", among(ahead, most-1, g), 12, 0x7f9ff0ef)
	isFar(t, "a jump a word more", among(ahead, most+1, g))
	isFar(t, "a jump a good deal more", among(ahead, most+1000, g))

	main.Rels[0].Add = 2
	isNear(t, "a jump as far as may be, with Add", among(ahead, most, g), 12, 0x7ffff0ef)
	main.Rels[0].Add = 4
	isFar(t, "a jump a word more, with Add", among(ahead, most, g))
	isNear(t, "a jump as far as may be, some of it Add", among(ahead, most-1, g), 12, 0x7fdff0ef)
	main.Rels[0].Add = -4
	isNear(t, "a jump a word more, less Add", among(ahead, most+1, g), 12, 0x7fdff0ef)
	isFar(t, "a jump two words more, less Add", among(ahead, most+2, g))
	main.Rels[0].Add = -4 * most
	isNear(t, "a jump to what is near again by Add", among(ahead, most+200, g), 12, 0x324000ef)
	for _, add := range []int{1, -1, 3, 0x7ff, -0x801} {
		main.Rels[0].Add = add
		isFar(t, "a jump to an odd address", among(ahead, 1000, g))
	}
}

func TestJumpsToDataThatAreFar(t *testing.T) {
	main := uses(0x000000ef, api.RJal, "d", 0)
	main.Syms = append(main.Syms, text("main", 0))
	d := api.Object{Data: make([]byte, 16), Syms: syms(data("d", 8))}
	// The text ends at a multiple of 8, and so many bytes behind its begin.
	const most = 1<<18 - 4
	isNear(t, "a jump to data as far as may be", among([]api.Object{main}, most, d), 12, 0x7fdff0ef)
	isNear(t, "a jump to data as far as may be, no zeros", among([]api.Object{main}, most-2, d), 12, 0x7f5ff0ef)
	isFar(t, "a jump to data, a word more and zeros", among([]api.Object{main}, most+1, d))
}

func TestJumpsBackThatAreFar(t *testing.T) {
	ahead := []api.Object{{Text: []uint32{comeBack}, Syms: syms(text("main", 0), text("g", 0))}}
	const most = 1<<18 - 1 // words between
	at := 12 + 4 + 4*most
	isNear(t, "a jump back as far as may be", among(ahead, most, uses(0x000000ef, api.RJal, "g", 0)), at, 0x800000ef)
	isNear(t, "a jump back a word less", among(ahead, most-1, uses(0x000000ef, api.RJal, "g", 0)), at-4, 0x804000ef)
	isFar(t, "a jump back a word more", among(ahead, most+1, uses(0x000000ef, api.RJal, "g", 0)))
	isFar(t, "a jump back and an Add", among(ahead, most, uses(0x000000ef, api.RJal, "g", -2)))
	isNear(t, "a jump back a word more, less by an Add", among(ahead, most+1, uses(0x000000ef, api.RJal, "g", 4)), at+4, 0x800000ef)
	isFar(t, "a jump back to an odd address", among(ahead, most, uses(0x000000ef, api.RJal, "g", 1)))
}

func TestBranchesThatAreFar(t *testing.T) {
	main := uses(0x00000063, api.RBranch, "g", 0)
	main.Syms = append(main.Syms, text("main", 0))
	ahead, g := []api.Object{main}, api.Object{Syms: syms(text("g", 0))}
	const most = 1022 // words between
	isNear(t, "a branch as far as may be", among(ahead, most, g), 12, 0x7e000ee3)
	isFar(t, "a branch a word more", among(ahead, most+1, g))
	main.Rels[0].Add = 2
	isNear(t, "a branch as far as may be, with Add", among(ahead, most, g), 12, 0x7e000fe3)
	main.Rels[0].Add = 4
	isFar(t, "a branch a word more, with Add", among(ahead, most, g))
	main.Rels[0].Add = 1
	isFar(t, "a branch to an odd address", among(ahead, 10, g))

	ahead = []api.Object{{Text: []uint32{comeBack}, Syms: syms(text("main", 0), text("g", 0))}}
	isNear(t, "a branch back as far as may be", among(ahead, 1023, uses(0x00000063, api.RBranch, "g", 0)), 16+4*1023, 0x80000063)
	isFar(t, "a branch back a word more", among(ahead, 1024, uses(0x00000063, api.RBranch, "g", 0)))
	isFar(t, "a branch back and an Add", among(ahead, 1023, uses(0x00000063, api.RBranch, "g", -2)))
}

// What makes an address, or is one, is never too far.
func TestAddressesAreNeverFar(t *testing.T) {
	main := mainAlone(1)
	for _, add := range []int{0, 1, -3, 1<<31 - 1, -1 << 31} {
		objs := among([]api.Object{main}, 300000,
			uses(0x000002b7, api.RHi, "main", add), uses(0x00028313, api.RLoI, "main", add), uses(0x0072a023, api.RLoS, "main", add),
			api.Object{Data: make([]byte, 8), Syms: syms(wants("main")), Rels: []api.Rel{relData(4, 0, add)}})
		if want := asModel(t, "addresses far away", objs); want.e != api.OK {
			t.Errorf("P9.1: addresses far away: error %d", want.e)
		}
	}
}

// The start's own jump, to a main at an object's first word, at a later one, and behind its last.
func TestMainThatIsFar(t *testing.T) {
	const most = 1<<18 - 4 // words ahead of it
	isNear(t, "a main as far as may be", among(nil, most, mainAlone(1)), 0, 0x7fdff0ef)
	isNear(t, "a main a word less", among(nil, most-1, mainAlone(1)), 0, 0x7f9ff0ef)
	isFar(t, "a main a word more", among(nil, most+1, mainAlone(1)))
	isFar(t, "a main two words more", among(nil, most+2, mainAlone(1)))
	isFar(t, "a main a good deal more", among(nil, most+100000, mainAlone(1)))
	within := func(value int) api.Object {
		return api.Object{Text: make([]uint32, 60000), Syms: syms(text("main", value))}
	}
	for _, value := range []int{1, 30000, 59999, 60000} {
		isNear(t, "a main within an object", among(nil, most-value, within(value)), 0, 0x7fdff0ef)
		isFar(t, "a main within an object, a word more", among(nil, most-value+1, within(value)))
	}
}

// One relocation of many is too far, whichever it is; without it they are linked.
func TestOneOfManyIsFar(t *testing.T) {
	objs := func() []api.Object {
		l := []api.Object{mainAlone(1)}
		for n := range 4 {
			o := api.Object{Text: []uint32{0x000000ef, 0x00000063, 0x000002b7, 0x00000063, 0x0000006f}, Data: make([]byte, 8), Syms: syms(text("f"+strconv.Itoa(n), 0), wants("main"))}
			o.Rels = []api.Rel{rel(0, api.RJal, 1, 0), rel(1, api.RBranch, 1, 4), rel(2, api.RHi, 1, 0), rel(3, api.RBranch, 1, 0), rel(4, api.RJal, 0, 0), relData(0, 1, 0)}
			l = append(l, o)
		}
		return l
	}
	if want := asModel(t, "none of many is far", objs()); want.e != api.OK {
		t.Fatalf("none of many is far: error %d", want.e)
	}
	for n := 1; n <= 4; n++ {
		for r := range 6 {
			for _, add := range []int{1<<20 + 200, -1<<20 - 200, 1, -1 << 31, 1<<31 - 1} {
				l := objs()
				l[n].Rels[r].Add = add
				what := "relocation " + strconv.Itoa(r) + " of object " + strconv.Itoa(n) + " is far"
				if r == 2 || r == 5 {
					if want := asModel(t, what, l); want.e != api.OK {
						t.Errorf("P9.1: %s: error %d, want none: it is an address", what, want.e)
					}
					continue
				}
				isFar(t, what, l)
			}
		}
	}
}

// Objects that are linked in one order alone: else a branch, a jump or main is too far.
func TestLinkedInSomeOrdersAlone(t *testing.T) {
	branch := uses(0x00000063, api.RBranch, "g", 0)
	g := api.Object{Text: []uint32{comeBack}, Syms: syms(text("g", 0))}
	apart := filler(1030)
	main := mainAlone(1)
	for _, c := range []struct {
		objs []api.Object
		e    api.Errno
	}{
		{[]api.Object{main, branch, g, apart}, api.OK}, {[]api.Object{apart, g, branch, main}, api.OK}, {[]api.Object{g, main, branch, apart}, api.OK},
		{[]api.Object{main, branch, apart, g}, api.ErrFar}, {[]api.Object{g, apart, main, branch}, api.ErrFar}, {[]api.Object{branch, apart, g, main}, api.ErrFar},
	} {
		if want := asModel(t, "a branch in another order", c.objs); want.e != c.e {
			t.Fatalf("the test's model says otherwise than the test: error %d, want %d", want.e, c.e)
		}
	}
}
