package link_test

import (
	"slices"
	"strconv"
	"strings"
	"testing"

	"solder/api"
	"solder/link"
)

// Symbols are told by name, wherever they stand, and none is but what is Global and defined.
func TestSymbols(t *testing.T) {
	framed := func(name string, value, frame int) api.Sym {
		return api.Sym{Name: name, Sect: 1, Value: value, Frame: frame, Global: true}
	}
	a := api.Object{Text: make([]uint32, 3), Data: make([]byte, 16), Syms: syms(own("aa", 1), framed("z", 3, 1<<20), wants("m"), data("b", 16), ownData("c", 8), framed("main", 1, 0))}
	b := api.Object{Text: make([]uint32, 2), Data: make([]byte, 8), Syms: syms(framed("m", 2, 32), data("a", 3), own("z", 0), framed("bb", 0, 16), wants("b"))}
	holds(t, "symbols", []api.Object{a, b}, linked(image(startTo(0x010000ef), make([]byte, 20+24)...),
		link.Named{Name: "a", Address: 51, Frame: 0},
		link.Named{Name: "b", Address: 48, Frame: 0},
		link.Named{Name: "bb", Address: 24, Frame: 16},
		link.Named{Name: "m", Address: 32, Frame: 32},
		link.Named{Name: "main", Address: 16, Frame: 0},
		link.Named{Name: "z", Address: 24, Frame: 1 << 20},
	))
}

// Rising: by bytes, what is a beginning of another name ahead of it.
func TestSymbolsRise(t *testing.T) {
	rising := []string{".", ".0", "A", "Z", "Zz", "_", "_a", "a", "a.", "a.b", "a0", "a1", "a10", "a2", "aA", "a_", "aa", "aab", "ab", "b", "main", "main.", "main0", strings.Repeat("n", 39), strings.Repeat("n", 40)}
	for step := 1; step < len(rising); step++ {
		if step%5 == 0 {
			continue // such steps don't come to all of them
		}
		objs := make([]api.Object, 3)
		for n := range rising {
			name := rising[n*step%len(rising)]
			s := text(name, 0)
			if n%4 == 1 && name != "main" {
				s = data(name, 0)
			}
			objs[n%3].Syms = append(objs[n%3].Syms, s, own("own"+strconv.Itoa(n), 0))
		}
		want := asModel(t, "names in steps of "+strconv.Itoa(step), objs)
		var names []string
		for _, n := range want.names {
			names = append(names, n.Name)
		}
		if !slices.Equal(names, rising) {
			t.Fatalf("the test's model says otherwise than the test: %v", names)
		}
	}
}

// Symbols of one place, and those that have no words or bytes behind them, have each their own line.
func TestSymbolsOfOnePlace(t *testing.T) {
	o := api.Object{Data: make([]byte, 8), Syms: syms(text("main", 0), text("f", 0), text("e", 0), data("d", 0), data("c", 0), data("b", 8))}
	holds(t, "symbols of one place", []api.Object{o}, linked(image(startTo(0x00c000ef, 0), make([]byte, 8)...),
		link.Named{Name: "b", Address: 24}, link.Named{Name: "c", Address: 16}, link.Named{Name: "d", Address: 16},
		link.Named{Name: "e", Address: 12, Frame: 16}, link.Named{Name: "f", Address: 12, Frame: 16}, link.Named{Name: "main", Address: 12, Frame: 16}))
}

// Where there is an image, there are at least main's; where there is an error, there are none.
func TestSymbolsOfMainAlone(t *testing.T) {
	holds(t, "main alone", []api.Object{{Syms: syms(text("main", 0), own("x", 0), ownData("y", 0))}},
		linked(image(startTo(0x00c000ef, 0)), link.Named{Name: "main", Address: 12, Frame: 16}))
	// A relocation that is too far is an error of Symbols too, though it changes no address.
	objs := []api.Object{mainAlone(1), uses(0x00000063, api.RBranch, "main", 5000)}
	if l, e := link.Symbols(objs); len(l) != 0 || e != api.ErrFar {
		t.Errorf("P9.1: a branch that is too far: Symbols: %v, error %d", l, e)
	}
}
