package helps_test

import (
	"slices"
	"testing"

	"solder/api"
	"solder/helps"
)

func some() []api.Object {
	return []api.Object{
		{Text: []uint32{1, 2}, Data: []byte{3}, Syms: []api.Sym{{Name: "a"}}, Rels: []api.Rel{{At: 4}}},
		{},
		{Text: []uint32{5}},
	}
}

// Each kind of change is one that Equal must see: else tests that ask it would see nothing.
func TestEqual(t *testing.T) {
	if !helps.Equal(some(), some()) || helps.Equal(some(), some()[:2]) {
		t.Error("lists of objects aren't told apart by their length")
	}
	for n, change := range []func(l []api.Object){
		func(l []api.Object) { l[0].Text[1]++ }, func(l []api.Object) { l[0].Data[0]++ }, func(l []api.Object) { l[0].Syms[0].Frame++ },
		func(l []api.Object) { l[0].Rels[0].Add++ }, func(l []api.Object) { l[2].Text = nil }, func(l []api.Object) { l[1], l[2] = l[2], l[1] },
	} {
		l := some()
		kept := helps.Clone(l)
		if change(l); helps.Equal(l, kept) || !helps.Equal(kept, some()) {
			t.Errorf("change %d isn't seen, or a clone shares its memory", n)
		}
	}
}

func TestRoomy(t *testing.T) {
	part, all := helps.Roomy(some(), api.Object{Text: []uint32{9}})
	if !helps.Equal(part, some()) || len(all) != 4 || cap(part) < 4 {
		t.Errorf("%v within %v", part, all)
	}
	for n, o := range part {
		if cap(o.Text) == len(o.Text) || cap(o.Data) == len(o.Data) || cap(o.Syms) == len(o.Syms) || cap(o.Rels) == len(o.Rels) {
			t.Errorf("object %d has no room behind", n)
		}
		o.Text[:len(o.Text)+1][len(o.Text)] = 7
		if all[n].Text[len(o.Text)] != 7 {
			t.Errorf("object %d has room that isn't told", n)
		}
	}
}

func TestOrders(t *testing.T) {
	for n, want := range []int{1, 1, 2, 6, 24, 4, 4} {
		all := helps.Orders(n, 4)
		if len(all) != want {
			t.Errorf("%d orders of %d, want %d", len(all), n, want)
		}
		for at, order := range all {
			sorted := slices.Sorted(slices.Values(order))
			for i, x := range sorted {
				if i != x {
					t.Errorf("%v is no order", order)
				}
			}
			if len(order) != n || slices.ContainsFunc(all[:at], func(o []int) bool { return slices.Equal(o, order) }) {
				t.Errorf("%v of %d is no order, or is told twice", order, n)
			}
		}
	}
	if l := helps.InOrder(some(), []int{2, 0, 1}); !helps.Equal(l, []api.Object{some()[2], some()[0], some()[1]}) {
		t.Errorf("in another order: %v", l)
	}
}

func TestBrief(t *testing.T) {
	if s := helps.Line([]int{3, 1, 2}); s != " 3 1 2" {
		t.Errorf("%q", s)
	}
	if s := helps.Line(make([]int, 13)); s != " 0 0 0 0 0 0 0 0 0 0 0 0 .." {
		t.Errorf("%q", s)
	}
	l := make([]byte, 20)
	if helps.Fill(l[:3], 7); len(helps.Brief(l)) != 12 || string(l[:4]) != "\a\a\a\x00" {
		t.Errorf("%v", l)
	}
}

func TestSpoil(t *testing.T) {
	l := some()
	first, last := l[0], l[2]
	helps.Spoil(l)
	if first.Text[1] == 2 || first.Data[0] == 3 || first.Syms[0].Name == "a" || first.Rels[0].At == 4 || last.Text[0] == 5 || len(l[1].Text) == 0 {
		t.Errorf("something isn't spoilt: %v, %v, %v", first, last, l)
	}
}
