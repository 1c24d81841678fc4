// Package helps has what the tests of several layers share: lists of objects that are copied, stand in other orders, or
// have room behind; modules that have such room, or are spoilt.
package helps

import (
	"slices"
	"strconv"

	"solder/api"
	"solder/obj"
)

// most is how much of a list is told.
const most = 12

// Clone is a list of objects in memory of its own.
func Clone(objs []api.Object) []api.Object {
	l := slices.Clone(objs)
	for n, o := range l {
		l[n] = api.Object{Text: slices.Clone(o.Text), Data: slices.Clone(o.Data), Syms: slices.Clone(o.Syms), Rels: slices.Clone(o.Rels)}
	}
	return l
}

// Equal tells whether a and b are, place by place.
func Equal(a, b []api.Object) bool {
	return slices.EqualFunc(a, b, obj.Same)
}

// Roomy is objs in a list whose memory, and that of all its lists, has room behind it that isn't its own: more, and in
// all lists of an object something. All of it is answered too.
func Roomy(objs []api.Object, more ...api.Object) (part, all []api.Object) {
	all = append(Clone(objs), Clone(more)...)
	for n := range all {
		o := &all[n]
		o.Text = append(o.Text, 0xeeeeeeee)
		o.Data = append(o.Data, 0xee, 0xdd)
		o.Syms = append(o.Syms, api.Sym{Name: "behind", Global: true}, api.Sym{Name: "main", Sect: 1, Global: true})
		o.Rels = append(o.Rels, api.Rel{Sect: 1, At: 7})
	}
	part = slices.Clone(all)
	for n, o := range objs {
		a := all[n]
		part[n] = api.Object{Text: a.Text[:len(o.Text)], Data: a.Data[:len(o.Data)], Syms: a.Syms[:len(o.Syms)], Rels: a.Rels[:len(o.Rels)]}
	}
	return part[:len(objs)], all
}

// Orders are all orders of n things, if these are no more than few; else some: from behind, and turned round. Each is a
// list of where what stands there stood.
func Orders(n, few int) [][]int {
	first := make([]int, n)
	for i := range first {
		first[i] = i
	}
	if n <= few {
		return permutations(first)
	}
	behind := slices.Clone(first)
	slices.Reverse(behind)
	all := [][]int{behind}
	for _, at := range []int{1, n / 2, n - 1} {
		all = append(all, slices.Concat(first[at:], first[:at]))
	}
	return all
}

func permutations(l []int) [][]int {
	if len(l) == 0 {
		return [][]int{nil}
	}
	var all [][]int
	for i, x := range l {
		for _, rest := range permutations(slices.Concat(l[:i], l[i+1:])) {
			all = append(all, append([]int{x}, rest...))
		}
	}
	return all
}

// InOrder are some things in another order.
func InOrder[E any](all []E, order []int) []E {
	moved := make([]E, len(order))
	for now, then := range order {
		moved[now] = all[then]
	}
	return moved
}

// Line tells an order.
func Line(order []int) string {
	s := ""
	for _, n := range Brief(order) {
		s += " " + strconv.Itoa(n)
	}
	if len(order) > most {
		s += " .."
	}
	return s
}

// Brief is enough of a list to know it again.
func Brief[E any](l []E) []E {
	return l[:min(len(l), most)]
}

// Fill puts the same thing at all places of a list.
func Fill[E any](l []E, with E) {
	for n := range l {
		l[n] = with
	}
}

// Spoil makes all that objs have something else.
func Spoil(objs []api.Object) {
	for n, o := range objs {
		Fill(o.Text, 0xeeeeeeee)
		Fill(o.Data, 0xee)
		Fill(o.Syms, api.Sym{Name: "spoilt", Sect: 1, Value: 5, Frame: 80})
		Fill(o.Rels, api.Rel{Sect: 2, At: 5})
		objs[n] = api.Object{Text: []uint32{9}, Data: []byte{9}}
	}
}

// Short is enough of a text to know it again.
func Short(s string) string {
	if len(s) > 200 {
		return strconv.Quote(s[:120]) + " .. " + strconv.Quote(s[len(s)-60:])
	}
	return strconv.Quote(s)
}

// Around is what a text has where it begins to differ from another one.
func Around(s, other string) string {
	n := 0
	for n < min(len(s), len(other)) && s[n] == other[n] {
		n++
	}
	return strconv.Quote(s[max(0, n-60):min(len(s), n+120)])
}
