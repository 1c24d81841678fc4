package obj_test

import (
	"fmt"
	"regexp"
	"slices"
	"strconv"
	"strings"

	"solder/api"
)

// The chapter once more, told in another way: words by their fields, texts by an expression.

var oneName = regexp.MustCompile(`^[a-zA-Z_.][a-zA-Z_.0-9]{0,39}$`)

// oneText has as its parts: how many words, these, how many bytes, these, and so on.
var oneText = func() *regexp.Regexp {
	const count, number = `(0|[1-9][0-9]*)`, `(?:0|-?[1-9][0-9]*)`
	return regexp.MustCompile(`^object\ntext ` + count + `\n((?:[0-9a-f]{8}\n)*)data ` + count + `\n((?:[0-9a-f]{16}\n)*)` +
		`syms ` + count + `\n((?:[^ \n]+(?: ` + number + `){3} [01]\n)*)rels ` + count + `\n((?:` + number + `(?: ` + number + `){4}\n)*)end\n$`)
}()

// kindAt is which kind of relocation may be at the word w; 0, if none may.
func kindAt(w uint32) int {
	op, f3 := w&0x7f, w>>12&7
	among := func(l ...uint32) bool { return slices.Contains(l, f3) }
	upperIs0, splitIs0 := w>>20 == 0, w>>25 == 0 && w>>7&0x1f == 0
	switch {
	case op == 0x37 && w>>12 == 0:
		return 1
	case op == 0x6f && w>>12 == 0:
		return 4
	case op == 0x13 && upperIs0 && among(0, 2, 3, 4, 6, 7),
		op == 0x03 && upperIs0 && among(0, 2, 4),
		op == 0x67 && upperIs0 && among(0),
		op == 0x07 && upperIs0 && among(3):
		return 2
	case op == 0x23 && splitIs0 && among(0, 2), op == 0x27 && splitIs0 && among(3):
		return 3
	case op == 0x63 && splitIs0 && among(0, 1, 4, 5, 6, 7):
		return 5
	}
	return 0
}

// wantSymbol tells whether s is one of o, but for the names of the others.
func wantSymbol(o api.Object, s api.Sym) bool {
	if !oneName.MatchString(s.Name) {
		return false
	}
	switch s.Sect {
	case 0:
		return s == api.Sym{Name: s.Name, Global: true}
	case 1:
		return s.Frame >= 0 && s.Frame <= 1048576 && s.Frame&15 == 0 && s.Value >= 0 && s.Value <= len(o.Text)
	case 2:
		return s.Frame == 0 && s.Value >= 0 && s.Value <= len(o.Data)
	}
	return false
}

// wantRelocation tells whether r is one of o, but for its order.
func wantRelocation(o api.Object, r api.Rel) bool {
	if r.Sym < 0 || r.Sym >= len(o.Syms) || r.Add < -2147483648 || r.Add > 2147483647 || r.At < 0 {
		return false
	}
	switch r.Sect {
	case 1:
		return r.At < len(o.Text) && kindAt(o.Text[r.At]) != 0 && kindAt(o.Text[r.At]) == r.Kind
	case 2:
		return r.At&3 == 0 && r.At < len(o.Data) && r.At+4 <= len(o.Data) && r.Kind == 6
	}
	return false
}

// wantObject tells whether o is an object.
func wantObject(o api.Object) bool {
	if len(o.Text) > 65536 || len(o.Data) > 65536 || len(o.Data)%8 > 0 || len(o.Syms) > 600 || len(o.Rels) > 65536 {
		return false
	}
	for n, s := range o.Syms {
		if !wantSymbol(o, s) || slices.ContainsFunc(o.Syms[:n], func(x api.Sym) bool { return x.Name == s.Name }) {
			return false
		}
	}
	for n, r := range o.Rels {
		if !wantRelocation(o, r) {
			return false
		}
		if n > 0 && (r.Sect < o.Rels[n-1].Sect || r.Sect == o.Rels[n-1].Sect && r.At <= o.Rels[n-1].At) {
			return false
		}
	}
	return true
}

// tell is what stands in the text of o, even if it is no object.
func tell(o api.Object) string {
	var b strings.Builder
	fmt.Fprintf(&b, "object\ntext %d\n", len(o.Text))
	for _, w := range o.Text {
		fmt.Fprintf(&b, "%08x\n", w)
	}
	fmt.Fprintf(&b, "data %d\n", len(o.Data))
	for at := 0; at < len(o.Data); at += 8 {
		fmt.Fprintf(&b, "%x\n", o.Data[at:min(at+8, len(o.Data))])
	}
	fmt.Fprintf(&b, "syms %d\n", len(o.Syms))
	for _, s := range o.Syms {
		global := 0
		if s.Global {
			global = 1
		}
		fmt.Fprintf(&b, "%s %d %d %d %d\n", s.Name, s.Sect, s.Value, s.Frame, global)
	}
	fmt.Fprintf(&b, "rels %d\n", len(o.Rels))
	for _, r := range o.Rels {
		fmt.Fprintf(&b, "%d %d %d %d %d\n", r.Sect, r.At, r.Kind, r.Sym, r.Add)
	}
	return b.String() + "end\n"
}

// lines are those of s, which is none or ends with the byte 10, if there are as many as count says.
func lines(s, count string, perLine int) ([]string, bool) {
	l := strings.Split(s, "\n")
	l = l[:len(l)-1]
	n, err := strconv.Atoi(count)
	return l, err == nil && n == perLine*len(l)
}

// numbersOf are the numbers that stand in l.
func numbersOf(l []string) ([]int, bool) {
	var all []int
	for _, s := range l {
		n, err := strconv.Atoi(s)
		if err != nil {
			return nil, false
		}
		all = append(all, n)
	}
	return all, true
}

// read is the object whose text s is, if there is one.
func read(s string) (o api.Object, is bool) {
	m := oneText.FindStringSubmatch(s)
	if m == nil {
		return o, false
	}
	words, a := lines(m[2], m[1], 1)
	data, b := lines(m[4], m[3], 8)
	syms, c := lines(m[6], m[5], 1)
	rels, d := lines(m[8], m[7], 1)
	if !a || !b || !c || !d {
		return o, false
	}
	for _, l := range words {
		w, _ := strconv.ParseUint(l, 16, 32)
		o.Text = append(o.Text, uint32(w))
	}
	for at := range strings.Join(data, "") {
		if at%2 == 0 {
			x, _ := strconv.ParseUint(strings.Join(data, "")[at:at+2], 16, 8)
			o.Data = append(o.Data, byte(x))
		}
	}
	for _, l := range syms {
		p := strings.Fields(l)
		n, is := numbersOf(p[len(p)-4:])
		if !is {
			return api.Object{}, false
		}
		o.Syms = append(o.Syms, api.Sym{Name: l[:strings.IndexByte(l, ' ')], Sect: n[0], Value: n[1], Frame: n[2], Global: n[3] == 1})
	}
	for _, l := range rels {
		n, is := numbersOf(strings.Split(l, " "))
		if !is {
			return api.Object{}, false
		}
		o.Rels = append(o.Rels, api.Rel{Sect: n[0], At: n[1], Kind: n[2], Sym: n[3], Add: n[4]})
	}
	if !wantObject(o) {
		return api.Object{}, false
	}
	return o, true
}
