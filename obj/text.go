package obj

import (
	"slices"
	"strconv"
	"strings"

	"solder/api"
)

// What the lines of an object's text begin with that are no item's.
const (
	headLine = "object"
	textLine = "text"
	dataLine = "data"
	symsLine = "syms"
	relsLine = "rels"
	endLine  = "end"
)

const (
	between = " "
	behind  = "\n"

	byteBits   = 8
	wordDigits = 8
	dataDigits = 16 // of dataStep bytes
)

// writer writes an object's text.
type writer struct {
	strings.Builder
}

func (w *writer) object(o api.Object) {
	w.line(headLine)
	w.line(textLine, len(o.Text))
	for _, word := range o.Text {
		w.line(digits(uint64(word), wordDigits))
	}
	w.line(dataLine, len(o.Data))
	for bytes := range slices.Chunk(o.Data, dataStep) {
		w.line(digits(joined(bytes), dataDigits))
	}
	w.line(symsLine, len(o.Syms))
	for _, s := range o.Syms {
		w.line(s.Name, s.Sect, s.Value, s.Frame, bit(s.Global))
	}
	w.line(relsLine, len(o.Rels))
	for _, r := range o.Rels {
		w.line(strconv.Itoa(r.Sect), r.At, r.Kind, r.Sym, r.Add)
	}
	w.line(endLine)
}

// line writes a line of what it begins with, and numbers.
func (w *writer) line(first string, numbers ...int) {
	w.WriteString(first)
	for _, n := range numbers {
		w.WriteString(between)
		w.WriteString(strconv.Itoa(n))
	}
	w.WriteString(behind)
}

// reader reads an object's text; what is none is thrown.
type reader struct {
	rest string
}

// object reads the whole of a text. Whether what it tells is an object is left to a check.
func (r *reader) object() api.Object {
	var o api.Object
	demand(r.line() == headLine)
	for range r.count(textLine, api.MaxWords) {
		o.Text = append(o.Text, uint32(undigits(r.line(), wordDigits)))
	}
	n := r.count(dataLine, api.MaxData)
	for len(o.Data) < n {
		o.Data = append(o.Data, split(undigits(r.line(), dataDigits))...)
	}
	demand(len(o.Data) == n)
	for range r.count(symsLine, api.MaxSyms) {
		o.Syms = append(o.Syms, r.symbol())
	}
	for range r.count(relsLine, api.MaxRels) {
		o.Rels = append(o.Rels, r.relocation())
	}
	demand(r.line() == endLine && r.rest == "")
	return o
}

func (r *reader) symbol() api.Sym {
	p := r.parts(5)
	global := number(p[4])
	demand(isFromTo(global, 0, 1))
	// A piece of the text would be no new memory.
	name := strings.Clone(p[0])
	return api.Sym{Name: name, Sect: number(p[1]), Value: number(p[2]), Frame: number(p[3]), Global: global == 1}
}

func (r *reader) relocation() api.Rel {
	p := r.parts(5)
	return api.Rel{Sect: number(p[0]), At: number(p[1]), Kind: number(p[2]), Sym: number(p[3]), Add: number(p[4])}
}

// count reads a line that tells how many items of what it begins with follow.
func (r *reader) count(first string, most int) int {
	p := r.parts(2)
	n := number(p[1])
	demand(p[0] == first && isFromTo(n, 0, most))
	return n
}

// parts reads a line of so many parts.
func (r *reader) parts(n int) []string {
	// One more than n are looked for, and no more: a long line of blanks alone would have too many to be kept.
	p := strings.SplitN(r.line(), between, n+1)
	demand(len(p) == n)
	return p
}

// line reads a line, and what stands behind it.
func (r *reader) line() string {
	line, rest, ends := strings.Cut(r.rest, behind)
	demand(ends)
	r.rest = rest
	return line
}

// number is what s tells in decimal.
func number(s string) int {
	n, err := strconv.Atoi(s)
	// Told again: so noughts ahead, a plus, and a minus ahead of 0 are refused.
	demand(err == nil && strconv.Itoa(n) == s)
	return n
}

// digits tells n by so many digits, the highest first.
func digits(n uint64, many int) string {
	s := strconv.FormatUint(n, 16)
	return strings.Repeat("0", many-len(s)) + s
}

// undigits is what s tells by so many digits.
func undigits(s string, many int) uint64 {
	demand(len(s) == many)
	n, err := strconv.ParseUint(s, 16, 64)
	// Told again: so capital letters are refused.
	demand(err == nil && digits(n, many) == s)
	return n
}

// joined is the number that bytes make, the highest first.
func joined(bytes []byte) uint64 {
	var n uint64
	for _, b := range bytes {
		n = n<<byteBits | uint64(b)
	}
	return n
}

// split are the bytes that make the number n, the highest first.
func split(n uint64) []byte {
	bytes := make([]byte, dataStep)
	for at := range bytes {
		bytes[dataStep-1-at] = byte(n >> (byteBits * at))
	}
	return bytes
}

func bit(is bool) int {
	if is {
		return 1
	}
	return 0
}
