package lex

import (
	"strconv"
	"strings"

	"solder/api"
	"solder/real"
)

// What remarks begin with, and what the longer ones end with.
const (
	lineRemark = "//"
	longRemark = "/*"
	remarkEnds = "*/"
)

const (
	mostDigits = 10 // of a TInt
	wordBits   = 32 // what they may mean at most
	longSign   = 2  // bytes of the longest signs
)

// reader goes through a text; what is no token is thrown. Its functions tell bytes.
type reader struct {
	text string
	at   int // the first byte that isn't read yet

	blank, inLine  func(byte) bool // between tokens
	letter, inName func(byte) bool
	digit, point   func(byte) bool
	power, sign    func(byte) bool // what stands ahead of the last digits of a real
	inNumber       func(byte) bool // what may not stand behind one
}

func newReader(text string) *reader {
	digit, point := from('0', '9'), among(".")
	letter := either(from('a', 'z'), from('A', 'Z'), among("_"))
	inName := either(letter, digit)
	return &reader{
		text:     text,
		blank:    among("\t\n\r "),
		inLine:   not(among("\n")),
		letter:   letter,
		inName:   inName,
		digit:    digit,
		point:    point,
		power:    among("e"),
		sign:     among("+-"),
		inNumber: either(inName, point),
	}
}

// token reads what stands between, and the token behind it.
func (r *reader) token() api.Token {
	r.between()
	first := r.at
	kind := r.kind()
	// A piece of the text would be no new memory.
	return api.Token{Kind: kind, Text: strings.Clone(r.text[first:r.at]), At: first}
}

// between reads blanks and remarks.
func (r *reader) between() {
	for {
		r.all(r.blank)
		switch {
		case r.begins(lineRemark):
			r.all(r.inLine)
		case r.begins(longRemark):
			r.remark()
		default:
			return
		}
	}
}

// remark reads one that must have an end.
func (r *reader) remark() {
	// What ends it may share no byte with what begins it.
	inside := r.at + len(longRemark)
	n := strings.Index(r.text[inside:], remarkEnds)
	r.demand(n >= 0, r.at)
	r.at = inside + n + len(remarkEnds)
}

// kind reads a token, and answers which kind it is.
func (r *reader) kind() int {
	switch {
	case r.at == len(r.text):
		return api.TEnd
	case r.sees(r.letter):
		return r.name()
	case r.sees(r.digit):
		return r.number()
	}
	r.signs()
	return api.TSign
}

func (r *reader) name() int {
	first := r.at
	r.all(r.inName)
	s := r.text[first:r.at]
	if isReserved(s) {
		return api.TWord
	}
	r.demand(len(s) <= api.MaxName, first)
	return api.TName
}

// number reads all that may belong to one. A shorter one that would fit, where a part of a real is missing, needn't be
// looked for: what would stand behind that may not.
func (r *reader) number() int {
	first, kind, is := r.at, api.TInt, isInt
	r.all(r.digit)
	if r.one(r.point) {
		kind, is = api.TReal, isReal
		r.all(r.digit)
		if r.one(r.power) {
			r.one(r.sign)
			r.all(r.digit)
		}
	}
	r.demand(is(r.text[first:r.at]) && !r.sees(r.inNumber), first)
	return kind
}

// signs reads the longest sign that fits.
func (r *reader) signs() {
	for n := min(longSign, len(r.text)-r.at); n > 0; n-- {
		if isSign(r.text[r.at : r.at+n]) {
			r.at += n
			return
		}
	}
	panic(fault{r.at, api.ErrLex})
}

// sees tells whether the next byte is such.
func (r *reader) sees(is func(byte) bool) bool {
	return r.at < len(r.text) && is(r.text[r.at])
}

// one reads the next byte, if it is such, and tells whether it was.
func (r *reader) one(is func(byte) bool) bool {
	seen := r.sees(is)
	if seen {
		r.at++
	}
	return seen
}

// all reads all next bytes that are such.
func (r *reader) all(is func(byte) bool) {
	for r.one(is) {
	}
}

// begins tells whether what comes begins with s.
func (r *reader) begins(s string) bool {
	return strings.HasPrefix(r.text[r.at:], s)
}

// demand throws that there is no token at a place, if something doesn't hold.
func (r *reader) demand(holds bool, at int) {
	if !holds {
		panic(fault{at, api.ErrLex})
	}
}

func isReserved(s string) bool {
	switch s {
	case "int", "double", "void", "static", "extern", "if", "else", "while", "return", "break", "continue":
		return true
	}
	return false
}

func isSign(s string) bool {
	switch s {
	case "<<", ">>", "<=", ">=", "==", "!=", "&&", "||":
		return true
	case "+", "-", "*", "/", "%", "&", "^", "~", "!", "<", ">", "=", "(", ")", "{", "}", "[", "]", ";", ",", "|":
		return true
	}
	return false
}

func isInt(s string) bool {
	_, err := strconv.ParseUint(s, 10, wordBits)
	return err == nil && len(s) <= mostDigits
}

func isReal(s string) bool {
	_, e := real.Parse(s)
	return e == api.OK
}
