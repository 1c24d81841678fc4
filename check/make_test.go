package check_test

import (
	"math/rand"
	"slices"
	"strconv"
	"strings"
)

// maker makes texts of modules that are right: it takes no name but what it means where it stands, and no operand but of
// a type that fits. Types are told by letters.
type maker struct {
	*rand.Rand
	blocks  [][]meaning // the first is the top
	loops   int
	answers byte
	left    int // how many statements there should be still
}

// meaning is what a name means.
type meaning struct {
	name            string
	is              byte
	array, function bool
	params          string
}

func newMaker(source *rand.Rand, stmts int) *maker {
	beginning := []meaning{{"putw", 'v', false, true, "i"}, {"putd", 'v', false, true, "d"}, {"getw", 'i', false, true, ""}}
	return &maker{Rand: source, blocks: [][]meaning{beginning}, left: stmts}
}

func (m *maker) oneOf(l ...string) string {
	return l[m.Intn(len(l))]
}

func (m *maker) letter(of string) byte {
	return of[m.Intn(len(of))]
}

// known are all meanings that names have here, the innermost of each.
func (m *maker) known() (all []meaning) {
	for _, block := range slices.Backward(m.blocks) {
		for _, x := range block {
			if !slices.ContainsFunc(all, func(o meaning) bool { return o.name == x.name }) {
				all = append(all, x)
			}
		}
	}
	return all
}

// among is one of the meanings that are such, and whether there is one.
func (m *maker) among(is func(meaning) bool) (meaning, bool) {
	l := slices.DeleteFunc(m.known(), func(x meaning) bool { return !is(x) })
	if len(l) == 0 {
		return meaning{}, false
	}
	return l[m.Intn(len(l))], true
}

// tell makes a name known in the innermost block.
func (m *maker) tell(x meaning) {
	last := &m.blocks[len(m.blocks)-1]
	*last = append(*last, x)
}

// fresh is a name that the innermost block doesn't have; elsewhere it may mean something.
func (m *maker) fresh() string {
	for n := 0; ; n++ {
		name := m.oneOf("a", "b", "f", "g", "x", "putw", "getw", "main", "w0", "f1")
		if n > 5 {
			name = "l" + strconv.Itoa(n+m.Intn(100))
		}
		if !slices.ContainsFunc(m.blocks[len(m.blocks)-1], func(o meaning) bool { return o.name == name }) {
			return name
		}
	}
}

// module makes a whole text: first a number of each type, with a name that stays known everywhere.
func (m *maker) module() string {
	m.blocks = append(m.blocks, nil)
	s := "int v0; double v1; "
	m.tell(meaning{name: "v0", is: 'i'})
	m.tell(meaning{name: "v1", is: 'd'})
	for n := range "idpq" {
		s += m.variable("v"+strconv.Itoa(n+2), "idpq"[n], n < 2)
	}
	var later []string
	for n := range 3 + m.Intn(5) {
		s += m.function("f"+strconv.Itoa(n), &later)
		if m.Intn(2) == 0 {
			s += m.variable("w"+strconv.Itoa(n), m.letter("idpq"), m.Intn(2) == 0)
		}
	}
	return s + strings.Join(later, "")
}

func (m *maker) variable(name string, is byte, array bool) string {
	array = array && is != 'p' && is != 'q'
	x := meaning{name: name, is: is, array: array}
	s := letterText(is) + " " + name
	length := 1 + m.Intn(5)
	if array {
		s += "[" + strconv.Itoa(length) + "]"
	}
	m.tell(x)
	ahead := m.oneOf("", "", "static ", "extern ")
	again := ""
	if ahead != "static " && m.Intn(3) == 0 {
		again = "extern " + s + "; "
	}
	if ahead == "extern " || m.Intn(2) == 0 {
		return again + ahead + s + "; "
	}
	if !array {
		return again + ahead + s + " = " + m.asked(is, 2) + "; " + again
	}
	var inits []string
	for range 1 + m.Intn(length) {
		inits = append(inits, m.asked(is, 1))
	}
	return again + ahead + s + " = {" + strings.Join(inits, ", ") + "}; " + again
}

// function makes one: with its body here, or what is told later, or none.
func (m *maker) function(name string, later *[]string) string {
	x := meaning{name: name, is: m.letter("vidpq"), function: true}
	for range m.Intn(5) {
		x.params += string(m.letter("idpq"))
	}
	m.tell(x)
	ahead := m.oneOf("", "static ", "extern ")
	switch m.Intn(4) {
	case 0:
		s := m.head(x, ahead) + "; "
		m.blocks = m.blocks[:len(m.blocks)-1]
		if ahead == "static " {
			*later = append(*later, m.whole(x, ahead))
		}
		return s
	case 1:
		s := m.head(x, ahead) + "; "
		m.blocks = m.blocks[:len(m.blocks)-1]
		return s + m.whole(x, ahead)
	}
	return m.whole(x, ahead)
}

// head makes a function's type, name and params, and begins its block.
func (m *maker) head(x meaning, ahead string) string {
	m.blocks = append(m.blocks, nil)
	var params []string
	for n := range x.params {
		p := meaning{name: m.fresh(), is: x.params[n]}
		m.tell(p)
		params = append(params, letterText(p.is)+" "+p.name)
	}
	return ahead + letterText(x.is) + " " + x.name + "(" + strings.Join(params, ", ") + ")"
}

func (m *maker) whole(x meaning, ahead string) string {
	s := m.head(x, ahead) + " { "
	m.answers, m.loops = x.is, 0
	s += m.stmts(5)
	m.blocks = m.blocks[:len(m.blocks)-1]
	return s + "} "
}

func (m *maker) stmts(deep int) string {
	s := ""
	for m.left > 0 && m.Intn(6) > 0 {
		s += m.stmt(deep)
	}
	return s
}

// inner makes statements in a block of their own.
func (m *maker) inner(deep int, stmts func(int) string) string {
	m.blocks = append(m.blocks, nil)
	s := stmts(deep - 1)
	m.blocks = m.blocks[:len(m.blocks)-1]
	return s
}

func (m *maker) stmt(deep int) string {
	m.left--
	if deep > 0 {
		switch m.Intn(9) {
		case 0:
			return "{ " + m.inner(deep, m.stmts) + "} "
		case 1:
			return "if (" + m.expr('i', 2) + ") " + m.inner(deep, m.stmt)
		case 2:
			return "if (" + m.expr('i', 2) + ") { " + m.inner(deep, m.stmts) + "} else " + m.inner(deep, m.stmt)
		case 3:
			s := "while (" + m.expr('i', 2) + ") "
			m.loops++
			s += m.inner(deep, m.stmt)
			m.loops--
			return s
		}
	}
	switch m.Intn(8) {
	case 0:
		if m.answers == 'v' {
			return "return; "
		}
		return "return " + m.asked(m.answers, 3) + "; "
	case 1:
		if m.loops > 0 {
			return m.oneOf("break; ", "continue; ")
		}
		return "; "
	case 2, 3, 4:
		return m.local()
	}
	return m.expr(m.letter("vidpq"), 3) + "; "
}

func (m *maker) local() string {
	x := meaning{name: m.fresh(), is: m.letter("idpq")}
	s := letterText(x.is) + " " + x.name
	switch {
	case m.Intn(3) == 0 && (x.is == 'i' || x.is == 'd'):
		x.array = true
		s += "[" + strconv.Itoa(1+m.Intn(9)) + "]"
	case m.Intn(3) > 0:
		s += " = " + m.asked(x.is, 3)
	}
	m.tell(x)
	return s + "; "
}

// asked makes an expression where a type is asked for: a nought, too, if that is a pointer.
func (m *maker) asked(is byte, deep int) string {
	if (is == 'p' || is == 'q') && m.Intn(3) == 0 {
		return m.oneOf("0", "0", "(0)", "00")
	}
	return m.expr(is, deep)
}

// number makes an expression of a type that takes no name.
func (m *maker) number(is byte) string {
	if is == 'd' {
		return m.oneOf("0.0", "1.5", "2.25e3", "0.1")
	}
	return m.oneOf("0", "1", "2", "7", "4294967295")
}

// expr makes an expression of a type, in brackets where it isn't an atom. Of what nothing is known, it makes a cast or
// a number; a pointer that nothing else leads to is what a nought was put into.
func (m *maker) expr(is byte, deep int) string {
	if is == 'v' {
		return m.called('v', deep)
	}
	if deep > 0 {
		if s := m.made(is, deep-1); s != "" {
			return s
		}
	}
	if s := m.lvalue(is, 0); s != "" && m.Intn(4) > 0 {
		return s
	}
	if is == 'p' || is == 'q' {
		element := byte('i')
		if is == 'q' {
			element = 'd'
		}
		if x, has := m.among(func(x meaning) bool { return x.array && x.is == element }); has {
			return x.name
		}
		return "(&" + m.lvalue(element, 0) + ")"
	}
	return m.number(is)
}

// called makes a call of a function that answers a type: of no such one, nothing, or a number, which has no type that
// would be wrong alone.
func (m *maker) called(is byte, deep int) string {
	x, has := m.among(func(x meaning) bool { return x.function && x.is == is })
	if !has {
		if is == 'v' {
			return m.number('i')
		}
		return ""
	}
	var args []string
	for n := range x.params {
		args = append(args, m.asked(x.params[n], deep-1))
	}
	return x.name + "(" + strings.Join(args, ", ") + ")"
}

// lvalue makes one of a type, or nothing.
func (m *maker) lvalue(is byte, deep int) string {
	pointer := map[byte]byte{'i': 'p', 'd': 'q'}[is]
	if pointer != 0 && deep > 0 && m.Intn(2) == 0 {
		if m.Intn(2) == 0 {
			return "(*" + m.expr(pointer, deep-1) + ")"
		}
		return m.expr(pointer, deep-1) + "[" + m.expr('i', deep-1) + "]"
	}
	x, has := m.among(func(x meaning) bool { return !x.function && !x.array && x.is == is })
	if !has {
		return ""
	}
	return x.name
}

// made makes an expression of a type with others in it, or nothing.
func (m *maker) made(is byte, deep int) string {
	switch m.Intn(4) {
	case 0:
		return m.called(is, deep)
	case 1:
		if left := m.lvalue(is, deep); left != "" {
			return "(" + left + " = " + m.asked(is, deep) + ")"
		}
		return ""
	}
	if is == 'p' || is == 'q' {
		if m.Intn(2) == 0 {
			if x := m.lvalue(map[byte]byte{'p': 'i', 'q': 'd'}[is], deep); x != "" {
				return "(&" + x + ")"
			}
		}
		return "(" + m.expr(is, deep) + m.oneOf(" + ", " - ") + m.expr('i', deep) + ")"
	}
	if m.Intn(6) == 0 {
		return "((" + letterText(is) + ") " + m.expr(m.letter("id"), deep) + ")"
	}
	if is == 'd' {
		if m.Intn(5) == 0 {
			return "(-" + m.expr('d', deep) + ")"
		}
		return "(" + m.expr('d', deep) + m.oneOf(" + ", " - ", " * ", " / ") + m.expr('d', deep) + ")"
	}
	return m.word(deep)
}

// word makes an Int of others.
func (m *maker) word(deep int) string {
	compare := m.oneOf(" < ", " <= ", " > ", " >= ", " == ", " != ")
	same := m.oneOf(" == ", " != ")
	switch m.Intn(7) {
	case 0:
		return "(" + m.oneOf("-", "!", "~") + m.expr('i', deep) + ")"
	case 1:
		return "(" + m.expr('i', deep) + compare + m.expr('i', deep) + ")"
	case 2:
		return "(" + m.expr('d', deep) + compare + m.expr('d', deep) + ")"
	case 3:
		is := m.letter("pq")
		switch m.Intn(3) {
		case 0:
			return "(" + m.expr(is, deep) + same + m.expr(is, deep) + ")"
		case 1:
			return "(0" + same + m.expr(is, deep) + ")"
		}
		return "(" + m.expr(is, deep) + same + "0)"
	}
	return "(" + m.expr('i', deep) + m.oneOf(" + ", " - ", " * ", " / ", " % ", " << ", " >> ", " & ", " ^ ", " | ", " && ", " || ") + m.expr('i', deep) + ")"
}
