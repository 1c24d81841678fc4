package bind_test

import (
	"math/rand"
	"slices"
	"strconv"
	"strings"
)

// shape is what a Decl is, but for its name.
type shape struct {
	typed    string
	length   int
	function bool
	params   string // the letters of the params' types
}

// toldOf is what a made module tells of a name.
type toldOf struct {
	name            string
	as              shape
	static, defines bool
}

// made is a module's text, and what it tells and uses, known by how it was made.
type made struct {
	text string
	told []toldOf
	uses map[string]struct{} // the names that it uses and that aren't Static in it
}

// maker makes one module.
type maker struct {
	*rand.Rand
	made
	blocks []map[string]shape // the params and locals that are known
}

func allNames() []string {
	return []string{"x", "y", "z", "u", "v", "main"}
}

// someShapes are those that Decls of a name may have.
func someShapes(name string) []shape {
	if name == "main" {
		return []shape{{typed: "int ", function: true}}
	}
	return []shape{
		{typed: "int "}, {typed: "double "}, {typed: "int *"}, {typed: "int ", length: 2}, {typed: "int ", length: 3}, {typed: "double ", length: 2},
		{typed: "int ", function: true}, {typed: "void ", function: true}, {typed: "int ", function: true, params: "i"}, {typed: "int ", function: true, params: "d"},
		{typed: "double ", function: true, params: "ip"}, {typed: "int *", function: true, params: "pdi"},
	}
}

// typeOf is the type with a letter.
func typeOf(letter byte) string {
	return map[byte]string{'i': "int ", 'd': "double ", 'p': "int *"}[letter]
}

func (m *maker) oneOf(l ...string) string {
	return l[m.Intn(len(l))]
}

// tell adds a Decl to the text; then its name is known.
func (m *maker) tell(d toldOf) {
	switch {
	case d.static:
		m.text += "static "
	case !d.as.function && !d.defines || d.as.function && m.Intn(4) == 0:
		m.text += "extern "
	}
	m.told = append(m.told, d)
	m.text += d.as.typed + d.name + lengthText(d.as.length)
	params := map[string]shape{}
	if d.as.function {
		m.text += "(" + m.params(d.as.params, params) + ")"
	}
	switch {
	case d.as.function && d.defines:
		m.blocks = []map[string]shape{params}
		m.text += " { " + m.stmts(3) + "} "
		m.blocks = nil
	case d.defines && m.Intn(2) == 0:
		m.text += " = " + m.start(d.as) + "; "
	default:
		m.text += "; "
	}
}

func lengthText(length int) string {
	if length == 0 {
		return ""
	}
	return "[" + strconv.Itoa(length) + "]"
}

// params are those of a function; each has a name that others have, too.
func (m *maker) params(letters string, known map[string]shape) string {
	var all []string
	for n, at := range m.Perm(len(allNames()))[:len(letters)] {
		name, typed := allNames()[at], typeOf(letters[n])
		known[name] = shape{typed: typed}
		all = append(all, typed+name)
	}
	return strings.Join(all, ", ")
}

// start is an Init, or two of an array.
func (m *maker) start(as shape) string {
	if as.length > 0 {
		return "{" + m.ofType(as.typed, 1) + ", " + m.ofType(as.typed, 1) + "}"
	}
	return m.ofType(as.typed, 2)
}

// ofType is an expression of a type.
func (m *maker) ofType(typed string, deep int) string {
	switch typed {
	case "int ":
		return m.word(deep)
	case "double ":
		return "(double) " + m.word(deep)
	}
	return "0"
}

// known is what a name means, and whether it means something, and that at the top.
func (m *maker) known(name string) (as shape, is, atTop bool) {
	for _, block := range slices.Backward(m.blocks) {
		if as, local := block[name]; local {
			return as, true, false
		}
	}
	for _, d := range m.told {
		if d.name == name {
			return d.as, true, !d.static
		}
	}
	return shape{}, false, false
}

// word is an expression that is an Int.
func (m *maker) word(deep int) string {
	name := allNames()[m.Intn(len(allNames()))]
	as, is, _ := m.known(name)
	switch {
	case deep > 0 && m.Intn(4) == 0:
		return "(" + m.word(deep-1) + m.oneOf(" + ", " < ", " && ", " ^ ") + m.word(deep-1) + ")"
	case deep <= 0 || !is || as.typed == "void ":
		return m.oneOf("1", "getw()", "(int) 1.5")
	case as.typed == "double ":
		return "((int) " + m.value(name, deep-1) + ")"
	case as.typed == "int *":
		return "(" + m.oneOf("*", "0 == ") + m.value(name, deep-1) + ")"
	}
	return m.value(name, deep-1)
}

// value is an expression of a name that is known: a call, an element, or the variable.
func (m *maker) value(name string, deep int) string {
	as, _, atTop := m.known(name)
	if atTop {
		m.uses[name] = struct{}{}
	}
	switch {
	case as.function:
		var all []string
		for n := range len(as.params) {
			all = append(all, m.ofType(typeOf(as.params[n]), deep))
		}
		return name + "(" + strings.Join(all, ", ") + ")"
	case as.length > 0 && m.Intn(2) == 0:
		return name + "[" + m.word(deep) + "]"
	case as.length > 0:
		return m.oneOf("*"+name, "*&"+name+"[1]")
	case as.typed == "int *":
		return name
	}
	return m.oneOf(name, "*&"+name, "(&"+name+")[0]")
}

func (m *maker) stmts(deep int) (s string) {
	for range m.Intn(4) {
		s += m.stmt(deep) + " "
	}
	return s
}

func (m *maker) stmt(deep int) string {
	if deep > 0 {
		switch m.Intn(6) {
		case 0:
			return m.block(func() string { return "{ " + m.stmts(deep-1) + "}" })
		case 1:
			s := "if (" + m.word(1) + ") " + m.block(func() string { return m.stmt(deep - 1) })
			return s + " else " + m.block(func() string { return m.stmt(deep - 1) })
		case 2:
			return "while (" + m.word(1) + ") " + m.block(func() string { return m.stmt(deep - 1) })
		case 3:
			return m.local()
		}
	}
	name := allNames()[m.Intn(len(allNames()))]
	if _, is, _ := m.known(name); is {
		return m.value(name, 2) + ";"
	}
	return m.word(3) + ";"
}

func (m *maker) block(inside func() string) string {
	m.blocks = append(m.blocks, map[string]shape{})
	s := inside()
	m.blocks = m.blocks[:len(m.blocks)-1]
	return s
}

// local is one that the innermost block hasn't, if there is such a name.
func (m *maker) local() string {
	block := m.blocks[len(m.blocks)-1]
	name := allNames()[m.Intn(len(allNames()))]
	if _, has := block[name]; has {
		return ";"
	}
	as := someShapes("")[m.Intn(6)]
	s := as.typed + name + lengthText(as.length)
	if as.length == 0 && m.Intn(2) == 0 {
		s += " = " + m.ofType(as.typed, 2)
	}
	block[name] = as
	return s + ";"
}

// plan makes some modules: of each name one shape is the usual one, and one module is most often that which defines it. The
// greater odds, the less often it is otherwise.
func plan(source *rand.Rand, n, odds int) (all []made) {
	mods := make([]maker, n)
	for k := range mods {
		mods[k] = maker{Rand: source, made: made{uses: map[string]struct{}{}}}
	}
	for _, at := range source.Perm(len(allNames())) {
		name := allNames()[at]
		shapes := someShapes(name)
		usual := shapes[source.Intn(len(shapes))]
		by := source.Intn(n)
		if source.Intn(odds) == 0 {
			by = -1
		}
		for k := range mods {
			d := toldOf{name: name, as: usual, defines: k == by || source.Intn(odds*n) == 0}
			if k != by && source.Intn(odds*n) == 0 {
				d.as = shapes[source.Intn(len(shapes))]
			}
			mods[k].some(d, k == by)
		}
	}
	for _, m := range mods {
		all = append(all, m.made)
	}
	return all
}

// some adds Decls of a name, or none.
func (m *maker) some(d toldOf, must bool) {
	asked := d
	asked.defines = false
	switch {
	case !d.defines && m.Intn(3) == 0:
	case !must && d.name != "main" && m.Intn(4) == 0:
		d.as = someShapes("")[m.Intn(len(someShapes("")))]
		d.static, d.defines = true, true
		m.tell(d)
	default:
		if m.Intn(4) == 0 {
			m.tell(asked)
		}
		m.tell(d)
		if m.Intn(6) == 0 {
			m.tell(asked)
		}
	}
}
