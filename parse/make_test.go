package parse_test

import (
	"math"
	"math/rand"
	"strconv"
	"strings"

	"solder/api"
)

// maker makes a text by the chapter's rows, taken at random, and with it the tree that the text tells.
type maker struct {
	*rand.Rand
	text  strings.Builder
	last  string // the last token
	begin int    // where the first token stands of those that are put behind a call of first
	deep  int
	left  int // how many tokens there should be still
	wide  bool
}

func newMaker(source *rand.Rand, tokens int) *maker {
	return &maker{Rand: source, left: tokens, wide: source.Intn(2) == 0}
}

// may is true once in so many times, if there is still room.
func (m *maker) may(times int) bool {
	return m.left > 0 && m.Intn(times) == 0
}

// put writes a token, and answers where it begins.
func (m *maker) put(token string) int {
	m.text.WriteString(m.gap(token))
	at := m.text.Len()
	m.text.WriteString(token)
	m.last = token
	m.left--
	if m.begin < 0 {
		m.begin = at
	}
	return at
}

// first does what puts tokens, and answers where the first one begins.
func (m *maker) first(put func()) int {
	m.begin = -1
	put()
	return m.begin
}

// gap is what stands between the last token and another one: nothing, if they don't become other tokens by that.
func (m *maker) gap(token string) string {
	join := m.last + token
	glued := false
	for _, s := range []string{"<<", ">>", "<=", ">=", "==", "!=", "&&", "||", "//", "/*"} {
		glued = glued || m.last != "" && strings.Contains(join[len(m.last)-1:len(m.last)+1], s)
	}
	const names = "abcdefghijklmnopqrstuvwxyzABCDEFGHIJKLMNOPQRSTUVWXYZ_0123456789."
	glued = glued || m.last != "" && strings.ContainsAny(m.last[len(m.last)-1:], names) && strings.ContainsAny(token[:1], names)
	switch {
	case m.wide && m.Intn(3) == 0:
		l := []string{" ", "\n", "\t \r\n", " /* ) */ ", " // int\n", "\n/**/"}
		return l[m.Intn(len(l))]
	case glued:
		return " "
	}
	return ""
}

func (m *maker) oneOf(l ...string) string {
	return l[m.Intn(len(l))]
}

func (m *maker) named() string {
	s := m.oneOf("a", "b", "f", "main", "x1", "_", "Int", "ifs", "e5", "putw", strings.Repeat("n", 40))
	m.put(s)
	return s
}

func (m *maker) module() api.Module {
	var all []api.Decl
	for m.left > 0 {
		all = append(all, m.decl())
	}
	return api.Module{Decls: all}
}

func (m *maker) decl() api.Decl {
	var d api.Decl
	switch m.Intn(4) {
	case 0:
		d.Static = true
		m.put("static")
	case 1:
		d.Extern = true
		m.put("extern")
	}
	d.Type, d.At = m.typed()
	d.Name = m.named()
	switch m.Intn(8) {
	case 0:
		m.put(";")
	case 1, 2:
		m.put("=")
		d.Has, d.Inits = true, []api.Expr{m.expr()}
		m.put(";")
	case 3:
		d.Len = m.length()
		if m.Intn(2) == 0 {
			d.Has, d.Inits = true, m.inits()
		}
		m.put(";")
	case 4:
		d.Func, d.Params = true, m.params()
		m.put(";")
	default:
		d.Func, d.Params = true, m.params()
		d.Has, d.Body = true, m.block()
	}
	return d
}

func (m *maker) typed() (is, at int) {
	switch m.Intn(5) {
	case 0:
		return api.Void, m.put("void")
	case 1, 2:
		at = m.put("int")
		if m.Intn(2) == 0 {
			return api.Int, at
		}
		m.put("*")
		return api.PInt, at
	}
	at = m.put("double")
	if m.Intn(2) == 0 {
		return api.Real, at
	}
	m.put("*")
	return api.PReal, at
}

func (m *maker) length() int {
	n := 1 + m.Intn(1000)
	m.put("[")
	m.put(m.oneOf("", "0", "00") + strconv.Itoa(n))
	m.put("]")
	return n
}

func (m *maker) inits() []api.Expr {
	m.put("=")
	m.put("{")
	l := m.exprs(12)
	m.put("}")
	return l
}

// exprs are at least one, and at most so many.
func (m *maker) exprs(most int) []api.Expr {
	l := []api.Expr{m.expr()}
	for len(l) < most && m.may(2) {
		m.put(",")
		l = append(l, m.expr())
	}
	return l
}

func (m *maker) params() []api.Param {
	var l []api.Param
	m.put("(")
	switch m.Intn(3) {
	case 0:
	case 1:
		m.put("void")
	default:
		for n := range 1 + m.Intn(8) {
			if n > 0 {
				m.put(",")
			}
			is, at := m.typed()
			l = append(l, api.Param{Type: is, At: at, Name: m.named()})
		}
	}
	m.put(")")
	return l
}

func (m *maker) block() api.Stmt {
	s := api.Stmt{Kind: api.SBlock, At: m.put("{")}
	for m.deep < 40 && m.left > 0 && m.Intn(5) > 0 {
		s.Kids = append(s.Kids, m.stmt(true))
	}
	m.put("}")
	return s
}

// stmt makes one; if it may, then one that an else behind it would belong to.
func (m *maker) stmt(open bool) api.Stmt {
	m.deep++
	defer func() { m.deep-- }()
	// A condition is two deeper, another statement one.
	if m.deep <= 38 && m.left > 0 {
		switch m.Intn(12) {
		case 0, 1:
			return m.choice(open)
		case 2:
			s := api.Stmt{Kind: api.SWhile, At: m.put("while"), Exprs: m.condition()}
			s.Kids = []api.Stmt{m.stmt(open)}
			return s
		case 3:
			s := api.Stmt{Kind: api.SReturn, At: m.put("return"), Exprs: []api.Expr{m.expr()}}
			m.put(";")
			return s
		case 4, 5:
			s := m.local()
			m.put("=")
			s.Exprs = []api.Expr{m.expr()}
			m.put(";")
			return s
		case 6, 7, 8:
			// It begins where its first token stands, though that be a bracket.
			s := api.Stmt{Kind: api.SExpr}
			s.At = m.first(func() { s.Exprs = []api.Expr{m.expr()} })
			m.put(";")
			return s
		}
	}
	return m.shallow()
}

// shallow makes a statement in which nothing is deeper, but for a block's.
func (m *maker) shallow() api.Stmt {
	var s api.Stmt
	switch m.Intn(6) {
	case 0:
		return m.block()
	case 1:
		s = m.local()
	case 2:
		s = api.Stmt{Kind: api.SReturn, At: m.put("return")}
	case 3:
		s = api.Stmt{Kind: api.SBreak, At: m.put("break")}
	case 4:
		s = api.Stmt{Kind: api.SContinue, At: m.put("continue")}
	default:
		return api.Stmt{Kind: api.SExpr, At: m.put(";")}
	}
	m.put(";")
	return s
}

func (m *maker) local() api.Stmt {
	s := api.Stmt{Kind: api.SLocal}
	s.Type, s.At = m.typed()
	s.Name = m.named()
	if m.Intn(3) == 0 {
		s.Len = m.length()
	}
	return s
}

func (m *maker) condition() []api.Expr {
	m.put("(")
	x := m.expr()
	m.put(")")
	return []api.Expr{x}
}

// choice makes an if: one without else only where none may stand behind it.
func (m *maker) choice(open bool) api.Stmt {
	s := api.Stmt{Kind: api.SIf, At: m.put("if"), Exprs: m.condition()}
	if open && m.Intn(2) == 0 {
		s.Kids = []api.Stmt{m.stmt(true)}
		return s
	}
	s.Kids = []api.Stmt{m.stmt(false)}
	m.put("else")
	s.Kids = append(s.Kids, m.stmt(open))
	return s
}

func (m *maker) expr() api.Expr {
	m.deep++
	defer func() { m.deep-- }()
	left := m.operands(0)
	if m.deep <= 38 && m.may(8) {
		m.put("=")
		return assign(left, m.expr())
	}
	return left
}

// operands makes those of operators of a strength, or of stronger ones.
func (m *maker) operands(strength int) api.Expr {
	l := operators()
	if strength == len(l) {
		return m.unary()
	}
	left := m.operands(strength + 1)
	for m.may(12) {
		op := m.oneOf(l[strength]...)
		m.put(op)
		left = binary(op, left, m.operands(strength+1))
	}
	return left
}

func (m *maker) unary() api.Expr {
	m.deep++
	defer func() { m.deep-- }()
	if m.deep < 40 && m.may(6) {
		op := m.oneOf("-", "!", "~", "*", "&")
		at := m.put(op)
		return unary(op, at, m.unary())
	}
	if m.deep < 40 && m.may(10) {
		at := m.put("(")
		to, _ := m.typed()
		m.put(")")
		return cast(uint32(to), at, m.unary())
	}
	x := m.atom()
	for m.deep <= 38 && m.may(6) {
		m.put("[")
		x = index(x, m.expr())
		m.put("]")
	}
	return x
}

func (m *maker) atom() api.Expr {
	choices := 4
	if m.deep <= 38 && m.left > 0 {
		choices = 8
	}
	switch m.Intn(choices) {
	case 0:
		s, x := m.real()
		return double(x, m.put(s))
	case 1, 7:
		n := m.Uint32() >> m.Intn(32)
		return num(n, m.put(strconv.FormatUint(uint64(n), 10)))
	case 2, 6:
		s := m.named()
		return name(s, m.text.Len()-len(s))
	case 3, 4:
		s := m.named()
		at := m.text.Len() - len(s)
		m.put("(")
		var args []api.Expr
		if choices == 8 && m.Intn(3) > 0 {
			args = m.exprs(8)
		}
		m.put(")")
		return call(s, at, args...)
	}
	m.put("(")
	x := m.expr()
	m.put(")")
	return x
}

// real is a text of a real, and which one.
func (m *maker) real() (string, float64) {
	x := math.Float64frombits(m.Uint64() >> 1)
	if m.Intn(2) == 0 && !math.IsNaN(x) && !math.IsInf(x, 0) {
		return strconv.FormatFloat(x, 'e', 17, 64), x
	}
	s := m.oneOf("0.0", "1.0", "1.5", "0.1", "100000.0", "1000000.0", "123456789.125", "1.5e3", "1.0e300", "1.0e-300", "5.0e-324", "1.0e999", "0.0e5", "2.5e+10", "9.999e-5", "00.50", "4.9e-324", "1.7976931348623157e308", "2.2250738585072014e-308")
	x, _ = strconv.ParseFloat(s, 64)
	return s, x
}
