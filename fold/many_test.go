package fold_test

import (
	"fmt"
	"math/rand"
	"strconv"
	"strings"
	"testing"

	"solder/api"
	"solder/fold"
	"solder/helps"
)

// maker makes expressions of a type, told by its letter: i, d, p, q for Int, Real, PInt, PReal. One in odds isn't
// constant; 0 is none.
type maker struct {
	*rand.Rand
	odds  int
	ahead []named // what they may name
}

// named is a variable with a name.
type named struct {
	name   string
	is     byte // the letter of its elements' type
	length int  // of an array; 0: none
}

func (m *maker) oneOf(l ...string) string {
	return l[m.Intn(len(l))]
}

// among is a variable of a type, an array or not.
func (m *maker) among(is byte, array bool) named {
	for {
		if x := m.ahead[m.Intn(len(m.ahead))]; x.is == is && (x.length > 0) == array {
			return x
		}
	}
}

func (m *maker) expr(is byte, deep int) string {
	if m.odds > 0 && m.Intn(m.odds) == 0 {
		return m.none(is, deep-1)
	}
	switch is {
	case 'i':
		return m.word(deep)
	case 'd':
		return m.real(deep)
	}
	return m.place(is, deep)
}

// none makes one that isn't constant, or has a Kid that isn't.
func (m *maker) none(is byte, deep int) string {
	if deep > 0 && m.Intn(3) > 0 {
		element := map[byte]byte{'i': 'p', 'd': 'q'}[is]
		switch {
		case is == 'p' || is == 'q':
			return "(" + m.among(is, false).name + m.oneOf(" + ", " - ") + m.expr('i', deep-1) + ")"
		case m.Intn(3) == 0:
			return "(*" + m.expr(element, deep-1) + ")"
		case m.Intn(2) == 0:
			return m.expr(element, deep-1) + "[" + m.expr('i', deep-1) + "]"
		case is == 'i':
			other := string(m.oneOf("p", "q")[0])
			return "(" + m.expr(other[0], deep-1) + m.oneOf(" == ", " != ") + m.expr(other[0], deep-1) + ")"
		}
		return "(" + m.among(is, false).name + " = " + m.expr(is, deep-1) + ")"
	}
	if m.Intn(2) == 0 {
		return string(is) + "call()"
	}
	return m.among(is, false).name
}

func (m *maker) word(deep int) string {
	if deep <= 0 {
		return m.oneOf("0", "1", "2", "3", "31", "32", "33", "2147483647", "2147483648", "4294967295", strconv.Itoa(m.Intn(1<<31)))
	}
	deep--
	switch m.Intn(6) {
	case 0:
		return "(" + m.oneOf("-", "!", "~") + m.expr('i', deep) + ")"
	case 1:
		return "(" + m.expr('d', deep) + m.oneOf(" < ", " <= ", " > ", " >= ", " == ", " != ") + m.expr('d', deep) + ")"
	case 2:
		return "((int) " + m.expr(m.oneOf("i", "d")[0], deep) + ")"
	}
	return "(" + m.expr('i', deep) + " " + binaryOps()[m.Intn(len(binaryOps()))] + " " + m.expr('i', deep) + ")"
}

func (m *maker) real(deep int) string {
	if deep <= 0 {
		return m.oneOf("0.0", "1.5", "0.1", "2147483648.5", "1.0e300", "1.0e-310", "3.0", "9.9e999")
	}
	deep--
	switch m.Intn(5) {
	case 0:
		return "(-" + m.expr('d', deep) + ")"
	case 1:
		return "((double) " + m.expr(m.oneOf("i", "d")[0], deep) + ")"
	}
	return "(" + m.expr('d', deep) + m.oneOf(" + ", " - ", " * ", " / ") + m.expr('d', deep) + ")"
}

// place makes one that is most often within its variable.
func (m *maker) place(is byte, deep int) string {
	element := map[byte]byte{'p': 'i', 'q': 'd'}[is]
	x := m.among(element, m.Intn(4) > 0)
	first := x.name
	if x.length == 0 {
		first = "(&" + x.name + ")"
	}
	by := strconv.Itoa(m.Intn(max(1, x.length) + 1))
	if m.Intn(8) == 0 {
		by = m.expr('i', deep-1)
	}
	switch m.Intn(5) {
	case 0:
		return first
	case 1:
		return "(&" + first + "[" + by + "])"
	case 2:
		return "(" + first + " + " + by + ")"
	case 3:
		return "(" + first + " - -" + by + ")"
	}
	if deep <= 0 {
		return first
	}
	return "(" + m.place(is, deep-1) + m.oneOf(" + ", " - ") + m.oneOf("0", "1", "2", "(1 < 2)") + ")"
}

// module makes a text: some variables that may be named, more with Inits, and a function with expressions.
func (m *maker) module() string {
	m.ahead = nil
	s := "int icall(); double dcall(); int *pcall(); double *qcall(); "
	for n := range 6 + m.Intn(6) {
		x := named{name: "v" + strconv.Itoa(n), is: "idpq"[n%4]}
		s += m.oneOf("", "static ", "extern ") + m.declared(x) + "; "
		m.ahead = append(m.ahead, x)
		if n < 4 || m.Intn(2) == 0 {
			x = named{name: "a" + strconv.Itoa(n), is: "id"[n%2], length: 1 + m.Intn(6)}
			s += m.oneOf("", "static ", "extern ") + m.declared(x) + "; "
			m.ahead = append(m.ahead, x)
		}
	}
	for n := range 3 + m.Intn(8) {
		x := named{name: "w" + strconv.Itoa(n), is: "idpq"[m.Intn(4)]}
		if (x.is == 'i' || x.is == 'd') && m.Intn(2) == 0 {
			x.length = 1 + m.Intn(9)
		}
		s += m.oneOf("", "", "static ") + m.declared(x) + m.inits(x) + "; "
		m.ahead = append(m.ahead, x)
	}
	s += "void f() { "
	for range 3 + m.Intn(5) {
		s += m.expr("idpq"[m.Intn(4)], 4) + "; "
	}
	return s + "}"
}

func (m *maker) declared(x named) string {
	s := map[byte]string{'i': "int ", 'd': "double ", 'p': "int *", 'q': "double *"}[x.is] + x.name
	if x.length > 0 {
		s += fmt.Sprintf("[%d]", x.length)
	}
	return s
}

func (m *maker) inits(x named) string {
	if x.length == 0 {
		if (x.is == 'p' || x.is == 'q') && m.Intn(4) == 0 {
			return " = 0"
		}
		return " = " + m.expr(x.is, m.Intn(5))
	}
	var l []string
	for range 1 + m.Intn(x.length) {
		l = append(l, m.expr(x.is, m.Intn(3)))
	}
	return " = {" + strings.Join(l, ", ") + "}"
}

// Modules that are made at random: all their expressions, and their data, are as the model says.
func TestMadeModules(t *testing.T) {
	source := rand.New(rand.NewSource(61))
	kinds, faults, types, ops := map[int]int{}, map[int]int{}, map[int]int{}, map[string]int{}
	data, none := 0, 0
	for n := range 4000 {
		maker := maker{Rand: source, odds: []int{0, 0, 300, 40, 10}[n%5]}
		text := maker.module()
		if len(text) > api.MaxText {
			continue
		}
		m := checked(t, text)
		dataAsModel(t, text, m)
		if _, _, e := fold.Data(m); e == api.OK {
			data++
		} else {
			none++
		}
		helps.Walk(&m, func(x *api.Expr) {
			asModel(t, text, m, *x)
			got := ask(m, *x)
			if got.e != api.OK {
				faults[x.Kind]++
				return
			}
			kinds[x.Kind]++
			types[got.c.Type]++
			ops[x.Op]++
		}, func(*api.Stmt) {})
	}
	for kind := api.ENum; kind <= api.ECast; kind++ {
		constant := kind != api.EAssign && kind != api.ECall && kind != api.EIndex
		if constant != (kinds[kind] > 100) || kind != api.ENum && kind != api.EReal && faults[kind] < 100 {
			t.Errorf("of the test's expressions of Kind %d %d are constant, %d are not", kind, kinds[kind], faults[kind])
		}
	}
	if len(types) != 4 || len(ops) != 21 || data < 1000 || none < 1000 {
		t.Errorf("the test's modules have constants of the Types %v, with the operators %v; %d have data, %d have none", types, ops, data, none)
	}
}

// All expressions of a few pieces.
func TestAllShortExpressions(t *testing.T) {
	seen := map[api.Errno]int{}
	pieces := strings.Split("a|i|b|0|1|3|1.5|-|&|*|+|[1]|(|)|==|!|(int)|(double)|g()|=|&&", "|")
	var all func(ahead string, left int)
	all = func(ahead string, left int) {
		if m, x, right := tried("int a[3]; int i; double b[2]; int *g(); void z() { " + ahead + "; }"); right && ahead != "" {
			asModel(t, ahead, m, x)
			seen[ask(m, x).e]++
		}
		if left > 0 {
			for _, piece := range pieces {
				all(ahead+" "+piece, left-1)
			}
		}
	}
	all("", 4)
	if seen[api.OK] < 700 || seen[api.ErrConst] < 700 || len(seen) != 2 {
		t.Errorf("the test's expressions lead to %v", seen)
	}
}
