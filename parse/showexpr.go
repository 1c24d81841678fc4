package parse

import (
	"math"
	"slices"
	"strconv"
	"strings"

	"solder/api"
)

// assigning is the strength of an assignment: less than that of each binary operator.
const assigning = -1

// infinity is a text of it: there is no shortest one.
const infinity = "1.0e999"

// exprs writes expressions with commas between.
func (w *writer) exprs(l []api.Expr) {
	for n, x := range l {
		w.comma(n)
		w.expr(x)
	}
}

func (w *writer) expr(x api.Expr) {
	w.part()
	switch x.Kind {
	case api.ENum:
		w.put(strconv.FormatUint(uint64(x.Num), 10))
	case api.EReal:
		w.put(realText(x.Bits))
	case api.EName:
		w.put(x.Name)
	case api.EUnary:
		w.put(x.Op)
		w.signed(x)
	case api.EBinary:
		w.binary(x)
	case api.EAssign:
		left, right := w.pair(x)
		w.operand(left, assigning+1)
		w.put(" = ")
		w.expr(right)
	case api.ECall:
		w.put(x.Name, "(")
		w.exprs(x.Kids)
		w.put(")")
	case api.EIndex:
		left, right := w.pair(x)
		w.operand(left, w.strength(x))
		w.put("[")
		w.expr(right)
		w.put("]")
	case api.ECast:
		w.put("(", typeText(int(x.Num)), ") ")
		w.operand(w.single(x), w.strength(x))
	}
}

// signed writes what stands behind a unary's sign.
func (w *writer) signed(x api.Expr) {
	kid := w.single(x)
	// Two & with nothing between would be another sign.
	if kid.Kind == api.EUnary && kid.Op == x.Op {
		w.put(" ")
	}
	w.operand(kid, w.strength(x))
}

func (w *writer) binary(x api.Expr) {
	left, right := w.pair(x)
	w.operand(left, w.strength(x))
	w.put(" ", x.Op, " ")
	// One as strong takes its operands from the left: on the right it must stand in brackets.
	w.operand(right, w.strength(x)+1)
}

// operand writes an expression, in brackets if it is weaker than what must stand there.
func (w *writer) operand(x api.Expr, least int) {
	if w.strength(x) >= least {
		w.expr(x)
		return
	}
	w.put("(")
	w.expr(x)
	w.put(")")
}

// strength is that of a binary operator among the levels; a unary's is more, and that of an atom and its indices more
// again.
func (w *writer) strength(x api.Expr) int {
	switch x.Kind {
	case api.EAssign:
		return assigning
	case api.EBinary:
		return slices.IndexFunc(w.levels, func(l []string) bool { return slices.Contains(l, x.Op) })
	case api.EUnary, api.ECast:
		return len(w.levels)
	}
	return len(w.levels) + 1
}

// single is the one operand of x.
func (w *writer) single(x api.Expr) api.Expr {
	w.demand(len(x.Kids) == 1)
	return x.Kids[0]
}

// pair are the two operands of x.
func (w *writer) pair(x api.Expr) (left, right api.Expr) {
	w.demand(len(x.Kids) == 2)
	return x.Kids[0], x.Kids[1]
}

// realText is the shortest text that means a real, but for what the form of such texts asks for.
func realText(bits uint64) string {
	x := math.Float64frombits(bits)
	if math.IsInf(x, 1) {
		return infinity
	}
	s := strconv.FormatFloat(x, 'g', -1, 64)
	if strings.Contains(s, ".") {
		return s
	}
	digits, power, has := strings.Cut(s, "e")
	if has {
		power = "e" + power
	}
	return digits + ".0" + power
}
