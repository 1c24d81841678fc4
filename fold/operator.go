package fold

import (
	"solder/api"
	"solder/real"
	"solder/word"
)

func ofWord(w uint32) Const {
	return Const{Type: api.Int, Word: w}
}

func ofReal(bits uint64) Const {
	return Const{Type: api.Real, Bits: bits}
}

// unary is an operator of a word or a real, if there is such a one.
func unary(op string, a Const) (Const, bool) {
	switch {
	case a.Type == api.Int:
		w, is := unaryWord(op, a.Word)
		return ofWord(w), is
	case a.Type == api.Real && op == "-":
		return ofReal(real.Neg(a.Bits)), true
	}
	return Const{}, false
}

func unaryWord(op string, a uint32) (uint32, bool) {
	switch op {
	case "-":
		return binaryWord(op, 0, a)
	case "!":
		return oneIf(a == 0), true
	case "~":
		return ^a, true
	}
	return 0, false
}

// binary is an operator of two words or two reals, if there is such a one.
func binary(op string, a, b Const) (Const, bool) {
	switch {
	case a.Type == api.Int && b.Type == api.Int:
		w, is := binaryWord(op, a.Word, b.Word)
		return ofWord(w), is
	case a.Type == api.Real && b.Type == api.Real:
		return binaryReal(op, a.Bits, b.Bits)
	}
	return Const{}, false
}

func binaryWord(op string, a, b uint32) (uint32, bool) {
	x, y := word.Signed(a), word.Signed(b)
	switch op {
	case "<":
		return oneIf(x < y), true
	case "<=":
		return oneIf(x <= y), true
	case ">":
		return oneIf(x > y), true
	case ">=":
		return oneIf(x >= y), true
	case "==":
		return oneIf(a == b), true
	case "!=":
		return oneIf(a != b), true
	case "&&":
		return oneIf(a != 0 && b != 0), true
	case "||":
		return oneIf(a != 0 || b != 0), true
	}
	w, e := word.Do(wordOperation(op), a, b)
	return w, e == api.OK
}

// wordOperation is chapter 1's number of an operator of words; 0 is no operation's.
func wordOperation(op string) int {
	switch op {
	case "+":
		return api.ADD
	case "-":
		return api.SUB
	case "*":
		return api.MUL
	case "/":
		return api.DIV
	case "%":
		return api.REM
	case "<<":
		return api.SLL
	case ">>":
		return api.SRA
	case "&":
		return api.AND
	case "^":
		return api.XOR
	case "|":
		return api.OR
	}
	return 0
}

// binaryReal is an operator of two reals. With a NaN each comparison has its own answer, so none is another's opposite
// but != of ==.
func binaryReal(op string, a, b uint64) (Const, bool) {
	switch op {
	case "==":
		return compared(api.FEQ, a, b), true
	case "!=":
		return ofWord(1 - compared(api.FEQ, a, b).Word), true
	case "<":
		return compared(api.FLT, a, b), true
	case "<=":
		return compared(api.FLE, a, b), true
	case ">":
		return compared(api.FLT, b, a), true
	case ">=":
		return compared(api.FLE, b, a), true
	}
	bits, e := real.Do(realOperation(op), a, b)
	return ofReal(bits), e == api.OK
}

// compared is a comparison of chapter 2.
func compared(by int, a, b uint64) Const {
	// No error can come: these are comparisons.
	w, _ := real.Compare(by, a, b)
	return ofWord(w)
}

// realOperation is chapter 2's number of an operator of reals; 0 is no operation's.
func realOperation(op string) int {
	switch op {
	case "+":
		return api.FADD
	case "-":
		return api.FSUB
	case "*":
		return api.FMUL
	case "/":
		return api.FDIV
	}
	return 0
}

// cast is a word or a real as one of either type, if that is a number's.
func cast(to int, a Const) (Const, bool) {
	switch {
	case a.Type == api.Int && to == api.Real:
		return ofReal(real.OfInt(a.Word)), true
	case a.Type == api.Real && to == api.Int:
		return ofWord(real.ToInt(a.Bits)), true
	}
	return a, a.Type == to && (to == api.Int || to == api.Real)
}

func oneIf(holds bool) uint32 {
	if holds {
		return 1
	}
	return 0
}
