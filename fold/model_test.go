package fold_test

import (
	"encoding/binary"
	"math"
	"math/big"
	"slices"
	"strconv"
	"testing"

	"solder/api"
	"solder/fold"
)

// The chapter told in another way: an expression becomes a list of steps, each taking what the ones ahead of it left;
// words and offsets are numbers without bounds, reals the language's own. The first step that leads to no constant is
// told.

// value is what a step leaves.
type value struct {
	is   byte     // w: a word, r: a real, n: nothing, p: a place, ?: no constant
	n    *big.Int // what a word means signed, or a place's elements
	r    float64
	name string
	of   int // a pointer's type
}

// step takes values, and leaves one.
type step struct {
	at    int
	takes int
	leave func([]value) value
}

var noValue = value{is: '?'}

func two(n int64) *big.Int {
	return new(big.Int).Exp(big.NewInt(2), big.NewInt(n), nil)
}

// aWord is a number's lowest 32 bits, taken signed.
func aWord(n *big.Int) value {
	low := new(big.Int).Mod(n, two(32))
	if low.Cmp(two(31)) >= 0 {
		low.Sub(low, two(32))
	}
	return value{is: 'w', n: low}
}

func aReal(x float64) value {
	return value{is: 'r', r: x}
}

func aTruth(holds bool) value {
	if holds {
		return aWord(big.NewInt(1))
	}
	return aWord(big.NewInt(0))
}

func (v value) constant() fold.Const {
	switch v.is {
	case 'w':
		return fold.Const{Type: api.Int, Word: uint32(v.n.Int64())}
	case 'r':
		if v.r != v.r {
			return fold.Const{Type: api.Real, Bits: 0x7ff8 << 48}
		}
		return fold.Const{Type: api.Real, Bits: math.Float64bits(v.r)}
	case 'n':
		return fold.Const{Type: v.of}
	case 'p':
		return fold.Const{Type: v.of, Name: v.name, Off: int(v.n.Int64())}
	}
	return fold.Const{}
}

// valueOf is what the model takes a word's or a real's Const for.
func valueOf(c fold.Const) value {
	switch c.Type {
	case api.Int:
		return aWord(new(big.Int).SetUint64(uint64(c.Word)))
	case api.Real:
		return aReal(math.Float64frombits(c.Bits))
	}
	return noValue
}

// model is what Eval must answer.
func model(m api.Module, x api.Expr) answer {
	var stack []value
	first := answer{e: api.OK}
	for _, s := range modelSteps(m, x) {
		left := len(stack) - s.takes
		taken := stack[left:]
		v := noValue
		if !slices.ContainsFunc(taken, func(v value) bool { return v.is == '?' }) {
			if v = s.leave(taken); v.is == '?' && first.e == api.OK {
				first = answer{fold.Const{}, s.at, api.ErrConst}
			}
		}
		stack = append(stack[:left:left], v)
	}
	if first.e == api.OK {
		first.c = stack[0].constant()
	}
	return first
}

func modelSteps(m api.Module, x api.Expr) []step {
	leave, kids := modelStep(m, x), x.Kids
	if x.Kind == api.EUnary && x.Op == "&" && (x.Kids[0].Kind == api.EName || x.Kids[0].Kind == api.EIndex) {
		leave, kids = modelAddress(m, x.Kids[0]), x.Kids[0].Kids
	}
	var all []step
	for _, kid := range kids {
		all = append(all, modelSteps(m, kid)...)
	}
	return append(all, step{x.At, len(kids), leave})
}

// modelVariable is the place of a variable's first element, how many it has, and whether it is an array.
func modelVariable(m api.Module, name string) (first value, elements int, array bool) {
	for _, d := range m.Decls {
		if d.Name != name || d.Func {
			continue
		}
		switch d.Type {
		case api.Int:
			first = value{is: 'p', n: big.NewInt(0), name: name, of: api.PInt}
		case api.Real:
			first = value{is: 'p', n: big.NewInt(0), name: name, of: api.PReal}
		default:
			return noValue, 0, false
		}
		if d.Len == 0 {
			return first, 1, false
		}
		return first, d.Len, true
	}
	return noValue, 0, false
}

func modelMove(m api.Module, place, by value, sign int64) value {
	if place.is != 'p' || by.is != 'w' {
		return noValue
	}
	_, elements, _ := modelVariable(m, place.name)
	place.n = new(big.Int).Add(place.n, new(big.Int).Mul(by.n, big.NewInt(sign)))
	if place.n.Sign() < 0 || place.n.Cmp(big.NewInt(int64(elements))) > 0 {
		return noValue
	}
	return place
}

// modelAddress is what & of a name or an index leaves.
func modelAddress(m api.Module, x api.Expr) func([]value) value {
	return func(v []value) value {
		if x.Kind == api.EName {
			first, _, _ := modelVariable(m, x.Name)
			return first
		}
		return modelMove(m, v[0], v[1], 1)
	}
}

func modelStep(m api.Module, x api.Expr) func([]value) value {
	return func(v []value) value {
		switch x.Kind {
		case api.ENum:
			if x.Type == api.PInt || x.Type == api.PReal {
				return value{is: 'n', of: x.Type}
			}
			return aWord(big.NewInt(int64(x.Num)))
		case api.EReal:
			return aReal(math.Float64frombits(x.Bits))
		case api.EName:
			if first, _, array := modelVariable(m, x.Name); array {
				return first
			}
		case api.EUnary:
			return modelUnary(x.Op, v[0])
		case api.EBinary:
			if v[0].is == 'p' && (x.Op == "+" || x.Op == "-") {
				return modelMove(m, v[0], v[1], map[string]int64{"+": 1, "-": -1}[x.Op])
			}
			return modelBinary(x.Op, v[0], v[1])
		case api.ECast:
			return modelCast(int(x.Num), v[0])
		}
		return noValue
	}
}

func modelCast(to int, v value) value {
	switch string(v.is) + strconv.Itoa(to) {
	case "w1", "r2":
		return v
	case "w2":
		x, _ := new(big.Float).SetInt(v.n).Float64()
		return aReal(x)
	case "r1":
		least, most := new(big.Int).Neg(two(31)), new(big.Int).Sub(two(31), big.NewInt(1))
		switch {
		case v.r != v.r || v.r > 1e10:
			return aWord(most)
		case v.r < -1e10:
			return aWord(least)
		}
		whole, _ := big.NewFloat(v.r).Int(nil)
		if whole.Cmp(most) > 0 {
			whole = most
		}
		if whole.Cmp(least) < 0 {
			whole = least
		}
		return aWord(whole)
	}
	return noValue
}

func modelUnary(op string, v value) value {
	switch op + string(v.is) {
	case "-w":
		return aWord(new(big.Int).Neg(v.n))
	case "!w":
		return aTruth(v.n.Sign() == 0)
	case "~w":
		return aWord(new(big.Int).Not(v.n))
	case "-r":
		return aReal(math.Float64frombits(math.Float64bits(v.r) ^ 1<<63))
	}
	return noValue
}

func modelBinary(op string, a, b value) value {
	switch {
	case a.is == 'w' && b.is == 'w':
		if do, has := wordTable()[op]; has {
			return do(a.n, b.n)
		}
	case a.is == 'r' && b.is == 'r':
		if do, has := realTable()[op]; has {
			return do(a.r, b.r)
		}
	}
	return noValue
}

// wordTable has all operators of two words.
func wordTable() map[string]func(a, b *big.Int) value {
	number := func(do func(z, a, b *big.Int) *big.Int) func(a, b *big.Int) value {
		return func(a, b *big.Int) value { return aWord(do(new(big.Int), a, b)) }
	}
	compared := func(holds func(int) bool) func(a, b *big.Int) value {
		return func(a, b *big.Int) value { return aTruth(holds(a.Cmp(b))) }
	}
	by := func(b *big.Int) uint { return uint(new(big.Int).And(b, big.NewInt(31)).Uint64()) }
	return map[string]func(a, b *big.Int) value{
		"+":  number((*big.Int).Add),
		"-":  number((*big.Int).Sub),
		"*":  number((*big.Int).Mul),
		"&":  number((*big.Int).And),
		"^":  number((*big.Int).Xor),
		"|":  number((*big.Int).Or),
		"<<": func(a, b *big.Int) value { return aWord(new(big.Int).Lsh(a, by(b))) },
		">>": func(a, b *big.Int) value { return aWord(new(big.Int).Rsh(a, by(b))) },
		"/": func(a, b *big.Int) value {
			if b.Sign() == 0 {
				return aWord(big.NewInt(-1))
			}
			return aWord(new(big.Int).Quo(a, b))
		},
		"%": func(a, b *big.Int) value {
			if b.Sign() == 0 {
				return aWord(a)
			}
			return aWord(new(big.Int).Rem(a, b))
		},
		"<":  compared(func(n int) bool { return n < 0 }),
		"<=": compared(func(n int) bool { return n <= 0 }),
		">":  compared(func(n int) bool { return n > 0 }),
		">=": compared(func(n int) bool { return n >= 0 }),
		"==": compared(func(n int) bool { return n == 0 }),
		"!=": compared(func(n int) bool { return n != 0 }),
		"&&": func(a, b *big.Int) value { return aTruth(a.Sign()*b.Sign() != 0) },
		"||": func(a, b *big.Int) value { return aTruth(a.Sign() != 0 || b.Sign() != 0) },
	}
}

// realTable has all operators of two reals.
func realTable() map[string]func(a, b float64) value {
	return map[string]func(a, b float64) value{
		"+":  func(a, b float64) value { return aReal(a + b) },
		"-":  func(a, b float64) value { return aReal(a - b) },
		"*":  func(a, b float64) value { return aReal(a * b) },
		"/":  func(a, b float64) value { return aReal(a / b) },
		"<":  func(a, b float64) value { return aTruth(a < b) },
		"<=": func(a, b float64) value { return aTruth(a <= b) },
		">":  func(a, b float64) value { return aTruth(a > b) },
		">=": func(a, b float64) value { return aTruth(a >= b) },
		"==": func(a, b float64) value { return aTruth(a == b) },
		"!=": func(a, b float64) value { return aTruth(a != b) },
	}
}

// modelData is what Data must answer.
func modelData(m api.Module) (all []api.Datum, at int, e api.Errno) {
	for _, d := range m.Decls {
		if d.Func || d.Extern {
			continue
		}
		x := api.Datum{Name: d.Name, Static: d.Static}
		inits := slices.Clone(d.Inits)
		for len(inits) < max(1, d.Len) {
			inits = append(inits, map[int]api.Expr{api.Int: {Kind: api.ENum, Type: api.Int}, api.Real: {Kind: api.EReal}, api.PInt: {Kind: api.ENum, Type: api.PInt}, api.PReal: {Kind: api.ENum, Type: api.PReal}}[d.Type])
		}
		for _, init := range inits {
			got := model(m, init)
			if got.e != api.OK {
				return nil, got.at, got.e
			}
			x = withElement(x, got.c)
		}
		for len(x.Bytes)%8 != 0 {
			x.Bytes = append(x.Bytes, 0)
		}
		all = append(all, x)
	}
	return all, 0, api.OK
}

// withElement is a Datum with one more element.
func withElement(x api.Datum, c fold.Const) api.Datum {
	if c.Name != "" {
		x.Refs = append(x.Refs, api.Ref{At: len(x.Bytes), Name: c.Name, Add: c.Off * map[int]int{api.PInt: 4, api.PReal: 8}[c.Type]})
	}
	if c.Type == api.Real {
		x.Bytes = binary.LittleEndian.AppendUint64(x.Bytes, c.Bits)
	} else {
		x.Bytes = binary.LittleEndian.AppendUint32(x.Bytes, c.Word)
	}
	return x
}

// The model itself, where a slip in it could hide another one.
func TestModel(t *testing.T) {
	for _, c := range []struct {
		got  value
		want fold.Const
	}{
		{aWord(big.NewInt(1 << 31)), wordOf(-1 << 31)}, {aWord(big.NewInt(-1<<31 - 1)), wordOf(1<<31 - 1)}, {aWord(big.NewInt(1 << 32)), wordOf(0)},
		{modelBinary("%", aWord(big.NewInt(-7)), aWord(big.NewInt(2))), wordOf(-1)}, {modelBinary("/", aWord(big.NewInt(-7)), aWord(big.NewInt(2))), wordOf(-3)},
		{modelBinary("<<", aWord(big.NewInt(3)), aWord(big.NewInt(-1))), wordOf(-1 << 31)}, {modelBinary(">>", aWord(big.NewInt(-8)), aWord(big.NewInt(33))), wordOf(-4)},
		{modelCast(api.Int, aReal(-2147483648.9)), wordOf(-1 << 31)}, {modelCast(api.Int, aReal(2147483647.9)), wordOf(1<<31 - 1)}, {modelCast(api.Int, aReal(-1.9)), wordOf(-1)},
		{modelUnary("-", aReal(0)), bitsOf(1 << 63)}, {noValue, fold.Const{}},
	} {
		if got := c.got.constant(); got != c.want {
			t.Errorf("P13.1: the model says %v, want %v", got, c.want)
		}
	}
}
