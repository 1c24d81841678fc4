package real

import (
	"math"
	"testing"

	"solder/api"
)

// do asks for an operation that must be one.
func do(t *testing.T, op int, a, b uint64) uint64 {
	t.Helper()
	x, e := Do(op, a, b)
	if e != api.OK {
		t.Fatalf("Do(%d, %#x, %#x): error %d", op, a, b, e)
	}
	return x
}

// compare asks for a comparison that must be one.
func compare(t *testing.T, op int, a, b uint64) uint32 {
	t.Helper()
	w, e := Compare(op, a, b)
	if e != api.OK {
		t.Fatalf("Compare(%d, %#x, %#x): error %d", op, a, b, e)
	}
	return w
}

func TestCanon(t *testing.T) {
	for _, a := range append(edges(), anyBits(1000)...) {
		want := a
		if isNaN(a) {
			want = theNaN
		}
		if x := Canon(a); x != want {
			t.Errorf("P2.1: Canon(%#x) = %#x, want %#x", a, x, want)
		}
	}
}

func TestDoOrdinary(t *testing.T) {
	b := math.Float64bits
	for _, c := range []struct {
		name       string
		op         int
		a, b, want uint64
	}{
		{"FADD", api.FADD, b(1.5), b(2.25), b(3.75)},
		{"FADD of both signs", api.FADD, b(1.5), b(-2.25), b(-0.75)},
		{"FADD that is rounded", api.FADD, 0x3fb999999999999a, 0x3fc999999999999a, 0x3fd3333333333334},
		{"FSUB", api.FSUB, b(1.5), b(2.25), b(-0.75)},
		{"FMUL", api.FMUL, b(-1.5), b(2.25), b(-3.375)},
		{"FDIV", api.FDIV, b(1), b(-4), b(-0.25)},
		{"FDIV that is rounded", api.FDIV, one, b(3), 0x3fd5555555555555},
		{"FDIV, the chapter's example", api.FDIV, 0, 0, 0x7ff8000000000000},
	} {
		if x := do(t, c.op, c.a, c.b); x != c.want {
			t.Errorf("P2.1: %s: Do(%d, %#x, %#x) = %#x, want %#x", c.name, c.op, c.a, c.b, x, c.want)
		}
	}
}

func TestDoAsNearTwoReals(t *testing.T) {
	for _, c := range []struct {
		name       string
		op         int
		a, b, want uint64
	}{
		{"1 and half a last bit", api.FADD, one, 0x3ca << 52, one},
		{"the next and half a last bit", api.FADD, one + 1, 0x3ca << 52, one + 2},
		{"1 and a little more than half", api.FADD, one, 0x3ca<<52 + 1, one + 1},
		{"-1 and half a last bit", api.FSUB, negZero | one, 0x3ca << 52, negZero | one},
		{"the next below it and half", api.FSUB, negZero | one + 1, 0x3ca << 52, negZero | one + 2},
		{"a product down", api.FMUL, one + 2, one | 1<<50, one + 1<<50 + 2},
		{"a product up", api.FMUL, one + 1, 0x3ff8 << 48, 0x3ff8<<48 + 2},
		{"half the smallest", api.FMUL, smallest, 0x3fe << 52, 0},
		{"half of -smallest", api.FMUL, negZero | smallest, 0x3fe << 52, negZero},
		{"half of three smallest", api.FMUL, 3, 0x3fe << 52, 2},
		{"the smallest by two", api.FDIV, smallest, 0x400 << 52, 0},
		{"-smallest by two", api.FDIV, smallest, 0xc00 << 52, negZero},
		{"three smallest by two", api.FDIV, 3, 0x400 << 52, 2},
		{"the greatest and half a last bit", api.FADD, greatest, 0x7c9 << 52, inf},
		{"the greatest and a little less", api.FADD, greatest, 0x7c9<<52 - 1, greatest},
		{"-greatest less half a last bit", api.FSUB, negZero | greatest, 0x7c9 << 52, negInf},
		{"-greatest less a little less", api.FSUB, negZero | greatest, 0x7c9<<52 - 1, negZero | greatest},
	} {
		if x := do(t, c.op, c.a, c.b); x != c.want {
			t.Errorf("P2.1: %s: Do(%d, %#x, %#x) = %#x, want %#x", c.name, c.op, c.a, c.b, x, c.want)
		}
		if x := wantDo(c.op, c.a, c.b); x != c.want {
			t.Errorf("%s: the oracle says %#x, want %#x", c.name, x, c.want)
		}
	}
}

func TestDoByWholeNumbers(t *testing.T) {
	for _, op := range operations() {
		for _, a := range edges() {
			for _, b := range edges() {
				if x, want := do(t, op, a, b), wantDo(op, a, b); x != want {
					t.Errorf("P2.1: Do(%d, %#x, %#x) = %#x, want %#x", op, a, b, x, want)
				}
			}
		}
		all := anyBits(600)
		for i, a := range all[1:] {
			if x, want := do(t, op, a, all[i]), wantDo(op, a, all[i]); x != want {
				t.Errorf("P2.1: Do(%d, %#x, %#x) = %#x, want %#x", op, a, all[i], x, want)
			}
		}
	}
}

func TestCompareOrdinary(t *testing.T) {
	b := math.Float64bits
	for _, c := range []struct {
		a, b       uint64
		eq, lt, le uint32
	}{
		{b(1), b(1), 1, 0, 1}, {b(1), b(2), 0, 1, 1}, {b(2), b(1), 0, 0, 0},
		{b(-1), b(1), 0, 1, 1}, {b(1), b(-1), 0, 0, 0}, {b(-1), b(-2), 0, 0, 0}, {b(-2), b(-1), 0, 1, 1},
		{one, one + 1, 0, 1, 1}, {one + 1, one, 0, 0, 0},
		{zero, negZero, 1, 0, 1}, {negZero, zero, 1, 0, 1}, {zero, zero, 1, 0, 1}, {negZero, negZero, 1, 0, 1},
		{negZero, smallest, 0, 1, 1}, {negZero | smallest, zero, 0, 1, 1}, {zero, negZero | smallest, 0, 0, 0},
		{inf, inf, 1, 0, 1}, {negInf, negInf, 1, 0, 1}, {negInf, inf, 0, 1, 1}, {inf, negInf, 0, 0, 0},
		{greatest, inf, 0, 1, 1}, {inf, greatest, 0, 0, 0}, {negInf, negZero | greatest, 0, 1, 1},
	} {
		eq, lt, le := compare(t, api.FEQ, c.a, c.b), compare(t, api.FLT, c.a, c.b), compare(t, api.FLE, c.a, c.b)
		if eq != c.eq || lt != c.lt || le != c.le {
			t.Errorf("P2.1: %#x and %#x: FEQ, FLT, FLE %d, %d, %d, want %d, %d, %d", c.a, c.b, eq, lt, le, c.eq, c.lt, c.le)
		}
	}
}

func TestCompareByWholeNumbers(t *testing.T) {
	for _, op := range comparisons() {
		for _, a := range edges() {
			for _, b := range edges() {
				if w, want := compare(t, op, a, b), wantCompare(op, a, b); w != want {
					t.Errorf("P2.1: Compare(%d, %#x, %#x) = %d, want %d", op, a, b, w, want)
				}
			}
		}
		all := anyBits(1000)
		for i, a := range all[1:] {
			if w, want := compare(t, op, a, all[i]), wantCompare(op, a, all[i]); w != want {
				t.Errorf("P2.1: Compare(%d, %#x, %#x) = %d, want %d", op, a, all[i], w, want)
			}
		}
	}
}

// noOperations are numbers that neither Do nor Compare knows, and those that only one of them does.
func noOperations(but []int) []int {
	ops := []int{math.MinInt, math.MaxInt, -1 << 32, 1 << 32, 1<<32 + api.FADD, 1<<32 + api.FEQ, 1<<8 + api.FADD, 1<<8 + api.FEQ}
	for op := -300; op <= 300; op++ {
		ops = append(ops, op)
	}
	is := map[int]bool{}
	for _, op := range but {
		is[op] = true
	}
	var none []int
	for _, op := range ops {
		if !is[op] {
			none = append(none, op)
		}
	}
	return none
}

func TestDoRefusesWhatIsNoOperation(t *testing.T) {
	for _, op := range noOperations(operations()) {
		for _, b := range []uint64{zero, one, inf, theNaN} {
			if x, e := Do(op, one, b); x != 0 || e != api.ErrRange {
				t.Errorf("P2.1: Do(%d, 1, %#x) = %#x, %d, want 0, ErrRange", op, b, x, e)
			}
		}
	}
}

func TestCompareRefusesWhatIsNoComparison(t *testing.T) {
	for _, op := range noOperations(comparisons()) {
		for _, b := range []uint64{zero, one, inf, theNaN} {
			if w, e := Compare(op, one, b); w != 0 || e != api.ErrRange {
				t.Errorf("P2.1: Compare(%d, 1, %#x) = %d, %d, want 0, ErrRange", op, b, w, e)
			}
		}
	}
}

func TestNeg(t *testing.T) {
	for _, a := range append(edges(), anyBits(1000)...) {
		want := a ^ negZero
		if isNaN(a) {
			want = theNaN
		}
		if x := Neg(a); x != want {
			t.Errorf("P2.1: Neg(%#x) = %#x, want %#x", a, x, want)
		}
	}
}

func TestOfInt(t *testing.T) {
	b := math.Float64bits
	for _, c := range []struct {
		a    uint32
		want uint64
	}{
		{0, 0}, {1, one}, {7, b(7)}, {1<<31 - 1, b(2147483647)}, {1 << 31, b(-2147483648)},
		{1<<31 + 1, b(-2147483647)}, {1<<32 - 3, b(-3)}, {1<<32 - 1, b(-1)},
	} {
		if x := OfInt(c.a); x != c.want {
			t.Errorf("P2.1: OfInt(%#x) = %#x, want %#x", c.a, x, c.want)
		}
	}
}

func TestToInt(t *testing.T) {
	const least, most = uint32(1) << 31, uint32(1)<<31 - 1
	b := math.Float64bits
	for _, c := range []struct {
		a    uint64
		want uint32
	}{
		{zero, 0}, {negZero, 0}, {smallest, 0}, {negZero | smallest, 0}, {b(0.5), 0}, {one - 1, 0}, {negZero | (one - 1), 0},
		{one, 1}, {b(1.5), 1}, {b(1.9), 1}, {b(2.5), 2}, {b(1234567.891), 1234567},
		{b(-1), 1<<32 - 1}, {b(-1.5), 1<<32 - 1}, {b(-1.9), 1<<32 - 1}, {b(-2.5), 1<<32 - 2},
		// Both ends.
		{b(2147483646), most - 1}, {b(2147483646.9), most - 1}, {b(2147483647), most}, {b(2147483647.5), most}, {b(2147483647.9), most},
		{0x41e<<52 - 1, most}, {0x41e << 52, most}, {0x41e<<52 + 1, most}, {b(4294967295), most}, {b(4294967296), most}, {b(4294967303), most},
		{b(-2147483646.9), least + 2}, {b(-2147483647), least + 1}, {b(-2147483647.9), least + 1}, {0xc1e<<52 - 1, least + 1},
		{b(-2147483648), least}, {0xc1e<<52 + 1, least}, {b(-2147483648.9), least}, {b(-2147483649), least}, {b(-4294967296), least},
		// Far beyond, where the language promises no certain int.
		{0x43e << 52, most}, {0xc3e << 52, least}, {b(1e19), most}, {b(-1e19), least}, {greatest, most}, {negZero | greatest, least},
		{inf, most}, {negInf, least},
	} {
		if w := ToInt(c.a); w != c.want {
			t.Errorf("P2.1: ToInt(%#x) = %#x, want %#x", c.a, w, c.want)
		}
	}
	for _, a := range nans() {
		if w := ToInt(a); w != most {
			t.Errorf("P2.1: ToInt(%#x) = %#x, want %#x", a, w, most)
		}
	}
}

func TestToIntByWholeNumbers(t *testing.T) {
	for _, a := range append(edges(), anyBits(2000)...) {
		if w, want := ToInt(a), wantInt(a); w != want {
			t.Errorf("P2.1: ToInt(%#x) = %#x, want %#x", a, w, want)
		}
	}
}

func TestNoAnswerHasOtherBitsOfNaN(t *testing.T) {
	all := edges()
	for _, a := range all {
		answers := []uint64{Canon(a), Neg(a)}
		for _, b := range all {
			for _, op := range operations() {
				answers = append(answers, do(t, op, a, b))
			}
		}
		for _, x := range answers {
			if isNaN(x) && x != theNaN {
				t.Errorf("P2.1: of %#x comes %#x", a, x)
			}
		}
	}
}

func TestNaNIsNoNumbersEqual(t *testing.T) {
	for _, n := range nans() {
		for _, a := range edges() {
			for _, op := range comparisons() {
				if compare(t, op, n, a) != 0 || compare(t, op, a, n) != 0 {
					t.Errorf("P2.2: comparison %d of NaN (%#x) and %#x holds", op, n, a)
				}
			}
			for _, op := range operations() {
				if do(t, op, n, a) != theNaN || do(t, op, a, n) != theNaN {
					t.Errorf("P2.2: operation %d of NaN (%#x) and %#x isn't NaN", op, n, a)
				}
			}
		}
		if compare(t, api.FEQ, n, n) != 0 {
			t.Errorf("P2.2: NaN (%#x) is its own equal", n)
		}
	}
}

func TestZeros(t *testing.T) {
	if compare(t, api.FEQ, negZero, zero) != 1 || compare(t, api.FLT, negZero, zero) != 0 {
		t.Error("P2.2: -0 isn't 0's equal")
	}
	for _, c := range []struct {
		op         int
		a, b, want uint64
	}{
		{api.FDIV, one, zero, inf}, {api.FDIV, one, negZero, negInf},
		{api.FDIV, negZero | one, zero, negInf}, {api.FDIV, negZero | one, negZero, inf},
		{api.FADD, zero, negZero, zero}, {api.FADD, negZero, zero, zero}, {api.FADD, negZero, negZero, negZero},
		{api.FSUB, zero, zero, zero}, {api.FSUB, zero, negZero, zero}, {api.FSUB, negZero, zero, negZero},
		{api.FSUB, negZero, negZero, zero}, {api.FSUB, one, one, zero}, {api.FADD, negZero | one, one, zero},
		{api.FMUL, zero, negZero | one, negZero}, {api.FMUL, negZero, negZero | one, zero}, {api.FMUL, negZero, zero, negZero},
		{api.FDIV, negZero, one, negZero}, {api.FDIV, zero, negZero | one, negZero}, {api.FDIV, one, negInf, negZero},
	} {
		if x := do(t, c.op, c.a, c.b); x != c.want {
			t.Errorf("P2.2: Do(%d, %#x, %#x) = %#x, want %#x", c.op, c.a, c.b, x, c.want)
		}
	}
	if x := Neg(zero); x != negZero {
		t.Errorf("P2.2: Neg(0) = %#x", x)
	}
	if x := Neg(negZero); x != zero {
		t.Errorf("P2.2: Neg(-0) = %#x", x)
	}
}

func TestWhatIsNaN(t *testing.T) {
	for _, x := range []uint64{inf, negInf} {
		for _, z := range []uint64{zero, negZero} {
			if do(t, api.FMUL, z, x) != theNaN || do(t, api.FMUL, x, z) != theNaN {
				t.Errorf("P2.2: %#x times %#x isn't NaN", z, x)
			}
			for _, y := range []uint64{zero, negZero} {
				if do(t, api.FDIV, z, y) != theNaN {
					t.Errorf("P2.2: %#x by %#x isn't NaN", z, y)
				}
			}
		}
		if do(t, api.FSUB, x, x) != theNaN || do(t, api.FADD, x, Neg(x)) != theNaN {
			t.Errorf("P2.2: %#x less itself isn't NaN", x)
		}
		if do(t, api.FDIV, x, x) != theNaN || do(t, api.FDIV, x, Neg(x)) != theNaN {
			t.Errorf("P2.2: %#x by itself isn't NaN", x)
		}
		if do(t, api.FADD, x, x) != x || do(t, api.FSUB, x, Neg(x)) != x {
			t.Errorf("P2.2: %#x twice isn't itself", x)
		}
	}
}

// wordsAsked are words at both ends, at every power of 2, and between.
func wordsAsked() []uint32 {
	all := []uint32{0, 5, 7, 10, 1000, 0x12345678, 0xdeadbeef}
	for i := range 32 {
		all = append(all, 1<<i-1, 1<<i, 1<<i+1, -(1 << i), -(1<<i)-1)
	}
	for _, a := range anyBits(2000) {
		all = append(all, uint32(a>>32), uint32(a))
	}
	return all
}

func TestEachWordIsItsRealsWord(t *testing.T) {
	for _, w := range wordsAsked() {
		x := OfInt(w)
		if want := wantOfInt(w); x != want {
			t.Errorf("P2.1: OfInt(%#x) = %#x, want %#x", w, x, want)
		}
		if v := ToInt(x); v != w {
			t.Errorf("P2.3: ToInt(OfInt(%#x)) = %#x", w, v)
		}
	}
}
