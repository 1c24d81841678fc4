package word

import (
	"math"
	"math/big"
	"testing"

	"solder/api"
)

const (
	lowest = uint32(1) << 31   // means -2^31
	ones   = uint32(1<<32 - 1) // means -1
)

// edges are words at which an operation is likely to go wrong, with some ordinary ones.
func edges() []uint32 {
	return []uint32{
		0, 1, 2, 3, 4, 5, 7, 10, 15, 16, 30, 31, 32, 33, 63, 64, 100, 1000,
		0x7ff, 0x800, 0xfff, 0x7fff, 0x8000, 0xb505, 0xffff, 0x10000, 0x10001,
		0x12345678, 0x3fffffff, 0x40000000, 0x55555555,
		lowest - 2, lowest - 1, lowest, lowest + 1, lowest + 2,
		0xaaaaaaaa, 0xc0000000, 0xdeadbeef, 0xffff0000, 0xffff8000,
		ones - 999, ones - 32, ones - 31, ones - 30, ones - 9, ones - 6, ones - 4, ones - 2, ones - 1, ones,
	}
}

func operations() []int {
	return []int{
		api.ADD, api.SUB, api.MUL, api.MULH, api.MULHU, api.SLL, api.SRL, api.SRA, api.SLT, api.SLTU,
		api.XOR, api.OR, api.AND, api.DIV, api.DIVU, api.REM, api.REMU,
	}
}

// do asks for an operation that must be one.
func do(t *testing.T, op int, a, b uint32) uint32 {
	t.Helper()
	w, e := Do(op, a, b)
	if e != api.OK {
		t.Fatalf("Do(%d, %#x, %#x): error %d", op, a, b, e)
	}
	return w
}

// signed and unsigned are what a word means, as numbers without bounds, told by the chapter's words.
func unsigned(a uint32) *big.Int {
	return new(big.Int).SetUint64(uint64(a))
}

func signed(a uint32) *big.Int {
	n := unsigned(a)
	if a >= lowest {
		n.Sub(n, new(big.Int).Lsh(big.NewInt(1), 32))
	}
	return n
}

// lower is a number's lowest 32 bits.
func lower(n *big.Int) uint32 {
	return uint32(new(big.Int).Mod(n, new(big.Int).Lsh(big.NewInt(1), 32)).Uint64())
}

// upper is the number's 32 bits above these.
func upper(n *big.Int) uint32 {
	return lower(new(big.Int).Rsh(n, 32))
}

func truth(holds bool) uint32 {
	if holds {
		return 1
	}
	return 0
}

// quotient and rest are towards zero; by 0 all bits 1, and the first.
func quotient(a, b *big.Int) uint32 {
	if b.Sign() == 0 {
		return ones
	}
	return lower(new(big.Int).Quo(a, b))
}

func rest(a, b *big.Int) uint32 {
	if b.Sign() == 0 {
		return lower(a)
	}
	return lower(new(big.Int).Rem(a, b))
}

// want is the operation by numbers without bounds.
func want(op int, a, b uint32) uint32 {
	u, v, x, y := unsigned(a), unsigned(b), signed(a), signed(b)
	by := uint(b % 32)
	n := new(big.Int)
	switch op {
	case api.ADD:
		return lower(n.Add(u, v))
	case api.SUB:
		return lower(n.Sub(u, v))
	case api.MUL:
		return lower(n.Mul(u, v))
	case api.MULH:
		return upper(n.Mul(x, y))
	case api.MULHU:
		return upper(n.Mul(u, v))
	case api.SLL:
		return lower(n.Lsh(u, by))
	case api.SRL:
		return lower(n.Rsh(u, by))
	case api.SRA:
		return lower(n.Rsh(x, by))
	case api.SLT:
		return truth(x.Cmp(y) < 0)
	case api.SLTU:
		return truth(u.Cmp(v) < 0)
	case api.XOR:
		return lower(n.Xor(u, v))
	case api.OR:
		return lower(n.Or(u, v))
	case api.AND:
		return lower(n.And(u, v))
	case api.DIV:
		return quotient(x, y)
	case api.DIVU:
		return quotient(u, v)
	case api.REM:
		return rest(x, y)
	}
	return rest(u, v)
}

func TestDoOrdinary(t *testing.T) {
	for _, c := range []struct {
		name       string
		op         int
		a, b, want uint32
	}{
		{"ADD", api.ADD, 7, 5, 12},
		{"ADD wraps round", api.ADD, ones, 2, 1},
		{"SUB", api.SUB, 7, 5, 2},
		{"SUB wraps round", api.SUB, 5, 7, ones - 1},
		{"MUL", api.MUL, 7, 5, 35},
		{"MUL takes the lower bits", api.MUL, 0x10001, 0x10001, 0x20001},
		{"MULH", api.MULH, 0x40000000, 8, 2},
		{"MULH of -1 and 1", api.MULH, ones, 1, ones},
		{"MULH of two lowest", api.MULH, lowest, lowest, 0x40000000},
		{"MULHU", api.MULHU, lowest, 4, 2},
		{"MULHU of two greatest", api.MULHU, ones, ones, ones - 1},
		{"SLL", api.SLL, 3, 4, 48},
		{"SRL", api.SRL, lowest, 4, 0x08000000},
		{"SRA, the chapter's example", api.SRA, 0x80000000, 4, 0xf8000000},
		{"SRA of a word above 0", api.SRA, 0x70000000, 4, 0x07000000},
		{"SLT of -1 and 0", api.SLT, ones, 0, 1},
		{"SLT of 0 and -1", api.SLT, 0, ones, 0},
		{"SLT of the same", api.SLT, 5, 5, 0},
		{"SLTU of the greatest and 0", api.SLTU, ones, 0, 0},
		{"SLTU of 0 and the greatest", api.SLTU, 0, ones, 1},
		{"SLTU of the same", api.SLTU, 5, 5, 0},
		{"XOR", api.XOR, 0xc, 0xa, 0x6},
		{"OR", api.OR, 0xc, 0xa, 0xe},
		{"AND", api.AND, 0xc, 0xa, 0x8},
		{"DIVU", api.DIVU, ones, 10, 429496729},
		{"REMU", api.REMU, ones, 10, 5},
	} {
		if w := do(t, c.op, c.a, c.b); w != c.want {
			t.Errorf("P1.1: %s: Do(%d, %#x, %#x) = %#x, want %#x", c.name, c.op, c.a, c.b, w, c.want)
		}
	}
}

func TestDoDivisionEdges(t *testing.T) {
	const less7, less3, less2, less1 = ones - 6, ones - 2, ones - 1, ones
	for _, c := range []struct {
		op         int
		a, b, want uint32
	}{
		// Both signs: towards zero, what is left with the sign of the first.
		{api.DIV, 7, 2, 3}, {api.REM, 7, 2, 1},
		{api.DIV, less7, 2, less3}, {api.REM, less7, 2, less1},
		{api.DIV, 7, less2, less3}, {api.REM, 7, less2, 1},
		{api.DIV, less7, less2, 3}, {api.REM, less7, less2, less1},
		{api.DIV, lowest, 1, lowest}, {api.REM, lowest, 1, 0},
		// Unsigned, the same words are great numbers.
		{api.DIVU, less7, 2, 0x7ffffffc}, {api.REMU, less7, 2, 1},
		{api.DIVU, 7, less2, 0}, {api.REMU, 7, less2, 7},
		// By 0.
		{api.DIV, 7, 0, ones}, {api.REM, 7, 0, 7},
		{api.DIV, less7, 0, ones}, {api.REM, less7, 0, less7},
		{api.DIV, 0, 0, ones}, {api.REM, 0, 0, 0},
		{api.DIV, lowest, 0, ones}, {api.REM, lowest, 0, lowest},
		{api.DIVU, 7, 0, ones}, {api.REMU, 7, 0, 7},
		{api.DIVU, 0, 0, ones}, {api.REMU, 0, 0, 0},
		{api.DIVU, ones, 0, ones}, {api.REMU, ones, 0, ones},
		// -2^31 by -1; unsigned that is an ordinary division.
		{api.DIV, lowest, ones, lowest}, {api.REM, lowest, ones, 0},
		{api.DIVU, lowest, ones, 0}, {api.REMU, lowest, ones, lowest},
	} {
		if w := do(t, c.op, c.a, c.b); w != c.want {
			t.Errorf("P1.1: Do(%d, %#x, %#x) = %#x, want %#x", c.op, c.a, c.b, w, c.want)
		}
	}
}

func TestDoMovesByLowestFiveBits(t *testing.T) {
	for _, c := range []struct {
		op         int
		a, b, want uint32
	}{
		{api.SLL, 1, 31, lowest}, {api.SRL, lowest, 31, 1}, {api.SRA, lowest, 31, ones},
		{api.SLL, 5, 32, 5}, {api.SRL, lowest, 32, lowest}, {api.SRA, lowest, 32, lowest},
		{api.SLL, 5, 33, 10}, {api.SRL, lowest, 33, 0x40000000}, {api.SRA, lowest, 33, 0xc0000000},
		{api.SLL, 1, 63, lowest}, {api.SRL, lowest, 63, 1}, {api.SRA, lowest, 63, ones},
		{api.SLL, 1, ones, lowest}, {api.SRL, lowest, ones, 1}, {api.SRA, lowest, ones, ones},
		{api.SLL, 5, 0xffffffe0, 5}, {api.SRL, 5, 0xffffffe0, 5}, {api.SRA, lowest, 0xffffffe0, lowest},
	} {
		if w := do(t, c.op, c.a, c.b); w != c.want {
			t.Errorf("P1.1: Do(%d, %#x, %#x) = %#x, want %#x", c.op, c.a, c.b, w, c.want)
		}
	}
}

func TestDoByNumbersWithoutBounds(t *testing.T) {
	for _, op := range operations() {
		for _, a := range edges() {
			for _, b := range edges() {
				if w, x := do(t, op, a, b), want(op, a, b); w != x {
					t.Errorf("P1.1: Do(%d, %#x, %#x) = %#x, want %#x", op, a, b, w, x)
				}
			}
		}
	}
}

func TestDoRefusesWhatIsNoOperation(t *testing.T) {
	is := map[int]bool{}
	for _, op := range operations() {
		is[op] = true
	}
	ops := []int{math.MinInt, math.MaxInt, -1 << 32, 1 << 32, 1<<32 + api.ADD, 1<<8 + api.ADD, -api.ADD}
	// Beyond ECALL and the like: every number near those of the operations, ADDI and the reals' among them.
	for op := -300; op <= 300; op++ {
		ops = append(ops, op)
	}
	for _, op := range ops {
		if is[op] {
			continue
		}
		for _, b := range []uint32{0, 2, ones} {
			if w, e := Do(op, 6, b); w != 0 || e != api.ErrRange {
				t.Errorf("P1.1: Do(%d, 6, %#x) = %#x, %d, want 0, ErrRange", op, b, w, e)
			}
		}
	}
}

func TestSigned(t *testing.T) {
	for _, c := range []struct {
		a    uint32
		want int
	}{
		{0, 0}, {1, 1}, {7, 7}, {lowest - 1, 1<<31 - 1}, {lowest, -1 << 31}, {lowest + 1, -1<<31 + 1}, {ones - 6, -7}, {ones, -1},
	} {
		if n := Signed(c.a); n != c.want {
			t.Errorf("P1.1: Signed(%#x) = %d, want %d", c.a, n, c.want)
		}
	}
}

func TestOf(t *testing.T) {
	for _, c := range []struct {
		n    int
		want uint32
	}{
		{0, 0}, {7, 7}, {-1, ones}, {-7, ones - 6}, {1<<31 - 1, lowest - 1}, {1 << 31, lowest}, {-1 << 31, lowest},
		{-1<<31 - 1, lowest - 1}, {1<<32 - 1, ones}, {1 << 32, 0}, {1<<32 + 5, 5}, {-1 << 32, 0}, {-1<<32 - 1, ones},
		{0x123456789abcdef0, 0x9abcdef0}, {math.MaxInt, ones}, {math.MinInt, 0},
	} {
		if w := Of(c.n); w != c.want {
			t.Errorf("P1.1: Of(%d) = %#x, want %#x", c.n, w, c.want)
		}
	}
	for _, a := range edges() {
		if w := Of(Signed(a)); w != a {
			t.Errorf("P1.1: Of(Signed(%#x)) = %#x", a, w)
		}
	}
}

func TestExtend(t *testing.T) {
	for _, c := range []struct {
		a    uint32
		bits int
		want uint32
	}{
		{0, 1, 0}, {1, 1, ones}, {2, 1, 0}, {3, 1, ones},
		{0x7f, 8, 0x7f}, {0x80, 8, 0xffffff80}, {0x17f, 8, 0x7f},
		{0x7ff, 12, 0x7ff}, {0x800, 12, 0xfffff800}, {0xfff, 12, ones}, {0x17ff, 12, 0x7ff},
		{0x3fffffff, 31, 0x3fffffff}, {0x40000000, 31, 0xc0000000}, {lowest, 31, 0},
		{5, 32, 5}, {lowest, 32, lowest}, {lowest - 1, 32, lowest - 1}, {ones, 32, ones},
	} {
		if w, e := Extend(c.a, c.bits); w != c.want || e != api.OK {
			t.Errorf("P1.1: Extend(%#x, %d) = %#x, %d, want %#x", c.a, c.bits, w, e, c.want)
		}
	}
}

func TestExtendBitByBit(t *testing.T) {
	for _, a := range edges() {
		for bits := 1; bits <= 32; bits++ {
			w, e := Extend(a, bits)
			if e != api.OK {
				t.Fatalf("P1.1: Extend(%#x, %d): error %d", a, bits, e)
			}
			for i := range 32 {
				from := min(i, bits-1)
				if w>>i&1 != a>>from&1 {
					t.Errorf("P1.1: Extend(%#x, %d) = %#x: bit %d isn't bit %d", a, bits, w, i, from)
				}
			}
		}
	}
}

func TestExtendRefusesBitsOutOfRange(t *testing.T) {
	for _, bits := range []int{0, -1, -32, 33, 64, 1 << 32, 1<<32 + 8, math.MinInt, math.MaxInt} {
		for _, a := range []uint32{0, 1, lowest, ones} {
			if w, e := Extend(a, bits); w != 0 || e != api.ErrRange {
				t.Errorf("P1.1: Extend(%#x, %d) = %#x, %d, want 0, ErrRange", a, bits, w, e)
			}
		}
	}
}

func TestQuotientAndRestMakeTheFirst(t *testing.T) {
	for _, a := range edges() {
		for _, b := range edges() {
			q, r := do(t, api.DIV, a, b), do(t, api.REM, a, b)
			if w := do(t, api.ADD, do(t, api.MUL, q, b), r); w != a {
				t.Errorf("P1.2: DIV and REM of %#x, %#x: %#x, %#x make %#x", a, b, q, r, w)
			}
			q, r = do(t, api.DIVU, a, b), do(t, api.REMU, a, b)
			if w := do(t, api.ADD, do(t, api.MUL, q, b), r); w != a {
				t.Errorf("P1.2: DIVU and REMU of %#x, %#x: %#x, %#x make %#x", a, b, q, r, w)
			}
		}
	}
}

// Without this, quotients of 0 and the first as rest would make the whole as well.
func TestRestIsNearerZeroThanTheSecond(t *testing.T) {
	for _, a := range edges() {
		for _, b := range edges() {
			if b == 0 {
				continue
			}
			r := signed(do(t, api.REM, a, b))
			if r.CmpAbs(signed(b)) >= 0 || r.Sign()*signed(a).Sign() < 0 {
				t.Errorf("P1.2: REM of %#x, %#x: %d", a, b, r)
			}
			if r := do(t, api.REMU, a, b); r >= b {
				t.Errorf("P1.2: REMU of %#x, %#x: %#x", a, b, r)
			}
		}
	}
}

func TestHalvesMakeTheWholeProduct(t *testing.T) {
	for _, a := range edges() {
		for _, b := range edges() {
			l := uint64(do(t, api.MUL, a, b))
			s := int64(uint64(do(t, api.MULH, a, b))<<32 | l)
			if n := new(big.Int).Mul(signed(a), signed(b)); n.Cmp(big.NewInt(s)) != 0 {
				t.Errorf("P1.2: MULH and MUL of %#x, %#x make %d, want %d", a, b, s, n)
			}
			u := uint64(do(t, api.MULHU, a, b))<<32 | l
			if n := new(big.Int).Mul(unsigned(a), unsigned(b)); n.Cmp(new(big.Int).SetUint64(u)) != 0 {
				t.Errorf("P1.2: MULHU and MUL of %#x, %#x make %d, want %d", a, b, u, n)
			}
		}
	}
}
