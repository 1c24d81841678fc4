package real

import (
	"math/big"
	"math/rand"

	"solder/api"
)

// What is here tells by the chapter's words what an operation, a comparison or a conversion must answer, by whole
// numbers without bounds, and without the language's floating-point numbers. A unit is 2^-1074, the smallest real:
// every real but NaN and the infinities is a whole number of units.

const (
	zero     = uint64(0)
	negZero  = uint64(1) << 63
	inf      = uint64(0x7ff) << 52
	negInf   = uint64(0xfff) << 52
	theNaN   = uint64(0x7ff8) << 48
	one      = uint64(0x3ff) << 52
	smallest = uint64(1)
	greatest = inf - 1
	unitBits = 1074
)

// nans are bits that mean no number: NaN's own, quiet and signalling ones, of both signs, the least and the greatest.
func nans() []uint64 {
	return []uint64{theNaN, theNaN + 1, theNaN + 7, inf + 1, inf + 0xdead, theNaN - 1, negZero - 1, negInf + 1, negZero | theNaN, negZero | theNaN + 5, 1<<64 - 1}
}

// numbers are the reals above 0 at which an operation is likely to go wrong, with some ordinary ones.
func numbers() []uint64 {
	return []uint64{
		smallest, 2, 3, 4, 7, 1<<51 + 1, 1<<52 - 2, 1<<52 - 1, 1 << 52, 1<<52 + 1, 1<<52 + 2, 1<<53 - 1, 1 << 53, 3 << 52,
		0x1ff << 52, 0x1ff<<52 + 1, 0x200<<52 - 1, 0x3c9 << 52, 0x3ca << 52, 0x3ca<<52 + 1, 0x3cb << 52,
		0x3fb999999999999a, 0x3fd5555555555555, 0x3fe << 52, one - 2, one - 1, one, one + 1, one + 2, one + 3, 0x3ff8 << 48,
		0x3fffffffffffffff, 0x400 << 52, 0x4008 << 48, 0x4024 << 48, 0x4059 << 48, 0x400921fb54442d18,
		0x41dfffffffc00000, 0x41e << 52, 0x433 << 52, 0x433<<52 + 1, 0x434<<52 - 1, 0x434 << 52, 0x434<<52 + 1,
		0x5fe << 52, 0x5fe<<52 + 1, 0x5ff << 52, 0x7c8 << 52, 0x7c9<<52 - 1, 0x7c9 << 52, 0x7c9<<52 + 1, 0x7fd<<52 + 1, 0x7fe << 52, greatest - 1, greatest,
	}
}

// edges are these with both signs, the zeros, the infinities, and bits of NaN.
func edges() []uint64 {
	all := append(nans(), zero, negZero, inf, negInf)
	for _, a := range numbers() {
		all = append(all, a, negZero|a)
	}
	return all
}

// anyBits are bits of every kind, the same ones every time; many exponents lie near one another, so that sums are not
// just the greater of both.
func anyBits(n int) []uint64 {
	r := rand.New(rand.NewSource(2))
	all := make([]uint64, n)
	for i := range all {
		all[i] = r.Uint64()
		if i%2 == 0 {
			all[i] = all[i]&^(0x7ff<<52) | uint64(0x3ff-30+r.Intn(60))<<52
		}
	}
	return all
}

func operations() []int { return []int{api.FADD, api.FSUB, api.FMUL, api.FDIV} }

func comparisons() []int { return []int{api.FEQ, api.FLT, api.FLE} }

func isNaN(a uint64) bool      { return a&^negZero > inf }
func isInfinite(a uint64) bool { return a&^negZero == inf }
func isZero(a uint64) bool     { return a&^negZero == 0 }
func sign(a uint64) uint64     { return a & negZero }

// units are how many a is; an infinity is taken for 2^1024, which is what its bits would mean if they meant a number.
func units(a uint64) *big.Int {
	n := new(big.Int).SetUint64(a & (1<<52 - 1))
	if e := uint(a >> 52 & 0x7ff); e != 0 {
		n.SetBit(n, 52, 1)
		n.Lsh(n, e-1)
	}
	if sign(a) != 0 {
		n.Neg(n)
	}
	return n
}

// nearest is the real nearest to p by q units, of two that are as near the one whose last bit is 0, with the sign s if
// it is a zero.
func nearest(p, q *big.Int, s uint64) uint64 {
	if c := p.Sign() * q.Sign(); c < 0 {
		s = negZero
	} else if c > 0 {
		s = 0
	}
	p, q = new(big.Int).Abs(p), new(big.Int).Abs(q)
	// Bits rise as what they mean: the greatest that mean no more than p by q are looked for.
	low, high := zero, inf
	for low < high {
		if middle := (low + high + 1) / 2; times(middle, q).Cmp(p) <= 0 {
			low = middle
		} else {
			high = middle - 1
		}
	}
	if low == inf {
		return s | inf
	}
	below, above := new(big.Int).Sub(p, times(low, q)), new(big.Int).Sub(times(low+1, q), p)
	if c := below.Cmp(above); c > 0 || c == 0 && low%2 == 1 {
		low++
	}
	return s | low
}

func times(a uint64, q *big.Int) *big.Int {
	n := units(a)
	return n.Mul(n, q)
}

// shift is n by 2^1074.
func shift(n *big.Int) *big.Int { return new(big.Int).Lsh(n, unitBits) }

// wantDo is the operation op of a and b.
func wantDo(op int, a, b uint64) uint64 {
	switch {
	case isNaN(a) || isNaN(b):
		return theNaN
	case op == api.FADD:
		return wantSum(a, b)
	case op == api.FSUB:
		return wantSum(a, b^negZero)
	case op == api.FMUL:
		return wantProduct(a, b)
	}
	return wantQuotient(a, b)
}

func wantSum(a, b uint64) uint64 {
	switch {
	case isInfinite(a) && isInfinite(b) && a != b:
		return theNaN
	case isInfinite(a):
		return a
	case isInfinite(b):
		return b
	}
	// A sum that is 0 is -0 just of two that are -0.
	s := zero
	if a == negZero && b == negZero {
		s = negZero
	}
	return nearest(new(big.Int).Add(units(a), units(b)), big.NewInt(1), s)
}

func wantProduct(a, b uint64) uint64 {
	s := sign(a) ^ sign(b)
	if isInfinite(a) || isInfinite(b) {
		if isZero(a) || isZero(b) {
			return theNaN
		}
		return s | inf
	}
	return nearest(new(big.Int).Mul(units(a), units(b)), shift(big.NewInt(1)), s)
}

func wantQuotient(a, b uint64) uint64 {
	s := sign(a) ^ sign(b)
	switch {
	case isInfinite(a) && isInfinite(b) || isZero(a) && isZero(b):
		return theNaN
	case isInfinite(a) || isZero(b):
		return s | inf
	case isInfinite(b):
		return s
	}
	return nearest(shift(units(a)), units(b), s)
}

// wantCompare is the comparison op of a and b.
func wantCompare(op int, a, b uint64) uint32 {
	if isNaN(a) || isNaN(b) {
		return 0
	}
	c := units(a).Cmp(units(b))
	if op == api.FEQ && c == 0 || op == api.FLT && c < 0 || op == api.FLE && c <= 0 {
		return 1
	}
	return 0
}

// wantInt is the word of a without what stands behind the point, or of the end that it is beyond.
func wantInt(a uint64) uint32 {
	const least, most = -1 << 31, 1<<31 - 1
	if isNaN(a) {
		return most
	}
	n := new(big.Int).Quo(units(a), shift(big.NewInt(1)))
	switch {
	case n.Cmp(big.NewInt(most)) > 0:
		return most
	case n.Cmp(big.NewInt(least)) < 0:
		return 1 << 31
	}
	return uint32(n.Int64())
}

// wantOfInt is the real of what w means signed.
func wantOfInt(w uint32) uint64 {
	n := int64(w)
	if w >= 1<<31 {
		n -= 1 << 32
	}
	return nearest(shift(big.NewInt(n)), big.NewInt(1), 0)
}
