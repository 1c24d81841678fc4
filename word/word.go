// Package word is layer 1: numbers of 32 bits: see shared/doc/01-word.md.
package word

import "solder/api"

const (
	size  = 32          // bits of a word
	moves = size - 1    // the lowest five bits: no move is by more
	full  = 1<<size - 1 // all bits 1
)

// Do answers the operation op of a and b.
func Do(op int, a, b uint32) (uint32, api.Errno) {
	switch op {
	case api.ADD:
		return a + b, api.OK
	case api.SUB:
		return a - b, api.OK
	case api.MUL:
		return a * b, api.OK
	case api.MULH:
		return upperSigned(a, b), api.OK
	case api.MULHU:
		return upperUnsigned(a, b), api.OK
	case api.SLL:
		return a << (b & moves), api.OK
	case api.SRL:
		return a >> (b & moves), api.OK
	case api.SRA:
		return uint32(int32(a) >> (b & moves)), api.OK
	case api.SLT:
		return oneIf(int32(a) < int32(b)), api.OK
	case api.SLTU:
		return oneIf(a < b), api.OK
	case api.XOR:
		return a ^ b, api.OK
	case api.OR:
		return a | b, api.OK
	case api.AND:
		return a & b, api.OK
	case api.DIV:
		return divideSigned(a, b), api.OK
	case api.DIVU:
		return divideUnsigned(a, b), api.OK
	case api.REM:
		return restSigned(a, b), api.OK
	case api.REMU:
		return restUnsigned(a, b), api.OK
	}
	return 0, api.ErrRange
}

// Signed answers what a means signed.
func Signed(a uint32) int {
	return int(int32(a))
}

// Of answers the word of n, by its lowest 32 bits.
func Of(n int) uint32 {
	return uint32(n)
}

// Extend answers the lowest bits of a, the others copies of the highest of these.
func Extend(a uint32, bits int) (uint32, api.Errno) {
	if bits < 1 || bits > size {
		return 0, api.ErrRange
	}
	// Moved to the upper end first, so that the move back makes the copies.
	away := size - bits
	return uint32(int32(a<<away) >> away), api.OK
}

func oneIf(holds bool) uint32 {
	if holds {
		return 1
	}
	return 0
}

func upperSigned(a, b uint32) uint32 {
	return uint32(int64(int32(a)) * int64(int32(b)) >> size)
}

func upperUnsigned(a, b uint32) uint32 {
	return uint32(uint64(a) * uint64(b) >> size)
}

func divideSigned(a, b uint32) uint32 {
	if b == 0 {
		return full
	}
	// -2^31 by -1 needs no case: the language wraps it round to -2^31.
	return uint32(int32(a) / int32(b))
}

func divideUnsigned(a, b uint32) uint32 {
	if b == 0 {
		return full
	}
	return a / b
}

func restSigned(a, b uint32) uint32 {
	if b == 0 {
		return a
	}
	// -2^31 by -1 needs no case: the language leaves 0.
	return uint32(int32(a) % int32(b))
}

func restUnsigned(a, b uint32) uint32 {
	if b == 0 {
		return a
	}
	return a % b
}
