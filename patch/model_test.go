package patch_test

import (
	"slices"

	"solder/api"
)

// What is here tells the chapter in another way: by the bits of the words, without package code, and by ints that no
// word's bounds cut.

// field are so many bits of w, from one bit on.
func field(w uint32, from, bits int) int {
	return int(w) >> from & (1<<bits - 1)
}

// immBits are the bits of a word in which the Imm stands that a relocation of this kind patches.
func immBits(kind int) uint32 {
	switch kind {
	case api.RHi, api.RJal:
		return 0xfffff000
	case api.RLoI:
		return 0xfff00000
	}
	return 0xfe000f80
}

// wantKind is the kind that patches w, if one does.
func wantKind(w uint32) int {
	f3 := field(w, 12, 3)
	switch field(w, 0, 7) {
	case 0x37:
		return api.RHi
	case 0x6f:
		return api.RJal
	case 0x13:
		return kindIf(api.RLoI, f3, 0, 2, 3, 4, 6, 7)
	case 0x03:
		return kindIf(api.RLoI, f3, 0, 2, 4)
	case 0x67:
		return kindIf(api.RLoI, f3, 0)
	case 0x07:
		return kindIf(api.RLoI, f3, 3)
	case 0x23:
		return kindIf(api.RLoS, f3, 0, 2)
	case 0x27:
		return kindIf(api.RLoS, f3, 3)
	case 0x63:
		return kindIf(api.RBranch, f3, 0, 1, 4, 5, 6, 7)
	}
	return 0
}

// kindIf is that kind, if f3 is one of these.
func kindIf(kind, f3 int, all ...int) int {
	if slices.Contains(all, f3) {
		return kind
	}
	return 0
}

// wantFar is what is far: the least of what is the same but for whole turns of 2^32, from -2^31 on.
func wantFar(value, place uint32) int {
	n := int(value) - int(place)
	for n < -1<<31 {
		n += 1 << 32
	}
	for n >= 1<<31 {
		n -= 1 << 32
	}
	return n
}

// wantLo is what is left of value beside the nearest multiple of 4096, where of two that are as near the greater counts.
func wantLo(value uint32) int {
	left := int(value) % 4096
	if left >= 2048 {
		left -= 4096
	}
	return left
}

// wantHi is by how much that multiple is one, where 2^32 is 0 again.
func wantHi(value uint32) int {
	return (int(value) - wantLo(value)) / 4096 % (1 << 20)
}

func wantAnswer(c call) answer {
	if !slices.Contains(kinds(), c.kind) {
		return noKind
	}
	if c.kind == api.RWord {
		return becomes(c.value)
	}
	if wantKind(c.w) != c.kind || c.w&immBits(c.kind) != 0 {
		return noWord
	}
	far := wantFar(c.value, c.place)
	switch c.kind {
	case api.RHi:
		return becomes(c.w | uint32(wantHi(c.value))<<12)
	case api.RLoI:
		return becomes(c.w | uint32(wantLo(c.value))<<20)
	case api.RLoS:
		return becomes(c.w | bits(wantLo(c.value), [3]int{0, 5, 7}, [3]int{5, 7, 25}))
	case api.RJal:
		if far < -1<<20 || far > 1<<20-2 || far%2 != 0 {
			return tooFar
		}
		return becomes(c.w | bits(far, [3]int{12, 8, 12}, [3]int{11, 1, 20}, [3]int{1, 10, 21}, [3]int{20, 1, 31}))
	}
	if far < -4096 || far > 4094 || far%2 != 0 {
		return tooFar
	}
	return becomes(c.w | bits(far, [3]int{11, 1, 7}, [3]int{1, 4, 8}, [3]int{5, 6, 25}, [3]int{12, 1, 31}))
}

// bits are those of n, laid in pieces: from which bit of it, how many, and to which bit.
func bits(n int, pieces ...[3]int) uint32 {
	var w uint32
	for _, p := range pieces {
		w |= uint32(field(uint32(n), p[0], p[1])) << p[2]
	}
	return w
}
