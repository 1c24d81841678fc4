package machine

import (
	"solder/api"
	"solder/real"
	"solder/word"
)

// load puts what stands at the address a into a register.
func (r *run) load(i api.Instr, a uint32) {
	switch i.Op {
	case api.LB:
		// 8 is among the numbers of bits that can be extended: there is no error.
		w, _ := word.Extend(uint32(number(r.bytes(a, 1))), 8)
		r.put(i.Rd, w)
	case api.LBU:
		r.put(i.Rd, uint32(number(r.bytes(a, 1))))
	case api.LW:
		r.put(i.Rd, uint32(number(r.bytes(a, 4))))
	case api.FLD:
		// Words may have left bits of NaN there that aren't the canonical ones.
		r.reals[i.Rd] = real.Canon(number(r.bytes(a, 8)))
	}
}

// store puts what stands in a register at the address a.
func (r *run) store(i api.Instr, a uint32) {
	switch i.Op {
	case api.SB:
		lay(r.bytes(a, 1), uint64(r.words[i.Rs2]))
	case api.SW:
		lay(r.bytes(a, 4), uint64(r.words[i.Rs2]))
	case api.FSD:
		lay(r.bytes(a, 8), r.reals[i.Rs2])
	}
}

// bytes are the n bytes of the memory from the address a on, to be read or written. That they aren't there is thrown.
func (r *run) bytes(a uint32, n int) []byte {
	// As an int the end is no word, and so never wraps round to where there is memory again.
	at := int(a)
	if at%n != 0 || at+n > len(r.memory) {
		panic(failure(api.BadPlace))
	}
	return r.memory[at : at+n]
}

// number is what bytes tell, the lowest first.
func number(bytes []byte) uint64 {
	var v uint64
	for n, b := range bytes {
		v |= uint64(b) << (8 * n)
	}
	return v
}

// lay puts the lowest bytes of v, as many as there is room for, the lowest first.
func lay(room []byte, v uint64) {
	for n := range room {
		room[n] = byte(v >> (8 * n))
	}
}
