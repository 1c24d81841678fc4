package machine_test

import (
	"encoding/binary"
	"math"
	"testing"

	"solder/api"
)

// sizes are how many bytes a load or store has.
func sizes() map[int]uint32 {
	return map[int]uint32{api.LB: 1, api.LBU: 1, api.LW: 4, api.FLD: 8, api.SB: 1, api.SW: 4, api.FSD: 8}
}

func isStore(op int) bool {
	return op == api.SB || op == api.SW || op == api.FSD
}

// access is a load into, or a store of, register r, at base, of register 6, and imm.
func access(op, r, imm int) api.Instr {
	if isStore(op) {
		return api.Instr{Op: op, Rs1: 6, Rs2: r, Imm: imm}
	}
	return api.Instr{Op: op, Rd: r, Rs1: 6, Imm: imm}
}

// moves says whether an access to the address at does what it should.
func moves(t *testing.T, op int, at uint32, imm int) {
	t.Helper()
	for _, r := range []int{0, 5, 6, 31} {
		i := access(op, r, imm)
		s := plain(i)
		s.words[6] = at - uint32(imm)
		s.reals[0], s.reals[5], s.reals[6], s.reals[31] = negZero|5, 0x123456789abcdef0, negInf, theNaN|9
		s.does(t, tell(i), func(x *seen) {
			b := x.memory[at:]
			switch op {
			case api.LB:
				x.words[r] = uint32(int32(int8(b[0])))
			case api.LBU:
				x.words[r] = uint32(b[0])
			case api.LW:
				x.words[r] = binary.LittleEndian.Uint32(b)
			case api.FLD:
				x.reals[r] = binary.LittleEndian.Uint64(b)
				if math.IsNaN(math.Float64frombits(x.reals[r])) {
					x.reals[r] = theNaN
				}
			case api.SB:
				b[0] = byte(x.words[r])
			case api.SW:
				binary.LittleEndian.PutUint32(b, x.words[r])
			case api.FSD:
				binary.LittleEndian.PutUint64(b, x.reals[r])
			}
		})
	}
}

func TestLoadsAndStores(t *testing.T) {
	top := plain().top()
	for op, size := range sizes() {
		for _, at := range []uint32{0, size, 8, 16, 128, 136, 1016, floorAt - size, floorAt, floorAt + size, top - 16, top - 2*size, top - size} {
			for _, imm := range []int{0, 1, -1, 8, 2047, -2048} {
				moves(t, op, at, imm)
			}
		}
	}
}

// All addresses there are, in a small memory: those that are no multiple, and those across the top, among them.
func TestAllAddresses(t *testing.T) {
	for op, size := range sizes() {
		s := plain()
		top := s.top()
		for at := uint32(960); at < top+24; at++ {
			i := access(op, 5, 0)
			s.tried, s.words[6] = []api.Instr{i}, at
			if at%size == 0 && at+size <= top {
				moves(t, op, at, 0)
			} else {
				s.fails(t, tell(i), api.BadPlace)
			}
		}
	}
}

func TestAddressesThatAreNotThere(t *testing.T) {
	top := plain().top()
	for op, size := range sizes() {
		for _, c := range []struct {
			base uint32
			imm  int
		}{
			{top, 0}, {top - size, int(size)}, {top + 1, 0}, {top + 8, 0}, {top + 2048, 0}, {top + 2040, -2040}, {1 << 21, 0}, {1 << 24, 0}, {lowest, 0}, {lowest, -8},
			{0, -8}, {0, -2048}, {ones - 7, 0}, {ones, 0}, {ones - 3, 0}, {ones - size + 1, 0}, {8, -16}, {ones, -7}, {ones - 2047, 2040},
		} {
			for _, r := range []int{0, 5, 6} {
				i := access(op, r, c.imm)
				s := plain(i)
				s.words[6] = c.base
				s.fails(t, tell(i), api.BadPlace)
			}
		}
	}
}

func TestAddressesThatAreNoMultiple(t *testing.T) {
	top := plain().top()
	for op, size := range sizes() {
		for _, base := range []uint32{0, 16, 1000, floorAt, top - 16} {
			for off := range 9 {
				if uint32(off)%size == 0 {
					continue
				}
				i := access(op, 5, off)
				s := plain(i)
				s.words[6] = base
				s.fails(t, tell(i), api.BadPlace)
				i = access(op, 5, -off)
				s = plain(i)
				s.words[6] = base + 8
				s.fails(t, tell(i), api.BadPlace)
			}
		}
	}
}

// An address is a word: beyond the upper end of the words it begins again at 0.
func TestAddressesWrapRound(t *testing.T) {
	for op := range sizes() {
		for _, c := range []struct {
			base uint32
			imm  int
		}{{ones, 1}, {ones - 7, 8}, {ones - 7, 16}, {ones, 1017}, {ones - 2030, 2047}, {1, -1}, {2056, -2048}} {
			moves(t, op, c.base+uint32(c.imm), c.imm)
		}
	}
}

func TestBytesAreExtended(t *testing.T) {
	for _, c := range []struct {
		stored, lb, lbu uint32
	}{{0, 0, 0}, {0x7f, 0x7f, 0x7f}, {0x80, 0xffffff80, 0x80}, {0xff, ones, 0xff}, {0xabcdef12, 0x12, 0x12}, {0x12345681, 0xffffff81, 0x81}} {
		s := plain(access(api.SB, 5, -1), access(api.LB, 7, -1), access(api.LBU, 8, -1))
		s.words[5], s.words[6] = c.stored, floorAt+16
		m, _ := s.begin(t)
		m.Run(nil, 3)
		if m.Word(7) != c.lb || m.Word(8) != c.lbu {
			t.Errorf("P4.1: of %#x LB leaves %#x, LBU %#x", c.stored, m.Word(7), m.Word(8))
		}
	}
}

// Bits of NaN that words have put there are read as the canonical ones, and stay where they are.
func TestRealsFromMemoryAreCanonical(t *testing.T) {
	for _, c := range []struct{ bits, want uint64 }{
		{0, 0}, {negZero, negZero}, {inf, inf}, {negInf, negInf}, {1, 1}, {math.Float64bits(1.5), math.Float64bits(1.5)}, {inf - 1, inf - 1},
		{theNaN, theNaN}, {theNaN | negZero, theNaN}, {inf | 1, theNaN}, {negInf | 1, theNaN}, {^uint64(0), theNaN}, {^uint64(0) >> 1, theNaN}, {theNaN | 1<<50, theNaN}, {inf | 1<<32, theNaN},
	} {
		s := plain(access(api.SW, 5, 0), access(api.SW, 7, 4), access(api.FLD, 9, 0), access(api.FSD, 9, 8))
		s.words[6], s.words[5], s.words[7] = floorAt+16, uint32(c.bits), uint32(c.bits>>32)
		m, want := s.begin(t)
		m.Run(nil, 4)
		want.place, want.reals[9] = triedAt+16, c.want
		binary.LittleEndian.PutUint64(want.memory[floorAt+16:], c.bits)
		binary.LittleEndian.PutUint64(want.memory[floorAt+24:], c.want)
		isSeen(t, "FLD and FSD", m, want)
	}
}

// What is stored into the text is what is done from then on, even where it was done before.
func TestTextThatWritesItself(t *testing.T) {
	other := text(t, set(5, 9))
	s := plain(set(5, 1), access(api.SW, 7, 0), api.Instr{Op: api.JAL, Imm: -8})
	s.words[6], s.words[7] = triedAt, binary.LittleEndian.Uint32(other)
	m, want := s.begin(t)
	isResult(t, "a text that writes itself", m.Run(nil, 4), api.Result{Steps: 4})
	copy(want.memory[triedAt:], other)
	want.words[5], want.place = 9, triedAt+4
	isSeen(t, "a text that writes itself", m, want)
}

// What writes its next instruction anew at each step, again and again, goes on as told.
func TestTextThatWritesItselfAgainAndAgain(t *testing.T) {
	const rounds = 20000
	// Register 5 is the word of an ADDI 10, 10, and each round another Imm: a multiple of 16.
	l := []api.Instr{
		{Op: api.LW, Rd: 5, Imm: 32}, {Op: api.LUI, Rd: 6, Imm: 0x100}, {Op: api.LW, Rd: 7, Imm: 36},
		{Op: api.SW, Rs2: 5, Imm: 16}, {Op: api.ADDI, Rd: 10, Rs1: 10}, {Op: api.ADD, Rd: 5, Rs1: 5, Rs2: 6},
		{Op: api.ADDI, Rd: 7, Rs1: 7, Imm: -1}, {Op: api.BNE, Rs1: 7, Imm: -16},
	}
	b := binary.LittleEndian.AppendUint32(text(t, l...), binary.LittleEndian.Uint32(text(t, api.Instr{Op: api.ADDI, Rd: 10, Rs1: 10})))
	m := load(t, api.Image{Bytes: binary.LittleEndian.AppendUint32(b, rounds)}, 0)
	isResult(t, "the rounds", m.Run(nil, 3+5*rounds), api.Result{Steps: 3 + 5*rounds})
	sum := 0
	for n := range rounds {
		// The upper 12 bits of the word, signed.
		sum += int(int32(uint32(n)<<20) >> 20)
	}
	if m.Word(10) != uint32(sum) || m.Place() != 32 {
		t.Errorf("P4.1: %#x at %d, want %#x at 32", m.Word(10), m.Place(), uint32(sum))
	}
}
