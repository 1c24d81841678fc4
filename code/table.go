package code

import "solder/api"

// The parts of an instruction beside its Op.
const (
	rdPart = iota
	rs1Part
	rs2Part
	immPart
	parts
)

// The kinds of instructions. What has no Rs2 among those of kind D has its own, by what stands there in its place.
const (
	kindR = iota
	kindI
	kindH
	kindS
	kindB
	kindU
	kindJ
	kindE
	kindD
	kindDTwice // rs2 the same as Rs1
	kindDZero  // rs2 0
)

// Where the fields of a word begin, and how many bits op and a register have.
const (
	rdAt  = 7
	f3At  = 12
	rs1At = 15
	rs2At = 20
	f7At  = 25

	opBits  = 7
	regBits = 5
)

// form is what is fixed in the words of an Op, and its kind.
type form struct {
	kind       int
	op, f3, f7 uint32
}

// piece is so many bits of a part, from one bit on, and from which bit on they stand in the word.
type piece struct {
	from, bits, to int
}

// use is how a part is used: it is a multiple of step from least to most, and stands in the word in pieces. Where step
// is 0, it isn't used; where a piece has no bits, there is none.
type use struct {
	least, most, step int
	pieces            [4]piece
}

func (u use) is() bool {
	return u.step != 0
}

func (u use) holds(n int) bool {
	return u.is() && u.least <= n && n <= u.most && n%u.step == 0
}

// signed answers what bits mean that stand for n: beyond the most they begin again at the least.
func (u use) signed(n int) int {
	if n > u.most {
		return n - (u.most + u.step - u.least)
	}
	return n
}

// register is the use of a register at one place of the word.
func register(at int) use {
	return use{0, 31, 1, [4]piece{{0, regBits, at}}}
}

// uses tells how each part is used by a kind.
func uses(kind int) [parts]use {
	rd, rs1, rs2 := register(rdAt), register(rs1At), register(rs2At)
	switch kind {
	case kindR, kindD:
		return [parts]use{rd, rs1, rs2, {}}
	case kindI:
		return [parts]use{rd, rs1, {}, {-2048, 2047, 1, [4]piece{{0, 12, rs2At}}}}
	case kindH:
		return [parts]use{rd, rs1, {}, {0, 31, 1, [4]piece{{0, 5, rs2At}}}}
	case kindS:
		return [parts]use{{}, rs1, rs2, {-2048, 2047, 1, [4]piece{{0, 5, rdAt}, {5, 7, f7At}}}}
	case kindB:
		return [parts]use{{}, rs1, rs2, {-4096, 4094, 2, [4]piece{{11, 1, 7}, {1, 4, 8}, {5, 6, 25}, {12, 1, 31}}}}
	case kindU:
		return [parts]use{rd, {}, {}, {0, 1<<20 - 1, 1, [4]piece{{0, 20, 12}}}}
	case kindJ:
		return [parts]use{rd, {}, {}, {-1 << 20, 1<<20 - 2, 2, [4]piece{{12, 8, 12}, {11, 1, 20}, {1, 10, 21}, {20, 1, 31}}}}
	case kindDTwice:
		rs1.pieces[1] = rs2.pieces[0]
		return [parts]use{rd, rs1, {}, {}}
	case kindDZero:
		return [parts]use{rd, rs1, {}, {}}
	}
	return [parts]use{}
}

// forms are the forms of all Ops.
func forms() map[int]form {
	return map[int]form{
		api.ADD: {kindR, 0x33, 0, 0}, api.SUB: {kindR, 0x33, 0, 0x20},
		api.SLL: {kindR, 0x33, 1, 0}, api.SLT: {kindR, 0x33, 2, 0}, api.SLTU: {kindR, 0x33, 3, 0},
		api.XOR: {kindR, 0x33, 4, 0}, api.SRL: {kindR, 0x33, 5, 0}, api.SRA: {kindR, 0x33, 5, 0x20},
		api.OR: {kindR, 0x33, 6, 0}, api.AND: {kindR, 0x33, 7, 0},
		api.MUL: {kindR, 0x33, 0, 1}, api.MULH: {kindR, 0x33, 1, 1}, api.MULHU: {kindR, 0x33, 3, 1},
		api.DIV: {kindR, 0x33, 4, 1}, api.DIVU: {kindR, 0x33, 5, 1},
		api.REM: {kindR, 0x33, 6, 1}, api.REMU: {kindR, 0x33, 7, 1},

		api.ADDI: {kindI, 0x13, 0, 0}, api.SLTI: {kindI, 0x13, 2, 0}, api.SLTIU: {kindI, 0x13, 3, 0},
		api.XORI: {kindI, 0x13, 4, 0}, api.ORI: {kindI, 0x13, 6, 0}, api.ANDI: {kindI, 0x13, 7, 0},
		api.SLLI: {kindH, 0x13, 1, 0}, api.SRLI: {kindH, 0x13, 5, 0}, api.SRAI: {kindH, 0x13, 5, 0x20},

		api.LB: {kindI, 0x03, 0, 0}, api.LW: {kindI, 0x03, 2, 0}, api.LBU: {kindI, 0x03, 4, 0},
		api.JALR: {kindI, 0x67, 0, 0},
		api.FLD:  {kindI, 0x07, 3, 0},
		api.SB:   {kindS, 0x23, 0, 0}, api.SW: {kindS, 0x23, 2, 0},
		api.FSD: {kindS, 0x27, 3, 0},

		api.BEQ: {kindB, 0x63, 0, 0}, api.BNE: {kindB, 0x63, 1, 0}, api.BLT: {kindB, 0x63, 4, 0},
		api.BGE: {kindB, 0x63, 5, 0}, api.BLTU: {kindB, 0x63, 6, 0}, api.BGEU: {kindB, 0x63, 7, 0},
		api.LUI: {kindU, 0x37, 0, 0}, api.AUIPC: {kindU, 0x17, 0, 0},
		api.JAL:   {kindJ, 0x6f, 0, 0},
		api.ECALL: {kindE, 0x73, 0, 0},

		api.FADD: {kindD, 0x53, 0, 0x01}, api.FSUB: {kindD, 0x53, 0, 0x05},
		api.FMUL: {kindD, 0x53, 0, 0x09}, api.FDIV: {kindD, 0x53, 0, 0x0d},
		api.FEQ: {kindD, 0x53, 2, 0x51}, api.FLT: {kindD, 0x53, 1, 0x51}, api.FLE: {kindD, 0x53, 0, 0x51},
		api.FMV: {kindDTwice, 0x53, 0, 0x11}, api.FNEG: {kindDTwice, 0x53, 1, 0x11},
		api.FCVTWD: {kindDZero, 0x53, 1, 0x61}, api.FCVTDW: {kindDZero, 0x53, 0, 0x69},
	}
}
