package machine_test

import (
	"math"
	"strconv"
	"testing"

	"solder/api"
)

// tell is what stands ahead of a message on a step.
func tell(i api.Instr) string {
	return "Op " + strconv.Itoa(i.Op) + " " + strconv.Itoa(i.Rd) + ", " + strconv.Itoa(i.Rs1) + ", " + strconv.Itoa(i.Rs2) + ", " + strconv.Itoa(i.Imm)
}

// leaves says whether i, with a in Rs1 and b in Rs2, leaves want in Rd, whichever registers these are.
func leaves(t *testing.T, op int, a, b, want uint32) {
	t.Helper()
	for _, r := range [][3]int{{5, 6, 7}, {6, 6, 7}, {7, 6, 7}, {0, 6, 7}, {31, 1, 30}, {2, 27, 17}, {27, 10, 2}} {
		leavesIn(t, api.Instr{Op: op, Rd: r[0], Rs1: r[1], Rs2: r[2]}, a, b, want)
	}
	if a == b {
		leavesIn(t, api.Instr{Op: op, Rd: 5, Rs1: 6, Rs2: 6}, a, b, want)
		leavesIn(t, api.Instr{Op: op, Rd: 6, Rs1: 6, Rs2: 6}, a, b, want)
	}
	if a == 0 {
		leavesIn(t, api.Instr{Op: op, Rd: 5, Rs1: 0, Rs2: 6}, a, b, want)
	}
	if b == 0 {
		leavesIn(t, api.Instr{Op: op, Rd: 6, Rs1: 6, Rs2: 0}, a, b, want)
	}
}

// leavesImm is the same of an Imm.
func leavesImm(t *testing.T, op int, a uint32, imm int, want uint32) {
	t.Helper()
	for _, r := range [][2]int{{5, 6}, {6, 6}, {0, 6}, {31, 1}, {2, 27}, {27, 2}} {
		leavesIn(t, api.Instr{Op: op, Rd: r[0], Rs1: r[1], Imm: imm}, a, 0, want)
	}
	if a == 0 {
		leavesIn(t, api.Instr{Op: op, Rd: 5, Imm: imm}, 0, 0, want)
	}
}

func leavesIn(t *testing.T, i api.Instr, a, b, want uint32) {
	t.Helper()
	s := plain(i)
	s.words[i.Rs2] = b
	s.words[i.Rs1] = a
	s.does(t, tell(i), func(x *seen) { x.words[i.Rd] = want })
}

func TestOperations(t *testing.T) {
	for _, c := range []struct {
		op         int
		a, b, want uint32
	}{
		{api.ADD, 3, 4, 7}, {api.ADD, ones, 1, 0}, {api.ADD, lowest, lowest, 0}, {api.ADD, lowest - 1, 1, lowest},
		{api.SUB, 3, 4, ones}, {api.SUB, 0, lowest, lowest}, {api.SUB, lowest, 1, lowest - 1}, {api.SUB, 9, 9, 0},
		{api.SLL, 1, 31, lowest}, {api.SLL, 3, 32, 3}, {api.SLL, 3, ones, lowest}, {api.SLL, ones, 4, 0xfffffff0},
		{api.SLT, lowest, lowest - 1, 1}, {api.SLT, lowest - 1, lowest, 0}, {api.SLT, 5, 5, 0}, {api.SLT, ones, 0, 1},
		{api.SLTU, lowest, lowest - 1, 0}, {api.SLTU, lowest - 1, lowest, 1}, {api.SLTU, 5, 5, 0}, {api.SLTU, 0, ones, 1},
		{api.XOR, 0xff00ff00, 0x0ff00ff0, 0xf0f0f0f0}, {api.XOR, 7, 7, 0},
		{api.SRL, lowest, 31, 1}, {api.SRL, ones, 33, lowest - 1}, {api.SRL, 0x80000010, 4, 0x08000001},
		{api.SRA, lowest, 31, ones}, {api.SRA, lowest - 1, 30, 1}, {api.SRA, 0x80000010, 36, 0xf8000001},
		{api.OR, 0xff00ff00, 0x0ff00ff0, 0xfff0fff0}, {api.OR, 0, 0, 0},
		{api.AND, 0xff00ff00, 0x0ff00ff0, 0x0f000f00}, {api.AND, ones, 0, 0},
		{api.MUL, 0x10000, 0x10000, 0}, {api.MUL, ones, ones, 1}, {api.MUL, 12345, 6789, 83810205},
		{api.MULH, lowest, lowest, 1 << 30}, {api.MULH, ones, 1, ones}, {api.MULH, 1 << 30, 4, 1}, {api.MULH, ones, ones, 0},
		{api.MULHU, ones, ones, ones - 1}, {api.MULHU, lowest, 2, 1}, {api.MULHU, ones, 1, 0},
		{api.DIV, ones - 6, 2, ones - 2}, {api.DIV, 7, 0, ones}, {api.DIV, lowest, ones, lowest}, {api.DIV, 7, ones - 1, ones - 2},
		{api.DIVU, ones - 6, 2, 0x7ffffffc}, {api.DIVU, 7, 0, ones}, {api.DIVU, lowest, ones, 0},
		{api.REM, ones - 6, 2, ones}, {api.REM, 7, 0, 7}, {api.REM, lowest, ones, 0}, {api.REM, 7, ones - 1, 1},
		{api.REMU, ones, 10, 5}, {api.REMU, 7, 0, 7}, {api.REMU, lowest, ones, lowest},
	} {
		leaves(t, c.op, c.a, c.b, c.want)
	}
}

func TestOperationsWithAnImm(t *testing.T) {
	for _, c := range []struct {
		op   int
		a    uint32
		imm  int
		want uint32
	}{
		{api.ADDI, 5, 7, 12}, {api.ADDI, 5, -7, ones - 1}, {api.ADDI, ones, 1, 0}, {api.ADDI, 0, -2048, 0xfffff800}, {api.ADDI, 0, 2047, 0x7ff}, {api.ADDI, lowest, -1, lowest - 1}, {api.ADDI, 4, 0, 4},
		{api.SLTI, 0, -1, 0}, {api.SLTI, ones - 1, -1, 1}, {api.SLTI, ones, -1, 0}, {api.SLTI, lowest, -2048, 1}, {api.SLTI, 2046, 2047, 1}, {api.SLTI, 2047, 2047, 0}, {api.SLTI, lowest - 1, 2047, 0}, {api.SLTI, lowest, 0, 1},
		{api.SLTIU, 0, -1, 1}, {api.SLTIU, ones - 1, -1, 1}, {api.SLTIU, ones, -1, 0}, {api.SLTIU, 0xfffff7ff, -2048, 1}, {api.SLTIU, 0xfffff800, -2048, 0}, {api.SLTIU, 0, 1, 1}, {api.SLTIU, 1, 1, 0}, {api.SLTIU, lowest, 2047, 0}, {api.SLTIU, 0, 0, 0},
		{api.XORI, 0xff00ff00, -1, 0x00ff00ff}, {api.XORI, 0xff, 0x7f0, 0x70f}, {api.XORI, 0, -2048, 0xfffff800},
		{api.ORI, 0xff00ff00, 0xff, 0xff00ffff}, {api.ORI, 1, -2048, 0xfffff801}, {api.ORI, 9, 0, 9},
		{api.ANDI, 0xff00ff00, -1, 0xff00ff00}, {api.ANDI, ones, 2047, 2047}, {api.ANDI, ones, -2048, 0xfffff800}, {api.ANDI, ones, 0, 0},
		{api.SLLI, 1, 31, lowest}, {api.SLLI, 0x80000001, 1, 2}, {api.SLLI, 9, 0, 9},
		{api.SRLI, lowest, 31, 1}, {api.SRLI, 0x80000010, 4, 0x08000001}, {api.SRLI, ones, 0, ones},
		{api.SRAI, lowest, 31, ones}, {api.SRAI, 0x80000010, 4, 0xf8000001}, {api.SRAI, 0x70000010, 4, 0x07000001}, {api.SRAI, ones - 1, 0, ones - 1},
	} {
		leavesImm(t, c.op, c.a, c.imm, c.want)
	}
}

func TestUpperBits(t *testing.T) {
	for _, imm := range []int{0, 1, 2, 0x12345, 0x7ffff, 0x80000, 0xfedcb, 0xfffff} {
		for _, rd := range []int{0, 1, 2, 27, 31} {
			lui, auipc := api.Instr{Op: api.LUI, Rd: rd, Imm: imm}, api.Instr{Op: api.AUIPC, Rd: rd, Imm: imm}
			plain(lui).does(t, tell(lui), func(x *seen) { x.words[rd] = uint32(imm) * 4096 })
			plain(auipc).does(t, tell(auipc), func(x *seen) { x.words[rd] = uint32(imm)*4096 + triedAt })
		}
	}
}

// leavesReal says whether op leaves want in real Rd, whichever registers are taken, real 0 among them.
func leavesReal(t *testing.T, op int, a, b, want uint64) {
	t.Helper()
	for _, r := range [][3]int{{5, 6, 7}, {6, 6, 7}, {7, 6, 7}, {0, 6, 7}, {0, 0, 7}, {4, 6, 0}, {31, 1, 30}} {
		leavesRealIn(t, api.Instr{Op: op, Rd: r[0], Rs1: r[1], Rs2: r[2]}, a, b, want)
	}
	if a == b {
		leavesRealIn(t, api.Instr{Op: op, Rd: 5, Rs1: 6, Rs2: 6}, a, b, want)
		leavesRealIn(t, api.Instr{Op: op, Rd: 6, Rs1: 6, Rs2: 6}, a, b, want)
	}
}

func leavesRealIn(t *testing.T, i api.Instr, a, b, want uint64) {
	t.Helper()
	s := plain(i)
	s.reals[i.Rs2] = b
	s.reals[i.Rs1] = a
	s.does(t, tell(i), func(x *seen) { x.reals[i.Rd] = want })
}

func TestRealOperations(t *testing.T) {
	b := math.Float64bits
	for _, c := range []struct {
		op         int
		a, b, want uint64
	}{
		{api.FADD, b(1.5), b(2.25), b(3.75)}, {api.FADD, inf, negInf, theNaN}, {api.FADD, negZero, negZero, negZero}, {api.FADD, negZero, 0, 0}, {api.FADD, b(math.MaxFloat64), b(math.MaxFloat64), inf},
		{api.FSUB, b(1.5), b(2.25), b(-0.75)}, {api.FSUB, inf, inf, theNaN}, {api.FSUB, b(1), b(1), 0}, {api.FSUB, negZero, 0, negZero},
		{api.FMUL, b(-1.5), b(2.25), b(-3.375)}, {api.FMUL, 0, inf, theNaN}, {api.FMUL, negZero, b(2), negZero}, {api.FMUL, theNaN | 7, b(2), theNaN},
		{api.FDIV, b(1), b(-4), b(-0.25)}, {api.FDIV, 0, 0, theNaN}, {api.FDIV, b(1), negZero, negInf}, {api.FDIV, b(1), 0, inf}, {api.FDIV, b(3), b(1), b(3)},
	} {
		leavesReal(t, c.op, c.a, c.b, c.want)
	}
}

// oneReal says whether an instruction of the real Rs1 alone leaves want in real Rd.
func oneReal(t *testing.T, op int, a, want uint64) {
	t.Helper()
	for _, r := range [][2]int{{5, 6}, {6, 6}, {0, 6}, {0, 0}, {31, 0}, {1, 31}} {
		leavesRealIn(t, api.Instr{Op: op, Rd: r[0], Rs1: r[1]}, a, a, want)
	}
}

func TestMovesOfReals(t *testing.T) {
	for _, a := range []uint64{0, negZero, inf, negInf, 1, 1<<63 | 1, math.Float64bits(1.5), math.Float64bits(-1.5), math.Float64bits(math.MaxFloat64)} {
		oneReal(t, api.FMV, a, a)
		oneReal(t, api.FNEG, a, a^negZero)
	}
	for _, a := range []uint64{theNaN, theNaN | 1, theNaN | negZero, inf | 1, ^uint64(0)} {
		oneReal(t, api.FMV, a, theNaN)
		oneReal(t, api.FNEG, a, theNaN)
	}
}

func TestComparisons(t *testing.T) {
	b := math.Float64bits
	for _, c := range []struct {
		a, b       uint64
		eq, lt, le uint32
	}{
		{b(1), b(2), 0, 1, 1}, {b(2), b(1), 0, 0, 0}, {b(1), b(1), 1, 0, 1}, {b(-2), b(-1), 0, 1, 1},
		{0, negZero, 1, 0, 1}, {negZero, 0, 1, 0, 1}, {negInf, inf, 0, 1, 1}, {inf, inf, 1, 0, 1}, {inf, negInf, 0, 0, 0},
		{theNaN, theNaN, 0, 0, 0}, {theNaN, b(1), 0, 0, 0}, {b(1), theNaN | 3, 0, 0, 0}, {negInf, theNaN, 0, 0, 0},
	} {
		for op, want := range map[int]uint32{api.FEQ: c.eq, api.FLT: c.lt, api.FLE: c.le} {
			// Rd is a word: the real of its number stays.
			for _, r := range [][3]int{{5, 6, 7}, {6, 6, 7}, {7, 6, 7}, {0, 6, 7}, {6, 0, 7}, {31, 1, 0}, {2, 31, 30}} {
				i := api.Instr{Op: op, Rd: r[0], Rs1: r[1], Rs2: r[2]}
				s := plain(i)
				s.reals[i.Rs1], s.reals[i.Rs2] = c.a, c.b
				s.does(t, tell(i), func(x *seen) { x.words[i.Rd] = want })
			}
		}
	}
}

func TestConversions(t *testing.T) {
	b := math.Float64bits
	for _, c := range []struct {
		a    uint64
		want uint32
	}{
		{b(1.9), 1}, {b(-1.9), ones}, {0, 0}, {negZero, 0}, {b(0.5), 0}, {b(2147483647.9), lowest - 1}, {b(2147483648), lowest - 1},
		{b(-2147483648.9), lowest}, {b(-2147483649), lowest}, {inf, lowest - 1}, {negInf, lowest}, {theNaN | 5, lowest - 1}, {b(1e300), lowest - 1},
	} {
		for _, r := range [][2]int{{5, 6}, {6, 6}, {0, 6}, {1, 0}, {31, 31}} {
			i := api.Instr{Op: api.FCVTWD, Rd: r[0], Rs1: r[1]}
			s := plain(i)
			s.reals[i.Rs1] = c.a
			s.does(t, tell(i), func(x *seen) { x.words[i.Rd] = c.want })
		}
	}
	for _, c := range []struct {
		a    uint32
		want uint64
	}{{0, 0}, {7, b(7)}, {ones, b(-1)}, {lowest, b(-2147483648)}, {lowest - 1, b(2147483647)}} {
		for _, r := range [][2]int{{5, 6}, {6, 6}, {0, 6}, {31, 31}} {
			i := api.Instr{Op: api.FCVTDW, Rd: r[0], Rs1: r[1]}
			s := plain(i)
			s.words[i.Rs1] = c.a
			s.does(t, tell(i), func(x *seen) { x.reals[i.Rd] = c.want })
		}
	}
	i := api.Instr{Op: api.FCVTDW, Rd: 3}
	plain(i).does(t, "FCVTDW of register 0", func(x *seen) { x.reals[3] = 0 })
}

// taken tells whether a branch is, by numbers that don't wrap round.
func taken(op int, a, b uint32) bool {
	x, y := int64(a), int64(b)
	if op == api.BLT || op == api.BGE {
		x, y = int64(int32(a)), int64(int32(b))
	}
	switch op {
	case api.BEQ:
		return x == y
	case api.BNE:
		return x != y
	case api.BLT, api.BLTU:
		return x < y
	}
	return x >= y
}

func TestBranches(t *testing.T) {
	words := []uint32{0, 1, 2, lowest - 1, lowest, lowest + 1, ones - 1, ones}
	for op := api.BEQ; op <= api.BGEU; op++ {
		for _, a := range words {
			for _, b := range words {
				for _, imm := range []int{-4096, 4094, -8, 2, 0} {
					i := api.Instr{Op: op, Rs1: 6, Rs2: 7, Imm: imm}
					s := plain(i)
					s.words[6], s.words[7] = a, b
					s.does(t, tell(i), func(x *seen) {
						if taken(op, a, b) {
							x.place = uint32(triedAt + imm)
						}
					})
				}
			}
		}
	}
}

func TestBranchesOnOneRegister(t *testing.T) {
	for op := api.BEQ; op <= api.BGEU; op++ {
		for _, r := range []int{0, 6, 31} {
			i := api.Instr{Op: op, Rs1: r, Rs2: r, Imm: 12}
			plain(i).does(t, tell(i), func(x *seen) {
				if op == api.BEQ || op == api.BGE || op == api.BGEU {
					x.place = triedAt + 12
				}
			})
		}
	}
}

func TestJumps(t *testing.T) {
	for _, imm := range []int{0, 2, 4, 8, -2, -4, -triedAt, -triedAt - 4, 2048, 1<<20 - 2, -1 << 20} {
		for _, rd := range []int{0, 1, 2, 31} {
			i := api.Instr{Op: api.JAL, Rd: rd, Imm: imm}
			plain(i).does(t, tell(i), func(x *seen) {
				x.words[rd] = triedAt + 4
				x.place = uint32(triedAt + imm)
			})
		}
	}
	for _, c := range []struct {
		a    uint32
		imm  int
		want uint32
	}{
		{0, 0, 0}, {triedAt, 0, triedAt}, {triedAt, 1, triedAt}, {triedAt, 3, triedAt + 2}, {triedAt + 1, 0, triedAt}, {triedAt + 1, -1, triedAt}, {triedAt + 3, 1, triedAt + 4},
		{8, -8, 0}, {8, -12, ones - 3}, {8, -9, ones - 1}, {ones, 1, 0}, {ones, 0, ones - 1}, {ones, 5, 4}, {lowest, -2048, lowest - 2048}, {lowest, 2047, lowest + 2046}, {0, -1, ones - 1},
	} {
		for _, r := range [][2]int{{5, 6}, {6, 6}, {0, 6}, {2, 27}, {1, 31}} {
			i := api.Instr{Op: api.JALR, Rd: r[0], Rs1: r[1], Imm: c.imm}
			s := plain(i)
			s.words[i.Rs1] = c.a
			s.does(t, tell(i), func(x *seen) {
				x.words[i.Rd] = triedAt + 4
				x.place = c.want
			})
		}
	}
	i := api.Instr{Op: api.JALR, Rd: 1, Imm: 9}
	plain(i).does(t, "JALR of register 0", func(x *seen) { x.words[1], x.place = triedAt+4, 8 })
}

// A place below 0 is one above the top, at the upper end of the words.
func TestPlacesWrapRound(t *testing.T) {
	for _, c := range []struct {
		name string
		i    api.Instr
		want uint32
	}{
		{"BEQ", api.Instr{Op: api.BEQ, Imm: -4}, ones - 3}, {"BEQ, far", api.Instr{Op: api.BEQ, Imm: -4096}, ones - 4095},
		{"JAL", api.Instr{Op: api.JAL, Rd: 1, Imm: -8}, ones - 7}, {"JAL, far", api.Instr{Op: api.JAL, Rd: 1, Imm: -1 << 20}, ones - 1<<20 + 1},
		{"JALR", api.Instr{Op: api.JALR, Rd: 1, Rs1: 1, Imm: -4}, ones - 3},
	} {
		m := loaded(t, 0, c.i)
		isResult(t, c.name, m.Run(nil, 5), api.Result{State: api.BadPlace, Steps: 1})
		if m.Place() != c.want {
			t.Errorf("P4.1: %s: the place is %#x, want %#x", c.name, m.Place(), c.want)
		}
	}
	m := loaded(t, 0, set(1, 0), api.Instr{Op: api.AUIPC, Rd: 3, Imm: 0xfffff})
	if m.Run(nil, 2); m.Word(3) != 0xfffff004 {
		t.Errorf("P4.1: AUIPC: %#x", m.Word(3))
	}
}

func TestRegister0StaysWhateverIsPutThere(t *testing.T) {
	l := []api.Instr{
		set(0, 5), {Op: api.LUI, Imm: 1}, {Op: api.AUIPC, Imm: 1}, {Op: api.JAL, Imm: 4}, {Op: api.LW, Imm: 0}, {Op: api.LBU, Imm: 0}, {Op: api.LB, Imm: 0},
		{Op: api.ADD, Rs1: 2, Rs2: 2}, {Op: api.DIV}, {Op: api.FEQ, Rs1: 1, Rs2: 1}, {Op: api.FCVTWD, Rs1: 8}, {Op: api.ORI, Imm: -1}, {Op: api.JALR, Imm: 52},
	}
	s := plain(l...)
	s.reals[8] = math.Float64bits(9)
	m, _ := s.begin(t)
	for range len(l) - 1 {
		r := m.Run(nil, 1)
		if r.Steps != 1 || m.Word(0) != 0 {
			t.Errorf("P4.1: %v, and register 0 is %#x", r, m.Word(0))
		}
	}
}
