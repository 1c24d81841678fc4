package patch_test

import (
	"math"
	"testing"

	"solder/api"
	"solder/code"
	"solder/patch"
)

// call is what Patch is asked with, and answer what it answers.
type call struct {
	kind            int
	w, value, place uint32
}

type answer struct {
	w uint32
	e api.Errno
}

// Beside an error there is nothing.
var (
	noKind = answer{e: api.ErrRange}
	noWord = answer{e: api.ErrForm}
	tooFar = answer{e: api.ErrFar}
)

// becomes is what is answered where nothing is wrong.
func becomes(w uint32) answer {
	return answer{w: w}
}

func ask(c call) answer {
	w, e := patch.Patch(c.kind, c.w, c.value, c.place)
	return answer{w, e}
}

// is says whether Patch answers what is wanted, and whether the model wants it too.
func is(t *testing.T, what string, c call, want answer) {
	t.Helper()
	if model := wantAnswer(c); model != want {
		t.Fatalf("%s: the test's model says otherwise than the test: %#08x, error %d, want %#08x, error %d", what, model.w, model.e, want.w, want.e)
	}
	if got := ask(c); got != want {
		t.Errorf("P8.1: %s: Patch(%d, %#08x, %#x, %#x) = %#08x, error %d, want %#08x, error %d",
			what, c.kind, c.w, c.value, c.place, got.w, got.e, want.w, want.e)
	}
}

// asModel says whether Patch answers what the model wants, and answers that.
func asModel(t *testing.T, what string, c call) answer {
	t.Helper()
	want := wantAnswer(c)
	is(t, what, c, want)
	return want
}

// encoded is the word of i, which must be an instruction.
func encoded(t *testing.T, i api.Instr) uint32 {
	t.Helper()
	w, e := code.Encode(i)
	if e != api.OK {
		t.Fatalf("Encode(%v): error %d", i, e)
	}
	return w
}

// kinds are all that are.
func kinds() []int {
	return []int{api.RHi, api.RLoI, api.RLoS, api.RJal, api.RBranch, api.RWord}
}

// noKinds are numbers of none: next to those that are, far away, and some whose lowest bits would be one.
func noKinds() []int {
	return []int{
		0, -1, -2, -6, 7, 8, 9, 15, 16, 64, 255, 256, 257, 262, 1 << 16, 1<<16 + 1, 1<<31 - 1, 1 << 31, -1 << 31,
		1 << 32, 1<<32 + 1, 1<<32 + 6, -1<<32 + 2, 1<<33 + 4, math.MaxInt, math.MinInt, math.MinInt + 3,
	}
}

// instr is an instruction without its Imm, and the Kind of relocations that patch it; 0, if none does.
type instr struct {
	i    api.Instr
	kind int
}

// instrs are instructions of all Ops, and with registers of both ends.
func instrs() []instr {
	var all []instr
	add := func(kind int, d, a, b bool, ops ...int) {
		for _, op := range ops {
			for _, regs := range [][3]int{{0, 0, 0}, {31, 31, 31}, {1, 2, 3}, {21, 10, 30}} {
				i := api.Instr{Op: op}
				for n, part := range []*int{&i.Rd, &i.Rs1, &i.Rs2} {
					if []bool{d, a, b}[n] {
						*part = regs[n]
					}
				}
				all = append(all, instr{i, kind})
			}
		}
	}
	add(0, true, true, true, api.ADD, api.SUB, api.SLL, api.SLT, api.SLTU, api.XOR, api.SRL, api.SRA, api.OR, api.AND,
		api.MUL, api.MULH, api.MULHU, api.DIV, api.DIVU, api.REM, api.REMU, api.FADD, api.FSUB, api.FMUL, api.FDIV, api.FEQ, api.FLT, api.FLE)
	add(0, true, true, false, api.SLLI, api.SRLI, api.SRAI, api.FMV, api.FNEG, api.FCVTWD, api.FCVTDW)
	add(0, true, false, false, api.AUIPC)
	add(0, false, false, false, api.ECALL)
	add(api.RHi, true, false, false, api.LUI)
	add(api.RLoI, true, true, false, api.ADDI, api.SLTI, api.SLTIU, api.XORI, api.ORI, api.ANDI, api.LB, api.LBU, api.LW, api.JALR, api.FLD)
	add(api.RLoS, false, true, true, api.SB, api.SW, api.FSD)
	add(api.RJal, true, false, false, api.JAL)
	add(api.RBranch, false, true, true, api.BEQ, api.BNE, api.BLT, api.BGE, api.BLTU, api.BGEU)
	return all
}

// values are words at which something is likely to go wrong: around the ends, each power of 2, and a few others.
func values() []uint32 {
	l := []uint32{0, 1, 2, 3, math.MaxUint32, 0x7ffff7ff, 0x7ffff800, 0xfffff7ff, 0xfffff800, 0x12345678, 0x89abcdef, 0xaaaaaaaa, 0x55555555}
	for bit := range 32 {
		n := uint32(1) << bit
		l = append(l, n-2, n-1, n, n+1, n+2, -n, -n-1, -n+1, n+n/2)
	}
	return l
}
