package machine

import (
	"solder/api"
	"solder/real"
	"solder/word"
)

// upper is how far the Imm of LUI and AUIPC is moved: they have the upper bits of a word.
const upper = 12

// act does what i does, and answers where the step behind it stands.
func (r *run) act(i api.Instr) uint32 {
	a, b, imm := r.words[i.Rs1], r.words[i.Rs2], word.Of(i.Imm)
	behind := r.place + 4
	switch i.Op {
	case api.LB, api.LBU, api.LW, api.FLD:
		r.load(i, a+imm)
	case api.SB, api.SW, api.FSD:
		r.store(i, a+imm)
	case api.BEQ, api.BNE, api.BLT, api.BGE, api.BLTU, api.BGEU:
		if branches(i.Op, a, b) {
			return r.place + imm
		}
	case api.LUI:
		r.put(i.Rd, imm<<upper)
	case api.AUIPC:
		r.put(i.Rd, imm<<upper+r.place)
	case api.JAL:
		r.put(i.Rd, behind)
		return r.place + imm
	case api.JALR:
		// a was taken ahead of this: Rd may be Rs1.
		r.put(i.Rd, behind)
		return (a + imm) &^ 1
	case api.ECALL:
		r.call()
	case api.FADD, api.FSUB, api.FMUL, api.FDIV, api.FMV, api.FNEG, api.FEQ, api.FLT, api.FLE, api.FCVTWD, api.FCVTDW:
		r.reckonReal(i)
	case api.ADDI, api.SLTI, api.SLTIU, api.XORI, api.ORI, api.ANDI, api.SLLI, api.SRLI, api.SRAI:
		r.put(i.Rd, reckoned(withoutImm(i.Op), a, imm))
	default:
		r.put(i.Rd, reckoned(i.Op, a, b))
	}
	return behind
}

// put is the one way into a word: register 0 stays 0.
func (r *run) put(register int, w uint32) {
	if register != 0 {
		r.words[register] = w
	}
}

// reckoned is the operation op, which is one, of a and b.
func reckoned(op int, a, b uint32) uint32 {
	w, _ := word.Do(op, a, b)
	return w
}

// withoutImm is the operation that op does with an Imm.
func withoutImm(op int) int {
	switch op {
	case api.ADDI:
		return api.ADD
	case api.SLTI:
		return api.SLT
	case api.SLTIU:
		return api.SLTU
	case api.XORI:
		return api.XOR
	case api.ORI:
		return api.OR
	case api.ANDI:
		return api.AND
	case api.SLLI:
		return api.SLL
	case api.SRLI:
		return api.SRL
	}
	return api.SRA
}

// branches tells whether the branch op of a and b is taken.
func branches(op int, a, b uint32) bool {
	switch op {
	case api.BEQ:
		return a == b
	case api.BNE:
		return a != b
	case api.BLT:
		return word.Signed(a) < word.Signed(b)
	case api.BGE:
		return word.Signed(a) >= word.Signed(b)
	case api.BLTU:
		return a < b
	}
	return a >= b
}

// reckonReal does an instruction of reals that leaves the memory alone.
func (r *run) reckonReal(i api.Instr) {
	x, y := r.reals[i.Rs1], r.reals[i.Rs2]
	switch i.Op {
	case api.FMV:
		r.reals[i.Rd] = x
	case api.FNEG:
		r.reals[i.Rd] = real.Neg(x)
	case api.FCVTWD:
		r.put(i.Rd, real.ToInt(x))
	case api.FCVTDW:
		r.reals[i.Rd] = real.OfInt(r.words[i.Rs1])
	case api.FEQ, api.FLT, api.FLE:
		w, _ := real.Compare(i.Op, x, y)
		r.put(i.Rd, w)
	default:
		r.reals[i.Rd], _ = real.Do(i.Op, x, y)
	}
}
