package code

import (
	"strconv"
	"strings"

	"solder/api"
)

// What is here tells by the chapter's tables what a word and an instruction must answer, bit by bit.

// chapterOps are the rows of the chapter's second table: the kind, op, and each Op with f3 and f7. "D2" are those of
// kind D whose rs2 is the same as Rs1, "D0" those whose rs2 is 0.
const chapterOps = `
R 33: ADD 0, SUB 0 20, SLL 1, SLT 2, SLTU 3, XOR 4, SRL 5, SRA 5 20, OR 6, AND 7, MUL 0 1, MULH 1 1, MULHU 3 1, DIV 4 1, DIVU 5 1, REM 6 1, REMU 7 1
I 13: ADDI 0, SLTI 2, SLTIU 3, XORI 4, ORI 6, ANDI 7
H 13: SLLI 1, SRLI 5, SRAI 5 20
I 03: LB 0, LW 2, LBU 4
I 67: JALR 0
I 07: FLD 3
S 23: SB 0, SW 2
S 27: FSD 3
B 63: BEQ 0, BNE 1, BLT 4, BGE 5, BLTU 6, BGEU 7
U 37: LUI
U 17: AUIPC
J 6F: JAL
E 73: ECALL 0
D 53: FADD 0 1, FSUB 0 5, FMUL 0 9, FDIV 0 D, FEQ 2 51, FLT 1 51, FLE 0 51
D2 53: FMV 0 11, FNEG 1 11
D0 53: FCVTWD 1 61, FCVTDW 0 69
`

// bitsOf tells whose bits a kind's words are made of, the highest first: a name, and the first and the last of its
// bits. Of "none" all bits are 0.
func bitsOf(kind string) string {
	switch kind {
	case "R", "D":
		return "f7 6 0, rs2 4 0, rs1 4 0, f3 2 0, rd 4 0, op 6 0"
	case "I":
		return "imm 11 0, rs1 4 0, f3 2 0, rd 4 0, op 6 0"
	case "H":
		return "f7 6 0, imm 4 0, rs1 4 0, f3 2 0, rd 4 0, op 6 0"
	case "S":
		return "imm 11 5, rs2 4 0, rs1 4 0, f3 2 0, imm 4 0, op 6 0"
	case "B":
		return "imm 12 12, imm 10 5, rs2 4 0, rs1 4 0, f3 2 0, imm 4 1, imm 11 11, op 6 0"
	case "U":
		return "imm 19 0, rd 4 0, op 6 0"
	case "J":
		return "imm 20 20, imm 10 1, imm 11 11, imm 19 12, rd 4 0, op 6 0"
	case "E":
		return "none 16 0, f3 2 0, none 4 0, op 6 0"
	case "D2":
		return "f7 6 0, rs1 4 0, rs1 4 0, f3 2 0, rd 4 0, op 6 0"
	}
	return "f7 6 0, none 4 0, rs1 4 0, f3 2 0, rd 4 0, op 6 0" // D0
}

// immsOf tells from where to where, and in which steps, a kind's Imm goes; a step of 0: it has none.
func immsOf(kind string) (least, most, step int) {
	switch kind {
	case "I", "S":
		return -2048, 2047, 1
	case "H":
		return 0, 31, 1
	case "B":
		return -4096, 4094, 2
	case "U":
		return 0, 1<<20 - 1, 1
	case "J":
		return -1 << 20, 1<<20 - 2, 2
	}
	return 0, 0, 0
}

// bit is where one bit of a word comes from.
type bit struct {
	name string
	n    int
}

// row is what the tables say of an Op.
type row struct {
	name              string
	op                int
	fixed             map[string]int
	bits              [32]bit // the lowest first
	least, most, step int
}

func (r row) uses(name string) bool {
	for _, b := range r.bits {
		if b.name == name {
			return true
		}
	}
	return false
}

func (r row) fits(imm int) bool {
	return r.step != 0 && r.least <= imm && imm <= r.most && imm%r.step == 0
}

func opNumbers() map[string]int {
	return map[string]int{
		"ADD": api.ADD, "SUB": api.SUB, "SLL": api.SLL, "SLT": api.SLT, "SLTU": api.SLTU, "XOR": api.XOR, "SRL": api.SRL, "SRA": api.SRA,
		"OR": api.OR, "AND": api.AND, "MUL": api.MUL, "MULH": api.MULH, "MULHU": api.MULHU, "DIV": api.DIV, "DIVU": api.DIVU, "REM": api.REM, "REMU": api.REMU,
		"ADDI": api.ADDI, "SLTI": api.SLTI, "SLTIU": api.SLTIU, "XORI": api.XORI, "ORI": api.ORI, "ANDI": api.ANDI,
		"SLLI": api.SLLI, "SRLI": api.SRLI, "SRAI": api.SRAI, "LB": api.LB, "LBU": api.LBU, "LW": api.LW, "SB": api.SB, "SW": api.SW,
		"BEQ": api.BEQ, "BNE": api.BNE, "BLT": api.BLT, "BGE": api.BGE, "BLTU": api.BLTU, "BGEU": api.BGEU,
		"LUI": api.LUI, "AUIPC": api.AUIPC, "JAL": api.JAL, "JALR": api.JALR, "ECALL": api.ECALL, "FLD": api.FLD, "FSD": api.FSD,
		"FADD": api.FADD, "FSUB": api.FSUB, "FMUL": api.FMUL, "FDIV": api.FDIV, "FMV": api.FMV, "FNEG": api.FNEG,
		"FEQ": api.FEQ, "FLT": api.FLT, "FLE": api.FLE, "FCVTWD": api.FCVTWD, "FCVTDW": api.FCVTDW,
	}
}

// rows are the tables' rows, read anew.
func rows() []row {
	var all []row
	for line := range strings.Lines(strings.TrimSpace(chapterOps)) {
		head, ops, _ := strings.Cut(strings.TrimSpace(line), ": ")
		kind, op, _ := strings.Cut(head, " ")
		for _, one := range strings.Split(ops, ", ") {
			words := append(strings.Fields(one), "0", "0")
			r := row{name: words[0], op: opNumbers()[words[0]], bits: bitsByPlace(kind)}
			r.fixed = map[string]int{"op": number(op, 16), "f3": number(words[1], 16), "f7": number(words[2], 16), "none": 0}
			r.least, r.most, r.step = immsOf(kind)
			all = append(all, r)
		}
	}
	return all
}

func bitsByPlace(kind string) [32]bit {
	var bits [32]bit
	at := 32
	for _, run := range strings.Split(bitsOf(kind), ", ") {
		words := strings.Fields(run)
		for n := number(words[1], 10); n >= number(words[2], 10); n-- {
			at--
			bits[at] = bit{words[0], n}
		}
	}
	if at != 0 {
		panic(kind)
	}
	return bits
}

func number(s string, base int) int {
	n, err := strconv.ParseInt(s, base, 64)
	if err != nil {
		panic(err)
	}
	return int(n)
}

// wantWord is the word of i, an instruction of r.
func wantWord(r row, i api.Instr) uint32 {
	values := map[string]int{"rd": i.Rd, "rs1": i.Rs1, "rs2": i.Rs2, "imm": i.Imm}
	var w uint32
	for at, b := range r.bits {
		v, is := r.fixed[b.name]
		if !is {
			v = values[b.name]
		}
		w |= uint32(v>>b.n&1) << at
	}
	return w
}

// wantInstr is the instruction of w; without one, the zero value.
func wantInstr(all []row, w uint32) api.Instr {
	for _, r := range all {
		if i, is := taken(r, w); is {
			return i
		}
	}
	return api.Instr{}
}

// taken is the instruction of r whose word w is, if it is one.
func taken(r row, w uint32) (api.Instr, bool) {
	ones := map[bit]int{}
	for at, b := range r.bits {
		v := int(w >> at & 1)
		if fixed, is := r.fixed[b.name]; is && fixed>>b.n&1 != v {
			return api.Instr{}, false
		}
		if before, is := ones[b]; is && before != v {
			return api.Instr{}, false
		}
		ones[b] = v
	}
	values := map[string]int{}
	for b, v := range ones {
		values[b.name] += v << b.n
	}
	// Where there are Imms below 0, they are those whose highest bit is 1: their number is less by 2^bits.
	if values["imm"] > r.most {
		values["imm"] += 2 * r.least
	}
	return api.Instr{Op: r.op, Rd: values["rd"], Rs1: values["rs1"], Rs2: values["rs2"], Imm: values["imm"]}, true
}
