package code

import (
	"math"
	"math/rand"
	"testing"

	"solder/api"
)

// words are instructions with the words that an assembler of RV32IMD makes of them: each Op at least once.
func words() []struct {
	i api.Instr
	w uint32
} {
	return []struct {
		i api.Instr
		w uint32
	}{
		// The chapter's examples.
		{api.Instr{Op: api.ADDI, Rd: 1, Rs1: 2, Imm: -1}, 0xfff10093}, {api.Instr{Op: api.ECALL}, 0x00000073},

		{api.Instr{Op: api.ADD, Rd: 1, Rs1: 8, Rs2: 15}, 0x00f400b3},
		{api.Instr{Op: api.SUB, Rd: 2, Rs1: 15, Rs2: 28}, 0x41c78133},
		{api.Instr{Op: api.SLL, Rd: 3, Rs1: 22, Rs2: 9}, 0x009b11b3},
		{api.Instr{Op: api.SLT, Rd: 4, Rs1: 29, Rs2: 22}, 0x016ea233},
		{api.Instr{Op: api.SLTU, Rd: 5, Rs1: 4, Rs2: 3}, 0x003232b3},
		{api.Instr{Op: api.XOR, Rd: 6, Rs1: 11, Rs2: 16}, 0x0105c333},
		{api.Instr{Op: api.SRL, Rd: 7, Rs1: 18, Rs2: 29}, 0x01d953b3},
		{api.Instr{Op: api.SRA, Rd: 8, Rs1: 25, Rs2: 10}, 0x40acd433},
		{api.Instr{Op: api.OR, Rd: 9, Rs1: 0, Rs2: 23}, 0x017064b3},
		{api.Instr{Op: api.AND, Rd: 10, Rs1: 7, Rs2: 4}, 0x0043f533},
		{api.Instr{Op: api.MUL, Rd: 11, Rs1: 14, Rs2: 17}, 0x031705b3},
		{api.Instr{Op: api.MULH, Rd: 12, Rs1: 21, Rs2: 30}, 0x03ea9633},
		{api.Instr{Op: api.MULHU, Rd: 13, Rs1: 28, Rs2: 11}, 0x02be36b3},
		{api.Instr{Op: api.DIV, Rd: 14, Rs1: 3, Rs2: 24}, 0x0381c733},
		{api.Instr{Op: api.DIVU, Rd: 15, Rs1: 10, Rs2: 5}, 0x025557b3},
		{api.Instr{Op: api.REM, Rd: 16, Rs1: 17, Rs2: 18}, 0x0328e833},
		{api.Instr{Op: api.REMU, Rd: 17, Rs1: 24, Rs2: 31}, 0x03fc78b3},
		{api.Instr{Op: api.ADDI, Rd: 18, Rs1: 23, Imm: -2048}, 0x800b8913},
		{api.Instr{Op: api.SLTI, Rd: 19, Rs1: 24, Imm: 2047}, 0x7ffc2993},
		{api.Instr{Op: api.SLTIU, Rd: 20, Rs1: 25, Imm: -1}, 0xfffcba13},
		{api.Instr{Op: api.XORI, Rd: 21, Rs1: 26, Imm: 1}, 0x001d4a93},
		{api.Instr{Op: api.ORI, Rd: 22, Rs1: 27, Imm: 1365}, 0x555deb13},
		{api.Instr{Op: api.ANDI, Rd: 23, Rs1: 28, Imm: -1366}, 0xaaae7b93},
		{api.Instr{Op: api.SLLI, Rd: 24, Rs1: 7, Imm: 1}, 0x00139c13},
		{api.Instr{Op: api.SRLI, Rd: 25, Rs1: 6, Imm: 31}, 0x01f35c93},
		{api.Instr{Op: api.SRAI, Rd: 26, Rs1: 5, Imm: 17}, 0x4112dd13},
		{api.Instr{Op: api.LB, Rd: 27, Rs1: 7, Imm: -2048}, 0x80038d83},
		{api.Instr{Op: api.LBU, Rd: 28, Rs1: 8, Imm: 5}, 0x00544e03},
		{api.Instr{Op: api.LW, Rd: 29, Rs1: 9, Imm: -3}, 0xffd4ae83},
		{api.Instr{Op: api.SB, Rs1: 10, Rs2: 30, Imm: -1}, 0xffe50fa3},
		{api.Instr{Op: api.SW, Rs1: 11, Rs2: 31, Imm: 2047}, 0x7ff5afa3},
		{api.Instr{Op: api.BEQ, Rs1: 0, Rs2: 0, Imm: -4096}, 0x80000063},
		{api.Instr{Op: api.BNE, Rs1: 1, Rs2: 5, Imm: 4094}, 0x7e509fe3},
		{api.Instr{Op: api.BLT, Rs1: 2, Rs2: 10, Imm: 2048}, 0x00a140e3},
		{api.Instr{Op: api.BGE, Rs1: 3, Rs2: 15, Imm: -2}, 0xfef1dfe3},
		{api.Instr{Op: api.BLTU, Rs1: 4, Rs2: 20, Imm: 1024}, 0x41426063},
		{api.Instr{Op: api.BGEU, Rs1: 5, Rs2: 25, Imm: 30}, 0x0192ff63},
		{api.Instr{Op: api.LUI, Rd: 13, Imm: 0x12345}, 0x123456b7},
		{api.Instr{Op: api.AUIPC, Rd: 14, Imm: 0xfedcb}, 0xfedcb717},
		{api.Instr{Op: api.JAL, Rd: 1, Imm: -1048576}, 0x800000ef},
		{api.Instr{Op: api.JAL, Imm: 1048574}, 0x7ffff06f},
		{api.Instr{Op: api.JAL, Rd: 15, Imm: 2048}, 0x001007ef},
		{api.Instr{Op: api.JAL, Rd: 16, Imm: 349524}, 0x5545586f},
		{api.Instr{Op: api.JAL, Rd: 17, Imm: -21846}, 0xaabfa8ef},
		{api.Instr{Op: api.JAL, Rd: 31, Imm: 2}, 0x00200fef},
		{api.Instr{Op: api.JAL, Rd: 31, Imm: -2}, 0xffffffef},
		{api.Instr{Op: api.JALR, Rd: 1, Rs1: 5, Imm: -3}, 0xffd280e7},
		{api.Instr{Op: api.ECALL}, 0x00000073},
		{api.Instr{Op: api.FLD, Rd: 17, Rs1: 2, Imm: -8}, 0xff813887},
		{api.Instr{Op: api.FSD, Rs1: 25, Rs2: 24, Imm: -2048}, 0x818cb027},
		{api.Instr{Op: api.FADD, Rd: 1, Rs1: 2, Rs2: 3}, 0x023100d3},
		{api.Instr{Op: api.FSUB, Rd: 4, Rs1: 5, Rs2: 6}, 0x0a628253},
		{api.Instr{Op: api.FMUL, Rd: 7, Rs1: 8, Rs2: 9}, 0x129403d3},
		{api.Instr{Op: api.FDIV, Rd: 10, Rs1: 11, Rs2: 12}, 0x1ac58553},
		{api.Instr{Op: api.FMV, Rd: 22, Rs1: 23}, 0x237b8b53},
		{api.Instr{Op: api.FNEG, Rd: 24, Rs1: 25}, 0x239c9c53},
		{api.Instr{Op: api.FEQ, Rd: 13, Rs1: 14, Rs2: 15}, 0xa2f726d3},
		{api.Instr{Op: api.FLT, Rd: 16, Rs1: 17, Rs2: 18}, 0xa3289853},
		{api.Instr{Op: api.FLE, Rd: 19, Rs1: 20, Rs2: 21}, 0xa35a09d3},
		{api.Instr{Op: api.FCVTWD, Rd: 26, Rs1: 27}, 0xc20d9d53},
		{api.Instr{Op: api.FCVTDW, Rd: 28, Rs1: 29}, 0xd20e8e53},
	}
}

// isBoth says whether i and w are encoded and decoded to each other.
func isBoth(t *testing.T, i api.Instr, w uint32) {
	t.Helper()
	if x, e := Encode(i); x != w || e != api.OK {
		t.Errorf("P3.1: Encode(%v) = %#08x, %d, want %#08x", i, x, e, w)
	}
	if x, e := Decode(w); x != i || e != api.OK {
		t.Errorf("P3.2: Decode(%#08x) = %v, %d, want %v", w, x, e, i)
	}
}

// isRefused says whether i is refused with that error.
func isRefused(t *testing.T, i api.Instr, want api.Errno) {
	t.Helper()
	if w, e := Encode(i); w != 0 || e != want {
		t.Errorf("P3.1: Encode(%v) = %#08x, %d, want 0, %d", i, w, e, want)
	}
}

// isAsTold says whether w is decoded as the tables say, and, if it is an instruction's, encoded back.
func isAsTold(t *testing.T, all []row, w uint32) (none bool) {
	t.Helper()
	want, e := wantInstr(all, w), api.OK
	if want.Op == 0 {
		e = api.ErrForm
	}
	i, got := Decode(w)
	if i != want || got != e {
		t.Errorf("P3.1: Decode(%#08x) = %v, %d, want %v, %d", w, i, got, want, e)
	}
	if got != api.OK {
		return true
	}
	if back, e := Encode(i); back != w || e != api.OK {
		t.Errorf("P3.2: Encode(Decode(%#08x)) = %#08x, %d", w, back, e)
	}
	return false
}

// part is one that r tells by this name.
func part(i *api.Instr, name string) *int {
	switch name {
	case "rd":
		return &i.Rd
	case "rs1":
		return &i.Rs1
	case "rs2":
		return &i.Rs2
	}
	return &i.Imm
}

// anyInstr is some instruction of r.
func anyInstr(r row, source *rand.Rand) api.Instr {
	i := api.Instr{Op: r.op}
	for _, name := range []string{"rd", "rs1", "rs2"} {
		if r.uses(name) {
			*part(&i, name) = source.Intn(32)
		}
	}
	if r.step != 0 {
		i.Imm = r.least + r.step*source.Intn((r.most-r.least)/r.step+1)
	}
	return i
}

// some are a few instructions of r: all parts the least, all the greatest, and between.
func some(r row, source *rand.Rand) []api.Instr {
	low, high := api.Instr{Op: r.op, Imm: r.least}, api.Instr{Op: r.op, Imm: r.most}
	for _, name := range []string{"rd", "rs1", "rs2"} {
		if r.uses(name) {
			*part(&high, name) = 31
		}
	}
	return []api.Instr{low, high, anyInstr(r, source), anyInstr(r, source)}
}

// imms are the Imms of r at which something is likely to go wrong: its ends, around 0, and each bit for itself.
func imms(r row) []int {
	var all []int
	add := func(imm int) {
		if r.fits(imm) {
			all = append(all, imm)
		}
	}
	for n := range 4 {
		add(r.least + n*r.step)
		add(r.most - n*r.step)
		add(n * r.step)
		add(-n * r.step)
	}
	for n := range 21 {
		add(1 << n)
		add(-1 << n)
		add(1<<n - r.step)
		add(-1<<n - r.step)
	}
	return all
}

// noImms are numbers that aren't Imms of r, though r has them: just beyond its ends, odd ones, and far away ones whose
// lowest bits would be.
func noImms(r row) []int {
	all := []int{
		r.least - 1, r.least - 2, r.least - r.step, r.most + 1, r.most + 2, r.most + r.step, 2*r.most + 2,
		math.MinInt, math.MaxInt, 1 << 32, -1 << 32, 1<<32 + r.most, -1<<32 + r.most, 1<<31 - 1, -1 << 31, 1<<21 + 4, 1<<32 - 4,
	}
	if r.step == 2 {
		all = append(all, 1, -1, 3, -3, 4093, r.least+1, r.most-1, 2047, -2047)
	}
	if r.least == 0 {
		all = append(all, -1, -2, -16)
	}
	return all
}

func TestTheTableHasAllOps(t *testing.T) {
	seen := map[int]int{}
	for _, r := range rows() {
		seen[r.op]++
	}
	for op := api.ADD; op <= api.FCVTDW; op++ {
		if seen[op] != 1 {
			t.Errorf("Op %d is there %d times", op, seen[op])
		}
	}
	if len(seen) != api.FCVTDW {
		t.Errorf("%d Ops", len(seen))
	}
}

func TestWordsOfAnAssembler(t *testing.T) {
	all, seen := rows(), map[int]bool{}
	for _, c := range words() {
		isBoth(t, c.i, c.w)
		if want := wantInstr(all, c.w); want != c.i {
			t.Errorf("the tables say of %#08x %v, want %v", c.w, want, c.i)
		}
		seen[c.i.Op] = true
	}
	for _, r := range all {
		if !seen[r.op] {
			t.Errorf("%s isn't there", r.name)
		}
	}
}

func TestEachRegister(t *testing.T) {
	source := rand.New(rand.NewSource(3))
	for _, r := range rows() {
		for _, name := range []string{"rd", "rs1", "rs2"} {
			if !r.uses(name) {
				continue
			}
			for _, i := range some(r, source) {
				for n := range 32 {
					*part(&i, name) = n
					isBoth(t, i, wantWord(r, i))
				}
			}
		}
	}
}

func TestEachImm(t *testing.T) {
	source := rand.New(rand.NewSource(4))
	for _, r := range rows() {
		for _, imm := range imms(r) {
			for _, i := range some(r, source) {
				i.Imm = imm
				isBoth(t, i, wantWord(r, i))
			}
		}
	}
}

// Those of kinds H, I, S and B are few enough to be asked all.
func TestAllImmsOfAFewOps(t *testing.T) {
	for _, r := range rows() {
		switch r.op {
		case api.SRAI, api.LW, api.SW, api.BGEU:
			for imm := r.least; imm <= r.most; imm += r.step {
				i := api.Instr{Op: r.op, Rs1: 21, Imm: imm}
				isBoth(t, i, wantWord(r, i))
			}
		}
	}
}

func TestImmOutside(t *testing.T) {
	source := rand.New(rand.NewSource(5))
	for _, r := range rows() {
		if r.step == 0 {
			continue
		}
		for _, imm := range noImms(r) {
			for _, i := range some(r, source) {
				i.Imm = imm
				isRefused(t, i, api.ErrRange)
			}
			if Fits(r.op, imm) {
				t.Errorf("P3.1: Fits(%s, %d)", r.name, imm)
			}
		}
	}
}

func TestRegisterOutside(t *testing.T) {
	source := rand.New(rand.NewSource(6))
	for _, r := range rows() {
		for _, name := range []string{"rd", "rs1", "rs2"} {
			if !r.uses(name) {
				continue
			}
			for _, n := range []int{-1, -2, -31, -32, 32, 33, 63, 64, 1 << 32, 1<<32 + 5, -1<<32 + 5, math.MinInt, math.MaxInt} {
				for _, i := range some(r, source) {
					*part(&i, name) = n
					isRefused(t, i, api.ErrRange)
				}
			}
		}
	}
}

func TestPartThatIsNotUsed(t *testing.T) {
	source := rand.New(rand.NewSource(7))
	for _, r := range rows() {
		for _, name := range []string{"rd", "rs1", "rs2", "imm"} {
			if r.uses(name) {
				continue
			}
			for _, n := range []int{1, 2, 5, 31, 32, -1, -2, 1 << 20, 1 << 32, -1 << 32, math.MinInt, math.MaxInt} {
				for _, i := range some(r, source) {
					*part(&i, name) = n
					isRefused(t, i, api.ErrForm)
					// The same where another part is outside as well, behind this one or ahead of it.
					for _, other := range []string{"rd", "rs1", "rs2", "imm"} {
						if other != name {
							bad := i
							*part(&bad, other) = 1 << 40
							isRefused(t, bad, api.ErrForm)
						}
					}
				}
			}
		}
	}
}

// The rs2 that stands in the words of FMV and FNEG is none of theirs, not even if it is the same as Rs1.
func TestRs2OfWhatHasNone(t *testing.T) {
	for _, op := range []int{api.FMV, api.FNEG, api.FCVTWD, api.FCVTDW} {
		for n := 1; n < 32; n++ {
			isRefused(t, api.Instr{Op: op, Rd: 3, Rs1: n, Rs2: n}, api.ErrForm)
		}
	}
}

// noOps are numbers that no Op has.
func noOps() []int {
	all := []int{math.MinInt, math.MaxInt, 1 << 32, -1 << 32, 1<<32 + api.ADD, 1<<32 + api.ECALL, 1<<8 + api.ADD, 1<<16 + api.ADD, 1 << 20}
	for op := range 300 {
		all = append(all, -op)
		if op > api.FCVTDW {
			all = append(all, op)
		}
	}
	return all
}

func TestOpThatIsNone(t *testing.T) {
	for _, op := range noOps() {
		for _, i := range []api.Instr{{}, {Rd: 1, Rs1: 2, Rs2: 3}, {Rd: 1, Imm: 4}, {Rd: 32}, {Rs1: -1, Imm: 1 << 40}, {Rd: 31, Rs1: 31, Rs2: 31, Imm: 2047}} {
			i.Op = op
			isRefused(t, i, api.ErrForm)
		}
		for _, imm := range []int{0, 1, 2, -2, 2047, 1 << 20} {
			if Fits(op, imm) {
				t.Errorf("P3.1: Fits(%d, %d)", op, imm)
			}
		}
	}
}

func TestWordsOfNoInstruction(t *testing.T) {
	for _, w := range []uint32{
		0, 1<<32 - 1, 1 << 31, 1, 2, 0x7f,
		0x00100073, 0x000000f3, 0x00001073, 0x00008073, 0x02000073, 0x10000073, // ECALL with one bit more
		0x40001013, 0x02001013, 0x02005013, 0x60005013, 0xc0005013, // moves by an Imm, with another f7
		0x40001033, 0x40007033, 0x02002033, 0x42000033, 0x04000033, // R, with another f3 for its f7
		0x00001003, 0x00003003, 0x00005003, 0x00001067, 0x00002007, 0x00001023, 0x00002027, 0x00002063, 0x00003063,
		0x02001053, 0x02007053, 0xa2003053, 0x22002053, 0xc2000053, 0xc2101053, 0xd2001053, 0xd2100053, // D
		0x223100d3, 0x223110d3, 0x220100d3, 0x220110d3, // FMV and FNEG with another rs2 than Rs1
		0x0000000f, 0x0000001b, 0x0000003b, 0x0000002f, 0x00000077, 0x00000072, 0x00000030,
	} {
		if i, e := Decode(w); i != (api.Instr{}) || e != api.ErrForm {
			t.Errorf("P3.1: Decode(%#08x) = %v, %d, want none, ErrForm", w, i, e)
		}
	}
}

func TestWordsChangedByOneBit(t *testing.T) {
	source := rand.New(rand.NewSource(8))
	all, none := rows(), 0
	for _, r := range all {
		for _, i := range some(r, source) {
			w := wantWord(r, i)
			for at, b := range r.bits {
				if isAsTold(t, all, w^1<<at) {
					none++
				}
				_, fixed := r.fixed[b.name]
				if back, _ := Decode(w ^ 1<<at); fixed && back.Op == r.op {
					t.Errorf("P3.1: %#08x with bit %d of %s changed is still %s", w, b.n, b.name, r.name)
				}
			}
		}
	}
	if none < 1000 {
		t.Errorf("of the words only %d are no instruction's", none)
	}
}

// All of op, f3 and f7 there are, with a few words for the rest.
func TestAllFixedFields(t *testing.T) {
	all := rows()
	ops := map[uint32]bool{}
	for _, r := range all {
		ops[uint32(r.fixed["op"])] = true
	}
	for op := range uint32(1 << 7) {
		for f3 := range uint32(1 << 3) {
			for f7 := range uint32(1 << 7) {
				w := op | f3<<12 | f7<<25
				if !ops[op] {
					if i, e := Decode(w | 0x00738280); i != (api.Instr{}) || e != api.ErrForm {
						t.Errorf("P3.1: Decode(%#08x) = %v, %d, want none, ErrForm", w|0x00738280, i, e)
					}
					continue
				}
				isAsTold(t, all, w)
				isAsTold(t, all, w|0x00738280) // rs1 and rs2 7, rd 5
				isAsTold(t, all, w|0x00338280) // rs2 3
			}
		}
	}
}

// All of rs1 and rs2 there are, where an rs2 may have to be the same, or 0; and all that ECALL may not have.
func TestAllOfRs1AndRs2(t *testing.T) {
	all := rows()
	for _, r := range all {
		if r.fixed["op"] != 0x53 && r.op != api.ECALL {
			continue
		}
		w := wantWord(r, api.Instr{Op: r.op})
		for rs1 := range uint32(32) {
			for rs2 := range uint32(32) {
				isAsTold(t, all, w|rs1<<15|rs2<<20)
			}
		}
	}
	for n := uint32(1); n < 1<<25; n += 1 + n/50 {
		if i, e := Decode(0x73 | n<<7); i != (api.Instr{}) || e != api.ErrForm {
			t.Errorf("P3.1: Decode(%#08x) = %v, %d, want none, ErrForm", 0x73|n<<7, i, e)
		}
	}
}

func TestFits(t *testing.T) {
	for _, r := range rows() {
		for _, imm := range append(imms(r), noImms(r)...) {
			if is := Fits(r.op, imm); is != r.fits(imm) {
				t.Errorf("P3.1: Fits(%s, %d) = %t", r.name, imm, is)
			}
		}
		for imm := -5000; imm <= 5000; imm += 11 {
			if is := Fits(r.op, imm); is != r.fits(imm) {
				t.Errorf("P3.1: Fits(%s, %d) = %t", r.name, imm, is)
			}
		}
		if is := Fits(r.op, 0); is != r.uses("imm") {
			t.Errorf("P3.1: Fits(%s, 0) = %t", r.name, is)
		}
	}
}

// What fits is encoded; what doesn't isn't.
func TestWhatFitsIsEncoded(t *testing.T) {
	for _, r := range rows() {
		for _, imm := range append(imms(r), noImms(r)...) {
			_, e := Encode(api.Instr{Op: r.op, Imm: imm})
			if r.uses("imm") && (e == api.OK) != Fits(r.op, imm) {
				t.Errorf("P3.1: Encode of %s with Imm %d: %d, but Fits = %t", r.name, imm, e, Fits(r.op, imm))
			}
		}
	}
}

func TestManyInstructionsThereAndBack(t *testing.T) {
	source := rand.New(rand.NewSource(9))
	owner := map[uint32]api.Instr{}
	for _, r := range rows() {
		for range 800 {
			i := anyInstr(r, source)
			w := wantWord(r, i)
			isBoth(t, i, w)
			if other, is := owner[w]; is && other != i {
				t.Errorf("P3.2: %v and %v have one word, %#08x", i, other, w)
			}
			owner[w] = i
		}
	}
}

func TestManyWordsThereAndBack(t *testing.T) {
	source := rand.New(rand.NewSource(10))
	all, none, seen := rows(), 0, map[int]int{}
	for n := range 60000 {
		w := source.Uint32()
		// Most words are none: half of them are taken from near an instruction's.
		if n%2 == 0 {
			r := all[source.Intn(len(all))]
			w = wantWord(r, anyInstr(r, source)) ^ source.Uint32()&source.Uint32()&source.Uint32()&source.Uint32()&source.Uint32()
		}
		if isAsTold(t, all, w) {
			none++
			continue
		}
		i, _ := Decode(w)
		seen[i.Op]++
	}
	if none < 10000 || len(seen) != len(all) {
		t.Errorf("%d words of no instruction, %d Ops: the walk goes by too little", none, len(seen))
	}
}
