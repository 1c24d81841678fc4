package patch_test

import (
	"encoding/binary"
	"testing"

	"solder/api"
	"solder/code"
	"solder/machine"
	"solder/word"
)

// patched is w by a relocation that must be carried out.
func patched(t *testing.T, kind int, i api.Instr, value, place uint32) uint32 {
	t.Helper()
	got := ask(call{kind, encoded(t, i), value, place})
	if got.e != api.OK {
		t.Fatalf("P8.2: Patch(%d, %v, %#x, %#x): error %d", kind, i, value, place, got.e)
	}
	return got.w
}

// loaded is a machine whose words stand at place, where it begins, with nothing else below it; there is so much memory in all.
func loaded(t *testing.T, place uint32, memory int, words ...uint32) *machine.Machine {
	t.Helper()
	bytes := make([]byte, place)
	for _, w := range words {
		bytes = binary.LittleEndian.AppendUint32(bytes, w)
	}
	m, e := machine.Load(api.Image{Bytes: bytes, Entry: int(place)}, memory-(len(bytes)+15)/16*16)
	if e != api.OK {
		t.Fatalf("Load: error %d", e)
	}
	return m
}

// makes says whether m makes so many steps.
func makes(t *testing.T, what string, m *machine.Machine, steps int) {
	t.Helper()
	if r := m.Run(nil, steps); r.State != api.Running || r.Steps != steps {
		t.Errorf("P8.2: %s: State %d behind %d steps, want %d", what, r.State, r.Steps, steps)
	}
}

// comesTo says whether i, patched at place, comes to value there.
func comesTo(t *testing.T, kind int, i api.Instr, value, place uint32) {
	t.Helper()
	m := loaded(t, place, api.MaxMemory, patched(t, kind, i, value, place))
	makes(t, "a jump", m, 1)
	if m.Place() != value {
		t.Errorf("P8.2: %v at %#x to %#x comes to %#x", i, place, value, m.Place())
	}
	if back := m.Word(i.Rd); kind == api.RJal && i.Rd != 0 && back != place+4 {
		t.Errorf("P8.2: %v at %#x keeps %#x", i, place, back)
	}
}

func TestJumpsComeToTheValue(t *testing.T) {
	for _, place := range []uint32{0, 4, 96, 4096, 1<<20 - 4, 1 << 20, 1<<21 - 16} {
		for _, far := range []int{0, 2, 4, -4, 8, 2048, -2048, 4094, -4096, 65536, -65540, 1<<20 - 2, 1<<20 - 4, -1 << 20, -1<<20 + 2} {
			for _, rd := range []int{0, 1, 31} {
				comesTo(t, api.RJal, api.Instr{Op: api.JAL, Rd: rd}, place+word.Of(far), place)
			}
		}
	}
}

// Branches that are taken with registers that are 0: BEQ, BGE and BGEU. Those that aren't go on.
func TestBranchesComeToTheValue(t *testing.T) {
	for _, place := range []uint32{0, 4, 4096, 1 << 20, 1<<21 - 16} {
		for _, far := range []int{0, 2, 4, -4, 8, 30, 1024, 2046, 2048, -2048, -2050, 4092, 4094, -4094, -4096} {
			for _, op := range []int{api.BEQ, api.BGE, api.BGEU} {
				comesTo(t, api.RBranch, api.Instr{Op: op, Rs1: 5, Rs2: 6}, place+word.Of(far), place)
			}
			// Register 2, the top, is greater than 0.
			comesTo(t, api.RBranch, api.Instr{Op: api.BNE, Rs1: 0, Rs2: 2}, place+word.Of(far), place)
			comesTo(t, api.RBranch, api.Instr{Op: api.BLT, Rs1: 0, Rs2: 2}, place+word.Of(far), place)
			comesTo(t, api.RBranch, api.Instr{Op: api.BLTU, Rs1: 0, Rs2: 2}, place+word.Of(far), place)
		}
	}
	m := loaded(t, 96, 4096, patched(t, api.RBranch, api.Instr{Op: api.BNE, Rs1: 5, Rs2: 6}, 4, 96))
	if makes(t, "a branch that isn't taken", m, 1); m.Place() != 100 {
		t.Errorf("P8.2: a branch that isn't taken comes to %d", m.Place())
	}
}

// An LUI and an ADDI make the value, whatever it is.
func TestPairsMakeTheValue(t *testing.T) {
	for _, value := range values() {
		m := loaded(t, 0, 4096,
			patched(t, api.RHi, api.Instr{Op: api.LUI, Rd: 5}, value, 0),
			patched(t, api.RLoI, api.Instr{Op: api.ADDI, Rd: 6, Rs1: 5}, value, 4))
		if makes(t, "LUI and ADDI", m, 2); m.Word(6) != value {
			t.Errorf("P8.2: LUI and ADDI of %#x make %#x", value, m.Word(6))
		}
		m = loaded(t, 0, 4096,
			patched(t, api.RHi, api.Instr{Op: api.LUI, Rd: 5}, value, 0),
			patched(t, api.RLoI, api.Instr{Op: api.JALR, Rd: 1, Rs1: 5}, value, 4))
		if makes(t, "LUI and JALR", m, 2); m.Place() != value&^1 || m.Word(1) != 8 {
			t.Errorf("P8.2: LUI and JALR of %#x come to %#x, and keep %#x", value, m.Place(), m.Word(1))
		}
	}
}

// addresses are of places in a memory of MaxMemory bytes, with eight bytes each, around where Hi becomes one more.
func addresses() []uint32 {
	l := []uint32{64, 0x7f8, 0x800, 0x808, 0xff8, 0x1000, 0x1008, 0x12340, 0x12800, 0x12ff8, 0xff7f8, 0xff800, 0xffff8, 0x100000, 0x100800, 0x1ff7f8, 0x1ff800}
	return append(l, api.MaxMemory-8)
}

// An LUI and a store put something at the value, an LUI and a load take it from there.
func TestPairsReachTheValue(t *testing.T) {
	for _, value := range addresses() {
		for _, pair := range []struct {
			store, load int
			bytes       int
		}{{api.SW, api.LW, 4}, {api.SB, api.LBU, 1}, {api.FSD, api.FLD, 8}} {
			setWord := encoded(t, api.Instr{Op: api.ADDI, Rd: 7, Imm: 0x5a})
			setReal := encoded(t, api.Instr{Op: api.FCVTDW, Rd: 7, Rs1: 7})
			m := loaded(t, 0, api.MaxMemory, setWord, setReal,
				patched(t, api.RHi, api.Instr{Op: api.LUI, Rd: 5}, value, 8),
				patched(t, api.RLoS, api.Instr{Op: pair.store, Rs1: 5, Rs2: 7}, value, 12),
				patched(t, api.RLoI, api.Instr{Op: pair.load, Rd: 8, Rs1: 5}, value, 16))
			makes(t, "LUI, a store and a load", m, 5)
			b, e := m.Bytes(int(value), pair.bytes)
			var want [8]byte
			if want[0] = 0x5a; pair.store == api.FSD {
				binary.LittleEndian.PutUint64(want[:], m.Real(7))
			}
			if e != api.OK || string(b) != string(want[:pair.bytes]) {
				t.Errorf("P8.2: LUI and operation %d put at %#x: %x, error %d, want %x", pair.store, value, b, e, want[:pair.bytes])
			}
			if pair.load == api.FLD && m.Real(8) != m.Real(7) || pair.load != api.FLD && m.Word(8) != 0x5a {
				t.Errorf("P8.2: LUI and operation %d take from %#x: %#x, %#x", pair.load, value, m.Word(8), m.Real(8))
			}
		}
	}
}

// What is patched is an instruction with the Imm that the chapter tells.
func TestPatchedIsDecoded(t *testing.T) {
	for _, one := range instrs() {
		for _, value := range values() {
			place := value + 16
			c := call{one.kind, encoded(t, one.i), value, place}
			if one.kind == 0 || value%2 != 0 && (one.kind == api.RJal || one.kind == api.RBranch) {
				continue
			}
			i, e := code.Decode(asModel(t, "any value", c).w)
			want := one.i
			switch one.kind {
			case api.RHi:
				want.Imm = wantHi(value)
			case api.RLoI, api.RLoS:
				want.Imm = wantLo(value)
			default:
				want.Imm = -16
			}
			if i != want || e != api.OK {
				t.Errorf("P8.1: Kind %d of %v and %#x: %v, error %d, want %v", one.kind, one.i, value, i, e, want)
			}
		}
	}
}
