package machine_test

import (
	"bytes"
	"encoding/binary"
	"math"
	"math/big"
	"math/rand"
	"strconv"
	"testing"

	"solder/api"
	"solder/code"
	"solder/machine"
)

// model tells by the chapter's words what a machine must do, with numbers that don't wrap round but where they are put.
type model struct {
	seen
	state  int
	code   uint32
	events []api.Event
	steps  int
	taken  int // words of the input
	ops    map[int]int
}

// newModel is a machine just loaded.
func newModel(i api.Image, stack int) *model {
	floor := len(i.Bytes)
	for floor%16 != 0 {
		floor++
	}
	top := floor + stack
	for top%16 != 0 {
		top++
	}
	m := &model{ops: map[int]int{}}
	m.place, m.memory = uint32(i.Entry), make([]byte, top)
	copy(m.memory, i.Bytes)
	m.words[2], m.words[27] = uint32(top), uint32(floor)
	return m
}

func (m *model) run(input []uint32, fuel int) {
	for n := 0; n < fuel && m.state == api.Running; n++ {
		m.step(input)
	}
}

// there says whether n bytes may be touched at a.
func (m *model) there(a uint32, n int) bool {
	return int(a)%n == 0 && int(a) <= len(m.memory)-n
}

func (m *model) step(input []uint32) {
	if !m.there(m.place, 4) {
		m.state = api.BadPlace
		return
	}
	i, e := decoded(binary.LittleEndian.Uint32(m.memory[m.place:]))
	if e != api.OK {
		m.state = api.BadCode
		return
	}
	next := int64(m.place) + 4
	switch {
	case i.Op == api.ECALL:
		if !m.call(input) {
			m.state = api.BadCode
			return
		}
	case i.Op >= api.LB && i.Op <= api.SW || i.Op == api.FLD || i.Op == api.FSD:
		if !m.access(i) {
			m.state = api.BadPlace
			return
		}
	default:
		next = m.plain(i, next)
	}
	m.words[0] = 0
	m.place = uint32(next)
	m.steps++
	m.ops[i.Op]++
}

func (m *model) call(input []uint32) bool {
	switch m.words[17] {
	case 1:
		m.events = append(m.events, api.Event{Kind: 1, Word: m.words[10]})
	case 2:
		m.words[10] = 0
		if m.taken < len(input) {
			m.words[10] = input[m.taken]
			m.taken++
		}
	case 3:
		m.state, m.code = api.Halted, m.words[10]
	case 4:
		m.state = api.NoStack
	case 5:
		m.events = append(m.events, api.Event{Kind: 2, Real: m.reals[10]})
	default:
		return false
	}
	return true
}

func (m *model) access(i api.Instr) bool {
	a := uint32(int64(m.words[i.Rs1]) + int64(i.Imm))
	if !m.there(a, int(sizes()[i.Op])) {
		return false
	}
	b := m.memory[a:]
	switch i.Op {
	case api.LB:
		m.words[i.Rd] = uint32(int8(b[0]))
	case api.LBU:
		m.words[i.Rd] = uint32(b[0])
	case api.LW:
		m.words[i.Rd] = binary.LittleEndian.Uint32(b)
	case api.FLD:
		m.reals[i.Rd] = binary.LittleEndian.Uint64(b)
		m.canon(i.Rd)
	case api.SB:
		b[0] = byte(m.words[i.Rs2])
	case api.SW:
		binary.LittleEndian.PutUint32(b, m.words[i.Rs2])
	case api.FSD:
		binary.LittleEndian.PutUint64(b, m.reals[i.Rs2])
	}
	return true
}

func (m *model) canon(r int) {
	if x := math.Float64frombits(m.reals[r]); x != x {
		m.reals[r] = theNaN
	}
}

// plain is a step that touches no memory: it answers the next place.
func (m *model) plain(i api.Instr, next int64) int64 {
	a, b, place := m.words[i.Rs1], m.words[i.Rs2], int64(m.place)
	switch {
	case i.Op <= api.REMU:
		m.words[i.Rd] = operation(i.Op, a, b)
	case i.Op <= api.SRAI:
		without := map[int]int{api.ADDI: api.ADD, api.SLTI: api.SLT, api.SLTIU: api.SLTU, api.XORI: api.XOR, api.ORI: api.OR, api.ANDI: api.AND, api.SLLI: api.SLL, api.SRLI: api.SRL, api.SRAI: api.SRA}
		m.words[i.Rd] = operation(without[i.Op], a, uint32(i.Imm))
	case i.Op >= api.BEQ && i.Op <= api.BGEU:
		if taken(i.Op, a, b) {
			return place + int64(i.Imm)
		}
	case i.Op == api.LUI:
		m.words[i.Rd] = uint32(i.Imm * 4096)
	case i.Op == api.AUIPC:
		m.words[i.Rd] = uint32(int64(i.Imm)*4096 + place)
	case i.Op == api.JAL:
		m.words[i.Rd] = uint32(next)
		return place + int64(i.Imm)
	case i.Op == api.JALR:
		m.words[i.Rd] = uint32(next)
		return (int64(a) + int64(i.Imm)) &^ 1
	case i.Op >= api.FADD && i.Op <= api.FNEG:
		m.reals[i.Rd] = realOperation(i.Op, m.reals[i.Rs1], m.reals[i.Rs2])
		m.canon(i.Rd)
	case i.Op == api.FCVTDW:
		m.reals[i.Rd] = math.Float64bits(float64(int32(a)))
	case i.Op == api.FCVTWD:
		m.words[i.Rd] = nearZero(math.Float64frombits(m.reals[i.Rs1]))
	default:
		m.words[i.Rd] = comparison(i.Op, math.Float64frombits(m.reals[i.Rs1]), math.Float64frombits(m.reals[i.Rs2]))
	}
	return next
}

func one(is bool) uint32 {
	if is {
		return 1
	}
	return 0
}

// operation is one of chapter 1, by whole numbers without bounds.
func operation(op int, a, b uint32) uint32 {
	x, y := big.NewInt(int64(a)), big.NewInt(int64(b))
	switch op {
	case api.MULH, api.DIV, api.REM, api.SLT, api.SRA:
		x.SetInt64(int64(int32(a)))
	}
	switch op {
	case api.MULH, api.DIV, api.REM, api.SLT:
		y.SetInt64(int64(int32(b)))
	case api.SLL, api.SRL, api.SRA:
		y.SetInt64(int64(b % 32))
	}
	z := new(big.Int)
	switch op {
	case api.ADD:
		z.Add(x, y)
	case api.SUB:
		z.Sub(x, y)
	case api.MUL:
		z.Mul(x, y)
	case api.MULH, api.MULHU:
		z.Rsh(z.Mul(x, y), 32)
	case api.SLL:
		z.Lsh(x, uint(y.Int64()))
	case api.SRL, api.SRA:
		z.Rsh(x, uint(y.Int64()))
	case api.SLT, api.SLTU:
		z.SetInt64(int64(one(x.Cmp(y) < 0)))
	case api.XOR:
		z.Xor(x, y)
	case api.OR:
		z.Or(x, y)
	case api.AND:
		z.And(x, y)
	case api.DIV, api.DIVU:
		z.SetInt64(-1)
		if b != 0 {
			z.Quo(x, y)
		}
	case api.REM, api.REMU:
		z.Set(x)
		if b != 0 {
			z.Rem(x, y)
		}
	}
	return uint32(new(big.Int).And(z, big.NewInt(1<<32-1)).Int64())
}

func realOperation(op int, a, b uint64) uint64 {
	x, y := math.Float64frombits(a), math.Float64frombits(b)
	switch op {
	case api.FADD:
		x += y
	case api.FSUB:
		x -= y
	case api.FMUL:
		x *= y
	case api.FDIV:
		x /= y
	case api.FNEG:
		x = -x
	}
	return math.Float64bits(x)
}

func comparison(op int, x, y float64) uint32 {
	switch op {
	case api.FEQ:
		return one(x == y)
	case api.FLT:
		return one(x < y)
	}
	return one(x <= y)
}

func nearZero(x float64) uint32 {
	if x != x {
		return lowest - 1
	}
	return uint32(int32(math.Trunc(math.Max(-1<<31, math.Min(1<<31-1, x)))))
}

// isAs says whether a machine is as the model of it.
func isAs(t *testing.T, what string, m *machine.Machine, r api.Result, want *model) {
	t.Helper()
	isResult(t, what, r, api.Result{State: want.state, Code: want.code, Events: want.events, Steps: want.steps})
	isSeen(t, what, m, want.seen)
}

func edgeWords() []uint32 {
	return []uint32{0, 1, 2, 3, 4, 5, 8, 31, 32, 33, 0x7f, 0x80, 0xff, 0x7ff, 0x800, 0xffff, 0x10000, lowest - 1, lowest, lowest + 1, ones - 31, ones - 7, ones - 3, ones - 1, ones}
}

func edgeReals() []uint64 {
	b := math.Float64bits
	return []uint64{0, negZero, inf, negInf, theNaN, theNaN | 1, inf | 1, ^uint64(0), 1, negZero | 1, b(1), b(-1), b(0.5), b(-2.5), b(3), b(1e300), b(-1e300), b(math.MaxFloat64), b(2147483647), b(2147483647.5), b(2147483648), b(-2147483648), b(-2147483649), b(1 << 52), b(0.1)}
}

// someInstr is some instruction of op, with registers from a few.
func someInstr(op int, source *rand.Rand) api.Instr {
	register := func() int {
		return [...]int{0, 1, 2, 5, 6, 7, 10, 17, 27, 31}[source.Intn(10)]
	}
	i := api.Instr{Op: op, Rd: register(), Rs1: register(), Rs2: register()}
	for n := 1; n < 40; n++ {
		// What an Op uses is found by trying: what it doesn't is put back to 0.
		if _, e := encoded(i); e == api.OK {
			break
		} else if e == api.ErrForm {
			i.Rd, i.Rs1, i.Rs2 = pick(n, 1, i.Rd), pick(n, 2, i.Rs1), pick(n, 4, i.Rs2)
		}
	}
	if _, e := encoded(i); e != api.OK {
		i = api.Instr{Op: op}
	}
	if imm := source.Intn(1<<13) - 1<<12; code.Fits(op, imm) {
		i.Imm = imm
	} else if imm := source.Intn(64) - 32; code.Fits(op, imm) {
		i.Imm = imm
	}
	return i
}

// pick is 0 where n has the bit, else r.
func pick(n, bit, r int) int {
	if n&bit != 0 {
		return 0
	}
	return r
}

// Each Op in one step, with all kinds of words and reals, held against the model.
func TestManySteps(t *testing.T) {
	source := rand.New(rand.NewSource(4))
	words, reals := edgeWords(), edgeReals()
	made := map[int]int{}
	for op := api.ADD; op <= api.FCVTDW; op++ {
		for range 150 {
			i := someInstr(op, source)
			s := plain(i)
			for r := range 32 {
				s.words[r], s.reals[r] = words[source.Intn(len(words))], reals[source.Intn(len(reals))]
				if source.Intn(3) == 0 {
					s.words[r] = uint32(source.Intn(int(s.top())))
					s.reals[r] = source.Uint64()
				}
			}
			s.words[17] = uint32(source.Intn(7))
			if sizes()[op] > 0 && source.Intn(2) == 0 {
				s.words[i.Rs1] = uint32(8*source.Intn(int(s.top())/8) - i.Imm)
			}
			m, begin := s.begin(t)
			want := &model{seen: begin, ops: made}
			want.run([]uint32{33}, 1)
			isAs(t, tell(i), m, m.Run([]uint32{33}, 1), want)
			if t.Failed() {
				return
			}
		}
		if made[op] < 10 {
			t.Errorf("Op %d has made only %d steps: too few to tell anything", op, made[op])
		}
	}
}

// someProgram is an image of a hundred instructions that go to and fro, with data behind them.
func someProgram(source *rand.Rand) api.Image {
	const length = 100
	w := []uint32{}
	for len(w) < length {
		op := 1 + source.Intn(api.FCVTDW)
		i := someInstr(op, source)
		switch {
		case op == api.ECALL && source.Intn(12) > 0:
			x, _ := encoded(set(17, [...]int{1, 2, 5, 1, 2, 5, 1, 2, 5, 3, 4, 6}[source.Intn(12)]))
			w = append(w, x)
		case op >= api.BEQ && op <= api.BGEU, op == api.JAL:
			i.Imm = 4 * (source.Intn(12) - 3)
		case op == api.JALR:
			i.Rs1, i.Imm = 0, 4*source.Intn(length)+source.Intn(2)
		case op >= api.LB && op <= api.SW, op == api.FLD, op == api.FSD:
			i.Rs1, i.Imm = 0, 8*source.Intn(length/2+20)
			if source.Intn(2) == 0 {
				i.Rs1, i.Imm = 27, 8*source.Intn(8)
			}
		}
		if source.Intn(60) == 0 {
			i.Imm |= 2
		}
		if x, e := encoded(i); e == api.OK {
			w = append(w, x)
		}
	}
	var b []byte
	for _, x := range w {
		b = binary.LittleEndian.AppendUint32(b, x)
	}
	for range 8 + source.Intn(20) {
		b = append(b, byte(source.Intn(256)))
	}
	return api.Image{Entry: 4 * source.Intn(8), Bytes: b}
}

func someInput(source *rand.Rand) []uint32 {
	input := make([]uint32, source.Intn(12))
	for n := range input {
		input[n] = source.Uint32() >> (4 * source.Intn(8))
	}
	return input
}

func TestManyPrograms(t *testing.T) {
	source := rand.New(rand.NewSource(5))
	ends, ops := map[int]int{}, map[int]int{}
	for n := range 1500 {
		i, stack, input := someProgram(source), source.Intn(200), someInput(source)
		want := newModel(i, stack)
		want.ops = ops
		fuel := source.Intn(400)
		want.run(input, fuel)
		m := load(t, i, stack)
		isAs(t, "program "+strconv.Itoa(n), m, m.Run(input, fuel), want)
		ends[want.state]++
		if t.Failed() {
			return
		}
	}
	for state := api.Running; state <= api.NoStack; state++ {
		if ends[state] < 20 {
			t.Errorf("the programs ended %v: too few of each to tell anything", ends)
		}
	}
	for op := api.ADD; op <= api.FCVTDW; op++ {
		if ops[op] == 0 {
			t.Errorf("no program has made a step of Op %d", op)
		}
	}
}

// A run is cut in two at every step: the second one takes the input on from where the model says the first left it.
func TestRunsCutInTwo(t *testing.T) {
	source := rand.New(rand.NewSource(6))
	for n := range 60 {
		i, stack, input := someProgram(source), source.Intn(200), someInput(source)
		fuel := 1 + source.Intn(120)
		whole := load(t, i, stack)
		r := whole.Run(input, fuel)
		for cut := range fuel + 1 {
			what := "program " + strconv.Itoa(n) + ", " + strconv.Itoa(fuel) + " steps cut at " + strconv.Itoa(cut)
			first := newModel(i, stack)
			first.run(input, cut)
			m := load(t, i, stack)
			a := m.Run(input, cut)
			isAs(t, what, m, a, first)
			b := m.Run(input[first.taken:], fuel-cut)
			b.Events, b.Steps = append(a.Events, b.Events...), b.Steps+a.Steps
			if b.State != r.State || b.Code != r.Code || b.Steps != r.Steps || !sameEvents(a.Events[:len(a.Events):len(a.Events)], b.Events, r.Events) {
				t.Errorf("P4.2: %s: %v, want %v", what, b, r)
			}
			isSeen(t, what, m, see(t, whole, len(first.memory)))
			if t.Failed() {
				return
			}
		}
	}
}

// sameEvents says whether all are want, and begin with first.
func sameEvents(first, all, want []api.Event) bool {
	if len(all) != len(want) || len(first) > len(all) {
		return false
	}
	for n, e := range all {
		if e != want[n] || n < len(first) && first[n] != e {
			return false
		}
	}
	return true
}

// The same run cut into single steps.
func TestRunsStepByStep(t *testing.T) {
	source := rand.New(rand.NewSource(7))
	for n := range 100 {
		i, stack, input := someProgram(source), source.Intn(200), someInput(source)
		want, m := newModel(i, stack), load(t, i, stack)
		var all api.Result
		for k := range 150 {
			left := input[want.taken:]
			want.run(input, 1)
			r := m.Run(left, 1)
			all = api.Result{State: r.State, Code: r.Code, Events: append(all.Events, r.Events...), Steps: all.Steps + r.Steps}
			what := "program " + strconv.Itoa(n) + ", step " + strconv.Itoa(k)
			isAs(t, what, m, all, want)
			if b, e := m.Bytes(0, len(want.memory)); e != api.OK || !bytes.Equal(b, want.memory) || t.Failed() {
				t.Errorf("P4.2: %s: the memory, error %d", what, e)
				return
			}
		}
	}
}
