package machine

import (
	"solder/api"
	"solder/code"
)

// failure is thrown where a step fails: the state that it leads to.
type failure int

// mostKnown bounds what a run keeps of a text that writes itself anew again and again.
const mostKnown = 4096

// run is one Run of a machine.
type run struct {
	*Machine
	input  []uint32 // what is left of it
	events []api.Event
	steps  int
	known  map[uint32]api.Instr // words that were decoded: to decode one takes longer than all the rest of a step
}

// goOn makes at most so many steps.
func (r *run) goOn(fuel int) {
	defer func() {
		switch x := recover().(type) {
		case nil:
		case failure:
			r.state = int(x)
		default:
			panic(x)
		}
	}()
	for r.steps < fuel && r.state == api.Running {
		r.step()
		r.steps++
	}
}

// step makes one step. What fails is thrown ahead of all that it would change.
func (r *run) step() {
	w := uint32(number(r.bytes(r.place, 4)))
	r.place = r.act(r.decoded(w))
}

func (r *run) decoded(w uint32) api.Instr {
	if i, is := r.known[w]; is {
		return i
	}
	i, e := code.Decode(w)
	if e != api.OK {
		panic(failure(api.BadCode))
	}
	if len(r.known) == mostKnown {
		clear(r.known)
	}
	r.known[w] = i
	return i
}

// call does what register 17 asks for.
func (r *run) call() {
	switch r.words[callRegister] {
	case 1:
		r.events = append(r.events, api.Event{Kind: 1, Word: r.words[givenRegister]})
	case 2:
		r.put(givenRegister, r.next())
	case 3:
		r.state = api.Halted
	case 4:
		r.state = api.NoStack
	case 5:
		r.events = append(r.events, api.Event{Kind: 2, Real: r.reals[givenRegister]})
	default:
		panic(failure(api.BadCode))
	}
}

// next takes a word of the input.
func (r *run) next() uint32 {
	if len(r.input) == 0 {
		return 0
	}
	w := r.input[0]
	r.input = r.input[1:]
	return w
}
