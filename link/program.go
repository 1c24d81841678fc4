package link

import (
	"solder/api"
	"solder/code"
	"solder/layout"
	"solder/patch"
	"solder/resolve"
)

// What the start does: it calls main, and then halts with the code that main has left.
const (
	startAddress = 0
	back         = 1  // the register by which main comes back
	asked        = 17 // the register that tells what an ECALL does
	halt         = 3  // there
)

const (
	wordBytes = 4
	byteBits  = 8
)

// failure is thrown where something is too far away.
type failure api.Errno

// program is objects with what is found of them, and the bytes of their image.
type program struct {
	objs    []api.Object
	main    resolve.Target
	targets [][]resolve.Target // by objects and their symbols
	places  []layout.Place     // by objects
	bytes   []byte
}

// linked answers objs with their image; beside an error nothing.
func linked(objs []api.Object) (p program, e api.Errno) {
	defer func() {
		switch x := recover().(type) {
		case nil:
		case failure:
			p, e = program{}, api.Errno(x)
		default:
			panic(x)
		}
	}()
	p, e = found(objs)
	if e == api.OK {
		p.lay()
		p.relocate()
	}
	return p, e
}

// found answers objs with all that is found of them, and bytes that are 0 still; beside an error nothing.
func found(objs []api.Object) (program, api.Errno) {
	main, e := resolve.Main(objs)
	if e != api.OK {
		return program{}, e
	}
	// No error can come here: it would have been Main's.
	targets, _, _ := resolve.Resolve(objs)
	places, size, e := layout.Layout(objs)
	if e != api.OK {
		return program{}, e
	}
	return program{objs, main, targets, places, make([]byte, size)}, api.OK
}

// lay puts the start, the texts and the data where they stand, as they are without relocations.
func (p *program) lay() {
	p.putWords(startAddress, start())
	for n, o := range p.objs {
		p.putWords(p.places[n].Text, o.Text)
		copy(p.bytes[p.places[n].Data:], o.Data)
	}
}

// relocate carries out all relocations, and the start's jump as if it were one.
func (p *program) relocate() {
	p.patch(api.RJal, p.address(p.main), startAddress)
	for n, o := range p.objs {
		for _, r := range o.Rels {
			// The Add is one from -2^31 on: as a word it is the same by its lowest bits.
			value := p.address(p.targets[n][r.Sym]) + uint32(r.Add)
			p.patch(r.Kind, value, layout.Where(p.places[n], r))
		}
	}
}

// patch makes the word at place what a relocation of this kind makes of it, or throws a failure.
func (p *program) patch(kind int, value, place uint32) {
	w, e := patch.Patch(kind, p.word(place), value, place)
	if e != api.OK {
		panic(failure(e))
	}
	p.putWords(int(place), []uint32{w})
}

// address answers where what t tells of stands.
func (p *program) address(t resolve.Target) uint32 {
	return layout.Address(p.places[t.Obj], p.objs[t.Obj].Syms[t.Sym])
}

// word answers the word at an address.
func (p *program) word(at uint32) uint32 {
	var w uint32
	for n, b := range p.bytes[at : at+wordBytes] {
		w |= uint32(b) << (n * byteBits)
	}
	return w
}

// putWords puts words one behind the other from an address on.
func (p *program) putWords(at int, words []uint32) {
	for _, w := range words {
		for n := range wordBytes {
			p.bytes[at+n] = byte(w >> (n * byteBits))
		}
		at += wordBytes
	}
}

// start answers the words ahead of all objects; where main is, is patched into the first.
func start() []uint32 {
	var words []uint32
	for _, i := range []api.Instr{
		{Op: api.JAL, Rd: back},
		{Op: api.ADDI, Rd: asked, Imm: halt},
		{Op: api.ECALL},
	} {
		// No error can come: these are instructions.
		w, _ := code.Encode(i)
		words = append(words, w)
	}
	return words
}
