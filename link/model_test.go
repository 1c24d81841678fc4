package link_test

import (
	"encoding/binary"
	"slices"
	"strings"

	"solder/api"
	"solder/code"
	"solder/link"
	"solder/obj"
)

// The chapter once more, told in another way, without the layers that package link calls but code: what is wrong is told
// by counts, each word and each four bytes are laid once, as they are at last, with their relocation looked up.

func noObject(o api.Object) bool {
	return obj.Check(o) != api.OK
}

func defines(s api.Sym) bool {
	return s.Global && s.Sect != 0
}

// wantFault is what is wrong ahead of all addresses.
func wantFault(objs []api.Object) api.Errno {
	if slices.ContainsFunc(objs, noObject) {
		return api.ErrForm
	}
	count, sect := map[string]int{}, map[string]int{}
	for _, o := range objs {
		for _, s := range o.Syms {
			if defines(s) {
				count[s.Name]++
				sect[s.Name] = s.Sect
			}
		}
	}
	for _, n := range count {
		if n > 1 {
			return api.ErrTwice
		}
	}
	for _, o := range objs {
		for _, s := range o.Syms {
			if s.Sect == 0 && count[s.Name] == 0 {
				return api.ErrNone
			}
		}
	}
	if sect["main"] != 1 {
		return api.ErrMain
	}
	return api.OK
}

// wantPlaces are where texts and data begin, and where the image ends.
func wantPlaces(objs []api.Object) (texts, data []int, end int) {
	end = 12
	for _, o := range objs {
		texts = append(texts, end)
		end += 4 * len(o.Text)
	}
	for end%8 > 0 {
		end++
	}
	for _, o := range objs {
		data = append(data, end)
		end += len(o.Data)
	}
	return texts, data, end
}

// wantAddresses are those of all symbols of one object, and of what main is.
func wantAddresses(objs []api.Object) (all [][]uint32, main uint32) {
	texts, data, _ := wantPlaces(objs)
	defined := map[string]uint32{}
	address := func(n int, s api.Sym) uint32 {
		if s.Sect == 1 {
			return uint32(texts[n] + 4*s.Value)
		}
		return uint32(data[n] + s.Value)
	}
	for n, o := range objs {
		for _, s := range o.Syms {
			if defines(s) {
				defined[s.Name] = address(n, s)
			}
		}
	}
	for n, o := range objs {
		var l []uint32
		for _, s := range o.Syms {
			if s.Sect == 0 {
				l = append(l, defined[s.Name])
			} else {
				l = append(l, address(n, s))
			}
		}
		all = append(all, l)
	}
	return all, defined["main"]
}

// layer lays an image word by word.
type layer struct {
	bytes []byte
	far   bool // was something too far?
}

// lay lays w, with what a relocation of that kind of this value makes of it; none: Kind 0.
func (l *layer) lay(w uint32, kind int, value uint32) {
	if kind != 0 {
		var e api.Errno
		w, e = wantPatched(w, kind, value, uint32(len(l.bytes)))
		l.far = l.far || e != api.OK
	}
	l.bytes = binary.LittleEndian.AppendUint32(l.bytes, w)
}

// wantPatched is w as it must be, if such an instruction is one.
func wantPatched(w uint32, kind int, value, place uint32) (uint32, api.Errno) {
	if kind == api.RWord {
		return value, api.OK
	}
	low := int(int32(value<<20) >> 20)
	i, _ := code.Decode(w)
	switch kind {
	case api.RHi:
		i.Imm = int((value - uint32(low)) >> 12)
	case api.RLoI, api.RLoS:
		i.Imm = low
	case api.RJal, api.RBranch:
		i.Imm = int(int32(value - place))
	}
	return code.Encode(i)
}

// layPart lays these words, which are of one Sect, with their relocations.
func (l *layer) layPart(words []uint32, o api.Object, sect, step int, addresses []uint32) {
	rels := map[int]api.Rel{}
	for _, r := range o.Rels {
		if r.Sect == sect {
			rels[r.At] = r
		}
	}
	for n, w := range words {
		if r, is := rels[step*n]; is {
			l.lay(w, r.Kind, addresses[r.Sym]+uint32(r.Add))
		} else {
			l.lay(w, 0, 0)
		}
	}
}

func wantAnswer(objs []api.Object) answer {
	if e := wantFault(objs); e != api.OK {
		return refused(e)
	}
	_, _, end := wantPlaces(objs)
	if end > api.MaxMemory {
		return refused(api.ErrLong)
	}
	addresses, main := wantAddresses(objs)
	l := layer{bytes: make([]byte, 0, end)}
	l.lay(0x000000ef, api.RJal, main)
	l.lay(askHalt, 0, 0)
	l.lay(doHalt, 0, 0)
	for n, o := range objs {
		l.layPart(o.Text, o, 1, 1, addresses[n])
	}
	if len(l.bytes)%8 == 4 {
		l.lay(0, 0, 0)
	}
	for n, o := range objs {
		var words []uint32
		for four := range slices.Chunk(o.Data, 4) {
			words = append(words, binary.LittleEndian.Uint32(four))
		}
		l.layPart(words, o, 2, 4, addresses[n])
	}
	if l.far {
		return refused(api.ErrFar)
	}
	return linked(l.bytes, wantNames(objs, addresses)...)
}

func wantNames(objs []api.Object, addresses [][]uint32) []link.Named {
	var l []link.Named
	for n, o := range objs {
		for m, s := range o.Syms {
			if defines(s) {
				l = append(l, link.Named{Name: s.Name, Address: addresses[n][m], Frame: s.Frame})
			}
		}
	}
	slices.SortFunc(l, func(a, b link.Named) int { return strings.Compare(a.Name, b.Name) })
	return l
}
