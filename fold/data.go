package fold

import (
	"strings"

	"solder/api"
	"solder/trees"
)

const (
	wordBytes = 4 // a pointer's, too
	realBytes = 8
	line      = 8 // a variable's bytes go on to a multiple of it
	byteBits  = 8
)

// data answers the bytes of all variables that m defines, or throws.
func data(m api.Module) []api.Datum {
	var all []api.Datum
	for _, d := range m.Decls {
		if !d.Func && !d.Extern {
			all = append(all, datum(m, d))
		}
	}
	return all
}

func datum(m api.Module, d api.Decl) api.Datum {
	// Of a module that wasn't checked nothing is promised, but that the call ends: its Len may be any, and so many Inits.
	demand(d.Len <= api.MaxArray, d.At)
	size, count := sizeOf(d.Type), elements(d)
	x := api.Datum{Name: strings.Clone(d.Name), Static: d.Static, Bytes: make([]byte, toLine(size*count))}
	for n, from := range d.Inits {
		c := constant(m, from)
		demand(n < count, from.At)
		at := n * size
		// Of a pointer both are 0, as its bytes are.
		put(x.Bytes[at:at+size], uint64(c.Word)|c.Bits)
		if c.Name != "" {
			x.Refs = append(x.Refs, api.Ref{At: at, Name: c.Name, Add: c.Off * sizeOf(trees.Pointed(c.Type))})
		}
	}
	return x
}

// sizeOf is how many bytes an element takes.
func sizeOf(typed int) int {
	if typed == api.Real {
		return realBytes
	}
	return wordBytes
}

// toLine is the next multiple of a line.
func toLine(n int) int {
	return (n + line - 1) / line * line
}

// put lays as many of the lowest bytes of v as there is room for, the lowest first.
func put(room []byte, v uint64) {
	for n := range room {
		room[n] = byte(v >> (n * byteBits))
	}
}
