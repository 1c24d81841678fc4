package obj

import (
	"math"

	"solder/api"
	"solder/rels"
)

// Where a symbol is defined, and what a relocation patches.
const (
	elsewhere = 0
	inText    = 1
	inData    = 2
)

const (
	dataStep  = 8       // the data's length is a multiple of it
	wordBytes = 4       // a word that stands in the data
	frameStep = 16      // a Frame is a multiple of it
	mostFrame = 1 << 20 // and no more than this
)

// check throws a flaw, if o is no object.
func check(o api.Object) {
	// How many there are comes first: what is far too much is refused without a look at all of it.
	demand(len(o.Text) <= api.MaxWords && len(o.Data) <= api.MaxData && len(o.Data)%dataStep == 0)
	demand(len(o.Syms) <= api.MaxSyms && len(o.Rels) <= api.MaxRels)
	names := map[string]struct{}{}
	for _, s := range o.Syms {
		_, twice := names[s.Name]
		demand(!twice && isSymbol(o, s))
		names[s.Name] = struct{}{}
	}
	for n, r := range o.Rels {
		demand((n == 0 || rise(o.Rels[n-1], r)) && isRelocation(o, r))
	}
}

// isSymbol tells whether s is one of o, but for the names of the others.
func isSymbol(o api.Object, s api.Sym) bool {
	if !Name(s.Name) {
		return false
	}
	switch s.Sect {
	case elsewhere:
		return s.Value == 0 && s.Frame == 0 && s.Global
	case inText:
		return isFromTo(s.Value, 0, len(o.Text)) && isFromTo(s.Frame, 0, mostFrame) && s.Frame%frameStep == 0
	case inData:
		return isFromTo(s.Value, 0, len(o.Data)) && s.Frame == 0
	}
	return false
}

// isRelocation tells whether r is one of o, but for its order among the others.
func isRelocation(o api.Object, r api.Rel) bool {
	if !isFromTo(r.Sym, 0, len(o.Syms)-1) || !isFromTo(r.Add, math.MinInt32, math.MaxInt32) {
		return false
	}
	switch r.Sect {
	case inText:
		return isFromTo(r.At, 0, len(o.Text)-1) && isPatched(r.Kind, o.Text[r.At])
	case inData:
		return r.Kind == api.RWord && isFromTo(r.At, 0, len(o.Data)-wordBytes) && r.At%wordBytes == 0
	}
	return false
}

// rise tells whether a stands ahead of b, and not at the same place.
func rise(a, b api.Rel) bool {
	return a.Sect < b.Sect || a.Sect == b.Sect && a.At < b.At
}

// isPatched tells whether a relocation of this kind may be at the word w of a text.
func isPatched(kind int, w uint32) bool {
	_, is := rels.At(kind, w)
	return is
}

func isFromTo(n, least, most int) bool {
	return least <= n && n <= most
}
