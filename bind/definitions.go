package bind

import (
	"solder/api"
	"solder/trees"
)

// definitions leads each shared name that is defined to how it is.
type definitions map[string]api.Decl

func (l definitions) has(name string) bool {
	_, defined := l[name]
	return defined
}

// add makes known what a part defines, and tells whether none of that was known.
func (l definitions) add(p part) bool {
	for _, d := range p.shared {
		if !trees.Defines(d) {
			continue
		}
		if l.has(d.Name) {
			return false
		}
		l[d.Name] = d
	}
	return true
}

// agree tells whether each Decl that a part shares agrees with the definition, if there is one.
func (l definitions) agree(p part) bool {
	for _, d := range p.shared {
		if defined, is := l[d.Name]; is && !trees.Agree(defined, d) {
			return false
		}
	}
	return true
}

// serve tells whether all shared names that a part uses are defined.
func (l definitions) serve(p part) bool {
	for name := range p.uses {
		if !l.has(name) {
			return false
		}
	}
	return true
}
