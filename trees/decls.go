package trees

import (
	"slices"

	"solder/api"
)

// Defines tells whether a Decl is a definition.
func Defines(d api.Decl) bool {
	if d.Func {
		return d.Has
	}
	return !d.Extern
}

// Agree tells whether two Decls of one name do.
func Agree(a, b api.Decl) bool {
	return a.Func == b.Func && a.Type == b.Type && a.Len == b.Len && a.Static == b.Static && slices.EqualFunc(a.Params, b.Params, sameType)
}

func sameType(a, b api.Param) bool {
	return a.Type == b.Type
}
