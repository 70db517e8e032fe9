// Package origin tells which of a writer's fields a reader's field comes from.
package origin

import (
	"slices"

	"proclitic/api"
)

// Field tells where in the writer's record w the field of f's name stands, or else of the first of its aliases that w has.
func Field(w api.AType, f api.AField) (int, bool) {
	if i := named(w, f.Name); i >= 0 {
		return i, true
	}
	for _, alias := range f.Aliases {
		if i := named(w, alias); i >= 0 {
			return i, true
		}
	}
	return 0, false
}

func named(w api.AType, name string) int {
	return slices.IndexFunc(w.Fields, func(f api.AField) bool { return f.Name == name })
}
