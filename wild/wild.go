// Package wild tells which types a value may begin with any tag of.
package wild

import (
	"slices"

	"ogham/api"
)

// Is reports whether a value of type i may begin with any tag: whether it is a Choice without tags that may be extended, or has a field that is wild.
func Is(types []api.Type, i int) bool {
	w := walker{types: types, left: api.MaxNodes}
	return w.wild(i)
}

// walker looks at no more types than a table can have.
type walker struct {
	types []api.Type
	left  int
}

func (w *walker) wild(i int) bool {
	if i < 0 || i >= len(w.types) || w.left == 0 {
		return false
	}
	w.left--
	t := w.types[i]
	if t.Kind != api.Choice || len(t.Tags) > 0 {
		return false
	}
	return t.More || slices.ContainsFunc(t.Fields, func(f api.Field) bool { return w.wild(f.Type) })
}
