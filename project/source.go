package project

import (
	"slices"

	"ogham/api"
	"ogham/same"
)

// source is the version whose values are taken, and how many more values may be looked at.
type source struct {
	t    api.Table
	left int
}

// filled returns v with an Unknown that fits in place of each bare one, and whether that is possible: then v fits, but for its bare Unknowns, if the result does. (v has this depth.)
func (s *source) filled(i int, v api.Value, depth int) (api.Value, bool) {
	if i < 0 || i >= len(s.t.Types) || s.left == 0 || depth > api.MaxDepth+1 || len(v.More) > 0 {
		return api.Value{}, false
	}
	s.left--
	x := s.t.Types[i]
	if v.Kind == api.Unknown {
		out, ok := stranger(x)
		return out, ok && same.Values(v, api.Value{Kind: api.Unknown})
	}
	out := v
	out.L = nil
	for j, part := range v.L {
		if part.Kind != 0 {
			var ok bool
			if part, ok = s.filled(partType(x, v, j), part, depth+1); !ok {
				return api.Value{}, false
			}
		}
		out.L = append(out.L, part)
	}
	return out, true
}

// partType returns the index of the type of the part j of a value of a type, or -1.
func partType(x api.Type, v api.Value, j int) int {
	switch x.Kind {
	case api.ListOf:
		return x.Of
	case api.Choice:
		if v.N >= 0 && v.N < int64(len(x.Fields)) {
			return x.Fields[v.N].Type
		}
	case api.Sequence, api.Set:
		if j < len(x.Fields) {
			return x.Fields[j].Type
		}
	}
	return -1
}

// stranger returns an Unknown that fits a type, and whether there is one.
func stranger(x api.Type) (api.Value, bool) {
	out := api.Value{Kind: api.Unknown, Rule: api.Der}
	switch x.Kind {
	case api.Enumerated:
		out.N = free(x.Items)
	case api.Choice:
		// No type has a tag of the class 1.
		out.B = []byte{0x40, 0}
	default:
		return api.Value{}, false
	}
	return out, x.More
}

// free returns the least number from 0 on that no item has.
func free(items []api.Item) int64 {
	taken := make([]bool, len(items)+1)
	for _, x := range items {
		if x.Number >= 0 && x.Number < int64(len(taken)) {
			taken[x.Number] = true
		}
	}
	return int64(slices.Index(taken, false))
}
