package value

import (
	"slices"
	"unicode/utf8"

	"ogham/api"
	"ogham/bounds"
	"ogham/same"
)

// checker checks values, whose depth and number have been checked.
type checker struct {
	leaves
	unknowns
}

// fits reports whether v, which is not absent, fits type i.
func (c checker) fits(i int, v api.Value) bool {
	if i < 0 || i >= len(c.t.Types) {
		return false
	}
	x := c.t.Types[i]
	if v.Kind == api.Unknown {
		return c.unknown(i, v)
	}
	if v.Kind != x.Kind || !named(v) {
		return false
	}
	switch x.Kind {
	case api.Boolean, api.Integer, api.Null, api.Octets, api.Text, api.Enumerated:
		return c.leaf(x, v)
	case api.ListOf:
		return c.list(x, v)
	case api.Choice:
		return v.N >= 0 && v.N < int64(len(x.Fields)) && len(v.L) == 1 && c.fits(x.Fields[v.N].Type, v.L[0])
	case api.Sequence, api.Set:
		return c.fields(x, v) && c.additions(i, v)
	}
	return false
}

// named reports whether only those parts of a value are not zero that belong to its kind.
func named(v api.Value) bool {
	n, b, l, more := v.N == 0, len(v.B) == 0, len(v.L) == 0, v.Rule == 0 && len(v.More) == 0
	switch v.Kind {
	case api.Boolean, api.Integer, api.Enumerated:
		return b && l && more
	case api.Octets, api.Text:
		return n && l && more
	case api.ListOf:
		return n && b && more
	case api.Choice:
		return b && more
	case api.Sequence, api.Set:
		return n && b
	}
	return n && b && l && more
}

func (c checker) list(x api.Type, v api.Value) bool {
	if !sized(x.Con, len(v.L)) {
		return false
	}
	return !slices.ContainsFunc(v.L, func(e api.Value) bool { return !c.fits(x.Of, e) })
}

// fields checks the fields of a sequence or a set.
func (c checker) fields(x api.Type, v api.Value) bool {
	if len(v.L) != len(x.Fields) {
		return false
	}
	for j, f := range x.Fields {
		if absent(v.L[j]) {
			if !loose(x, j) || demanded(x, v, j) {
				return false
			}
			continue
		}
		if !c.fits(f.Type, v.L[j]) || f.Has && same.Values(v.L[j], f.Default) {
			return false
		}
	}
	return true
}

// absent reports whether the value of a field is none.
func absent(v api.Value) bool {
	return v.Kind == 0 && named(v)
}

// loose reports whether a field may be absent by itself.
func loose(x api.Type, j int) bool {
	return j >= x.Root || mayMiss(x.Fields[j])
}

func mayMiss(f api.Field) bool {
	return f.Optional || f.Has
}

// demanded reports whether an absent field has to be there because another one of its version bracket is.
func demanded(x api.Type, v api.Value, j int) bool {
	f := x.Fields[j]
	if f.Group == 0 || mayMiss(f) {
		return false
	}
	for k, other := range x.Fields {
		if other.Group == f.Group && !absent(v.L[k]) {
			return true
		}
	}
	return false
}

// leaves checks the values that consist of no others.
type leaves struct{}

func (leaves) leaf(x api.Type, v api.Value) bool {
	switch x.Kind {
	case api.Boolean:
		return v.N == 0 || v.N == 1
	case api.Integer:
		return x.Con.More || bounds.Within(x.Con, v.N)
	case api.Enumerated:
		return hasItem(x, v.N)
	case api.Octets:
		return len(v.B) <= api.MaxOctets && sized(x.Con, len(v.B))
	case api.Text:
		return len(v.B) <= api.MaxOctets && sized(x.Con, len(v.B)) && utf8.Valid(v.B)
	}
	return true
}

// sized reports whether a length is one that a constraint permits.
func sized(c api.Con, n int) bool {
	return c.More || bounds.Within(c, int64(n))
}

func hasItem(x api.Type, number int64) bool {
	return slices.ContainsFunc(x.Items, func(i api.Item) bool { return i.Number == number })
}
