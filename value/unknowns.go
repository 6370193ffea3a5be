package value

import (
	"slices"

	"ogham/api"
	"ogham/order"
	"ogham/table"
	"ogham/tags"
	"ogham/tlv"
)

// lastSlot is the greatest number of an addition that nobody knows.
const lastSlot = 999

// unknowns checks what nobody knows: additions, alternatives and items of later versions.
type unknowns struct {
	t api.Table
}

// additions checks the Raws of a sequence or a set, and their Rule.
func (u unknowns) additions(i int, v api.Value) bool {
	if len(v.More) == 0 {
		return v.Rule == 0
	}
	if !u.t.Types[i].More {
		return false
	}
	switch v.Rule {
	case api.Der:
		return u.elements(i, v.More)
	case api.Uper:
		return u.numbered(i, v.More)
	}
	return false
}

// elements checks Raws of DER.
func (u unknowns) elements(i int, more []api.Raw) bool {
	x := u.t.Types[i]
	known := u.begins(x.Fields)
	if x.Kind == api.Sequence {
		known = u.begins(x.Fields[tail(x):])
	}
	var last api.Tag
	for k, raw := range more {
		tag, ok := element(raw.B)
		if !ok || raw.N != 0 || slices.Contains(known, tag) {
			return false
		}
		if k > 0 && x.Kind == api.Set && !tags.Less(last, tag) {
			return false
		}
		last = tag
	}
	return true
}

// tail returns where the fields of a sequence begin among which an addition stands: the last ones that may be absent.
func tail(x api.Type) int {
	start := len(x.Fields)
	for start > 0 && loose(x, start-1) {
		start--
	}
	return start
}

// begins returns the tags with which values of the fields may begin.
func (u unknowns) begins(fields []api.Field) []api.Tag {
	var all []api.Tag
	for _, f := range fields {
		all = append(all, table.Begins(u.t, f.Type)...)
	}
	return all
}

// numbered checks Raws of PER.
func (u unknowns) numbered(i int, more []api.Raw) bool {
	least := len(order.Slots(u.t, i))
	for _, raw := range more {
		if raw.N < least || raw.N > lastSlot || !opened(raw.B) {
			return false
		}
		least = raw.N + 1
	}
	return true
}

// unknown checks an Unknown of type i.
func (u unknowns) unknown(i int, v api.Value) bool {
	x := u.t.Types[i]
	if !x.More || len(v.L) > 0 || len(v.More) > 0 {
		return false
	}
	switch x.Kind {
	case api.Choice:
		return u.alternative(i, v)
	case api.Enumerated:
		return len(v.B) == 0 && item(x, v)
	}
	return false
}

func (u unknowns) alternative(i int, v api.Value) bool {
	switch v.Rule {
	case api.Der:
		tag, ok := element(v.B)
		return ok && v.N == 0 && !slices.Contains(u.begins(u.t.Types[i].Fields), tag)
	case api.Uper:
		return ahead(v.N, len(order.Slots(u.t, i))) && opened(v.B)
	}
	return false
}

func item(x api.Type, v api.Value) bool {
	switch v.Rule {
	case api.Der:
		return !hasItem(x, v.N)
	case api.Uper:
		return ahead(v.N, len(x.Items)-x.Root)
	}
	return false
}

// ahead reports whether n is the number of an addition beyond those that are known.
func ahead(n int64, known int) bool {
	return n >= int64(known) && n <= lastSlot
}

// element returns the tag of the one element that b is.
func element(b []byte) (api.Tag, bool) {
	tag, _, length, n, e := tlv.TakeHead(b)
	return tag, e == api.OK && length == len(b)-n
}

// opened reports whether b can be the octets of an open encoding.
func opened(b []byte) bool {
	return len(b) >= 1 && len(b) <= api.MaxOctets
}
