package uperin

import (
	"ogham/api"
	"ogham/bounds"
	"ogham/length"
	"ogham/whole"
)

const (
	slotsEnd = 64   // the greatest number of slots that is stated in six bits
	slotsMax = 1000 // the greatest number of slots
)

func (d *decoder) list(x api.Type, v *api.Value, depth int) bool {
	one := func(*whole.Reader, int) bool {
		e, ok := d.value(x.Of, depth+1)
		v.L = append(v.L, e)
		return ok
	}
	beyond, n := d.size(x.Con)
	if n < 0 {
		n = length.TakeMany(d.Reader, api.MaxItems, one)
		return n == len(v.L) && bounds.Within(x.Con, int64(n)) != beyond
	}
	for j := range n {
		if !one(d.Reader, j) {
			return false
		}
	}
	return true
}

func (d *decoder) choice(i int, v *api.Value, depth int) bool {
	x := d.Table.Types[i]
	root := d.RootFields(i)
	if x.More && d.Bit() == 1 {
		n := d.Small()
		b := d.take(api.MaxOctets)
		if !d.sound() {
			return false
		}
		j := len(root) + n
		if j >= len(x.Fields) {
			v.Kind, v.Rule, v.N, v.B = api.Unknown, api.Uper, int64(n), b
			return n <= lastSlot
		}
		inner, ok := d.whole(b, x.Fields[j].Type, depth+1)
		v.N, v.L = int64(j), []api.Value{inner}
		return ok
	}
	j, ok := d.root(root)
	if !ok {
		return false
	}
	inner, ok := d.value(x.Fields[j].Type, depth+1)
	v.N, v.L = int64(j), []api.Value{inner}
	return ok
}

// fields reads a sequence or a set.
func (d *decoder) fields(i int, v *api.Value, depth int) bool {
	x := d.Table.Types[i]
	if len(x.Fields) > *d.left {
		return false
	}
	v.L = make([]api.Value, len(x.Fields))
	more := x.More && d.Bit() == 1
	if _, ok := d.known(x, v, d.RootFields(i), depth); !ok {
		return false
	}
	if more && !d.additions(i, v, depth) {
		return false
	}
	absent := 0
	for _, part := range v.L {
		if part.Kind == 0 {
			absent++
		}
	}
	return d.spend(absent)
}

// known reads which of these fields are present, as far as they may be absent, and the values of those that are; it returns how many those are.
func (d *decoder) known(x api.Type, v *api.Value, fields []int, depth int) (int, bool) {
	var present []int
	for _, j := range fields {
		if !x.Fields[j].Optional && !x.Fields[j].Has || d.Bit() == 1 {
			present = append(present, j)
		}
	}
	for _, j := range present {
		var ok bool
		if v.L[j], ok = d.value(x.Fields[j].Type, depth+1); !ok {
			return 0, false
		}
	}
	return len(present), true
}

// additions reads the slots, of which at least one is present.
func (d *decoder) additions(i int, v *api.Value, depth int) bool {
	var present []int
	bit := func(_ *whole.Reader, s int) bool {
		if d.Bit() == 1 {
			present = append(present, s)
		}
		return true
	}
	if d.Bit() == 0 {
		n := int(d.Bits(6)) + 1
		for s := range n {
			bit(nil, s)
		}
	} else if length.TakeMany(d.Reader, slotsMax, bit) <= slotsEnd {
		return false
	}
	for _, s := range present {
		if b := d.take(api.MaxOctets); !d.sound() || !d.slot(i, s, b, v, depth) {
			return false
		}
	}
	return len(present) > 0
}

// slot reads a slot that is present, from its octets.
func (d *decoder) slot(i, s int, b []byte, v *api.Value, depth int) bool {
	x := d.Table.Types[i]
	slots := d.Slots(i)
	if s >= len(slots) {
		v.Rule, v.More = api.Uper, append(v.More, api.Raw{N: s, B: b})
		return len(b) > 0
	}
	var ok bool
	if j := slots[s][0]; x.Fields[j].Group == 0 {
		v.L[j], ok = d.whole(b, x.Fields[j].Type, depth+1)
		return ok
	}
	inner := d.inside(b)
	n, ok := inner.known(x, v, slots[s], depth)
	return ok && n > 0 && len(b) > 0 && inner.End() == api.OK
}
