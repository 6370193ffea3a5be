package uper

import (
	"slices"

	"ogham/api"
	"ogham/length"
	"ogham/whole"
)

// fields appends a sequence or a set.
func (e *encoder) fields(i int, v api.Value) {
	x := e.Table.Types[i]
	additions := e.additions(i, v)
	if x.More {
		e.flag(len(additions) > 0)
	}
	e.known(x, v, e.RootFields(i))
	if len(additions) == 0 {
		return
	}
	bit := func(_ *whole.Writer, s int) { e.flag(additions[s] != nil) }
	if n := len(additions); n <= slotsEnd {
		e.Bit(0)
		e.Bits(uint64(n-1), 6)
		for s := range n {
			bit(nil, s)
		}
	} else {
		e.Bit(1)
		length.PutMany(&e.Writer, n, bit)
	}
	for _, put := range additions {
		if put != nil && !e.full() {
			put()
		}
	}
}

// known appends which of these fields are present, as far as they may be absent, and the values of those that are.
func (e *encoder) known(x api.Type, v api.Value, fields []int) {
	for _, j := range fields {
		if x.Fields[j].Optional || x.Fields[j].Has {
			e.flag(v.L[j].Kind != 0)
		}
	}
	for _, j := range fields {
		if v.L[j].Kind != 0 {
			e.value(x.Fields[j].Type, v.L[j])
		}
	}
}

// additions returns for each slot how it is appended, or nil if nothing of it is present; and no slots if nothing of any is.
func (e *encoder) additions(i int, v api.Value) []func() {
	x := e.Table.Types[i]
	slots := e.Slots(i)
	n := len(slots)
	if len(v.More) > 0 {
		n = v.More[len(v.More)-1].N + 1
	}
	puts := make([]func(), n)
	some := len(v.More) > 0
	for s, slot := range slots {
		if slices.ContainsFunc(slot, func(j int) bool { return v.L[j].Kind != 0 }) {
			some = true
			puts[s] = func() { e.slot(x, v, slot) }
		}
	}
	for _, raw := range v.More {
		puts[raw.N] = func() { length.Put(&e.Writer, raw.B) }
	}
	if !some {
		return nil
	}
	return puts
}

// slot appends the open encoding of a slot that is present.
func (e *encoder) slot(x api.Type, v api.Value, slot []int) {
	e.open(func(inner *encoder) {
		if j := slot[0]; x.Fields[j].Group == 0 {
			inner.value(x.Fields[j].Type, v.L[j])
		} else {
			inner.known(x, v, slot)
		}
	})
}
