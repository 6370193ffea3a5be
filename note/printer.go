package note

import (
	"ogham/api"
	"ogham/print"
)

// printer writes a bare value that fits its type, up to the limit of a text.
type printer struct {
	t    api.Table
	text []byte
	full bool
}

func (p *printer) put(parts ...string) {
	for _, s := range parts {
		if p.full || len(s) > api.MaxText-len(p.text) {
			p.full = true
			return
		}
		p.text = append(p.text, s...)
	}
}

func (p *printer) value(i int, v api.Value) {
	if p.full {
		return
	}
	x := p.t.Types[i]
	switch x.Kind {
	case api.Enumerated:
		p.put(itemName(x, v.N))
	case api.ListOf:
		p.braced(len(v.L), func(j int) bool { return true }, func(j int) { p.value(x.Of, v.L[j]) })
	case api.Choice:
		f := x.Fields[v.N]
		p.put(f.Name, " : ")
		p.value(f.Type, v.L[0])
	case api.Sequence, api.Set:
		p.braced(len(v.L), func(j int) bool { return v.L[j].Kind != 0 }, func(j int) {
			p.put(x.Fields[j].Name, " ")
			p.value(x.Fields[j].Type, v.L[j])
		})
	default:
		p.put(print.Value(v))
	}
}

// itemName returns the name of the item with this number.
func itemName(x api.Type, number int64) string {
	for _, item := range x.Items {
		if item.Number == number {
			return item.Name
		}
	}
	return ""
}

// braced writes those of n parts that are there, each by one, within braces.
func (p *printer) braced(n int, there func(j int) bool, one func(j int)) {
	before, behind := "{ ", "{}"
	for j := 0; j < n && !p.full; j++ {
		if there(j) {
			p.put(before)
			one(j)
			before, behind = ", ", " }"
		}
	}
	p.put(behind)
}
