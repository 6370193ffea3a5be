package table

import (
	"slices"

	"ogham/api"
	"ogham/tags"
	"ogham/wild"
)

// apart reports whether the fields of a type can be told apart by the tags with which they begin.
func (p *parts) apart(t api.Type) bool {
	if t.Kind == api.Sequence {
		return p.sequenceApart(t)
	}
	return p.distinguishable(t.Fields) && !(t.More && p.anyWild(t.Fields))
}

// sequenceApart checks each run of fields that may be absent, together with the field that ends it: what holds for the run as a whole holds for each field of it and those after it.
func (p *parts) sequenceApart(t api.Type) bool {
	loose := func(j int) bool {
		return j >= t.Root || t.Fields[j].Optional || t.Fields[j].Has
	}
	for j := 0; j < len(t.Fields); j++ {
		start := j
		for j < len(t.Fields) && loose(j) {
			j++
		}
		if start < j && !p.distinguishable(t.Fields[start:min(j+1, len(t.Fields))]) {
			return false
		}
	}
	if !t.More {
		return true
	}
	start := t.Root
	for start > 0 && loose(start-1) {
		start--
	}
	return p.distinguishable(t.Fields[start:]) && !p.anyWild(t.Fields[start:])
}

func (p *parts) distinguishable(fields []api.Field) bool {
	var sets [][]api.Tag
	for _, f := range fields {
		sets = append(sets, Begins(api.Table{Types: p.types}, f.Type))
	}
	return tags.Distinct(sets...) && (len(fields) == 1 || !p.anyWild(fields))
}

func (p *parts) anyWild(fields []api.Field) bool {
	return slices.ContainsFunc(fields, func(f api.Field) bool { return wild.Is(p.types, f.Type) })
}
