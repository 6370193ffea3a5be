// Package plan keeps the canonical orders of the types of one table while a value is encoded or decoded, so that each is made once.
package plan

import (
	"ogham/api"
	"ogham/order"
)

// Plan is a table and the orders of its types that were asked for.
type Plan struct {
	Table  api.Table
	fields map[int][]int
	items  map[int][]int
	slots  map[int][][]int
}

// New returns the plan of a table. It keeps the table.
func New(t api.Table) *Plan {
	return &Plan{Table: t, fields: map[int][]int{}, items: map[int][]int{}, slots: map[int][][]int{}}
}

// RootFields returns the indexes of the fields up to Root of type i, in canonical order.
func (p *Plan) RootFields(i int) []int {
	l, ok := p.fields[i]
	if !ok {
		l = first(order.Fields(p.Table, i), p.Table.Types[i].Root)
		p.fields[i] = l
	}
	return l
}

// RootItems returns the indexes of the items up to Root of type i, in canonical order.
func (p *Plan) RootItems(i int) []int {
	l, ok := p.items[i]
	if !ok {
		l = first(order.Items(p.Table, i), p.Table.Types[i].Root)
		p.items[i] = l
	}
	return l
}

// Slots returns the slots of type i.
func (p *Plan) Slots(i int) [][]int {
	l, ok := p.slots[i]
	if !ok {
		l = order.Slots(p.Table, i)
		p.slots[i] = l
	}
	return l
}

// first returns the first n of l.
func first(l []int, n int) []int {
	return l[:min(max(n, 0), len(l))]
}
