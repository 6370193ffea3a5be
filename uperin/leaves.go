package uperin

import (
	"math"

	"ogham/api"
	"ogham/bounds"
	"ogham/length"
	"ogham/octets"
)

const (
	sizeEnd  = 65536 // the first upper bound with which a size has a length determinant
	lastSlot = 999   // the greatest number of an addition
)

// take reads octets with a length determinant.
func (d *decoder) take(most int) []byte {
	return length.Take(d.Reader, most)
}

// beyond reads whether a value or a length is not within a constraint.
func (d *decoder) beyond(c api.Con) bool {
	return c.More && d.Bit() == 1
}

func (d *decoder) integer(c api.Con) (int64, bool) {
	beyond := d.beyond(c)
	span, both := bounds.Span(c)
	switch {
	case !beyond && both:
		return int64(uint64(c.Low) + d.Between(span)), true
	case !beyond && c.Has && c.HasLow && !c.HasHigh:
		u, e := octets.TakeUnsigned(d.take(8))
		if e != api.OK || u > uint64(math.MaxInt64)-uint64(c.Low) {
			return 0, false
		}
		return int64(uint64(c.Low) + u), true
	}
	n, e := octets.TakeSigned(d.take(8))
	return n, e == api.OK && bounds.Within(c, n) != beyond
}

func (d *decoder) enumerated(i int, v *api.Value) bool {
	x := d.Table.Types[i]
	root := d.RootItems(i)
	if x.More && d.Bit() == 1 {
		n := d.Small()
		if more := x.Items[len(root):]; n < len(more) {
			v.N = more[n].Number
			return true
		}
		v.Kind, v.Rule, v.N = api.Unknown, api.Uper, int64(n)
		return n <= lastSlot
	}
	j, ok := d.root(root)
	if ok {
		v.N = x.Items[j].Number
	}
	return ok
}

// root reads which of the Root fields or items it is.
func (d *decoder) root(root []int) (int, bool) {
	if len(root) == 0 {
		return 0, false
	}
	at := d.Between(uint64(len(root) - 1))
	return root[at], d.sound()
}

// size reads what a constraint says of a length ahead of it: whether it is beyond, and the length, or -1 if a length determinant follows.
func (d *decoder) size(c api.Con) (bool, int) {
	beyond := d.beyond(c)
	span, both := bounds.Span(c)
	if beyond || !both || c.High >= sizeEnd {
		return beyond, -1
	}
	return false, int(uint64(c.Low) + d.Between(span))
}

func (d *decoder) octets(c api.Con) ([]byte, bool) {
	beyond, n := d.size(c)
	if n >= 0 {
		return d.Octets(n), true
	}
	b := d.take(api.MaxOctets)
	return b, bounds.Within(c, int64(len(b))) != beyond
}
