package bounds_test

import (
	"math"
	"testing"

	"ogham/api"
	"ogham/bounds"
)

// con is a constraint with the bounds that are not nil.
func con(low, high any) api.Con {
	c := api.Con{Has: true}
	if v, ok := low.(int); ok {
		c.HasLow, c.Low = true, int64(v)
	}
	if v, ok := high.(int); ok {
		c.HasHigh, c.High = true, int64(v)
	}
	return c
}

func TestCheck(t *testing.T) {
	for i, x := range []struct {
		c     api.Con
		value api.Errno
		size  api.Errno
	}{
		{api.Con{}, api.OK, api.OK},
		{api.Con{HasLow: true, HasHigh: true, Low: 5, High: -3, More: true}, api.OK, api.OK},
		{con(nil, nil), api.OK, api.ErrBound},
		{con(nil, 5), api.OK, api.ErrBound},
		{con(0, nil), api.OK, api.OK},
		{con(0, 0), api.OK, api.OK},
		{con(3, 2), api.ErrBound, api.ErrBound},
		{con(math.MaxInt64, math.MinInt64), api.ErrBound, api.ErrBound},
		{con(math.MinInt64, math.MaxInt64), api.OK, api.ErrBound},
		{con(-1, nil), api.OK, api.ErrBound},
		{con(-1, 5), api.OK, api.ErrBound},
		{con(-5, -1), api.OK, api.ErrBound},
		{con(0, api.MaxOctets), api.OK, api.OK},
		{con(0, api.MaxOctets+1), api.OK, api.ErrBound},
		{con(api.MaxOctets, nil), api.OK, api.OK},
		{con(api.MaxOctets+1, nil), api.OK, api.ErrBound},
	} {
		if e := bounds.Check(x.c, false); e != x.value {
			t.Errorf("P8.1: row %d: error %d of a value", i, e)
		}
		if e := bounds.Check(x.c, true); e != x.size {
			t.Errorf("P8.1: row %d: error %d of a size", i, e)
		}
		x.c.More = true
		if e := bounds.Check(x.c, true); e != x.size {
			t.Errorf("P8.1: row %d: error %d of a size with More", i, e)
		}
	}
	// A bound that is not present has no say, whatever it is.
	c := con(5, nil)
	c.High = -9
	if bounds.Check(c, true) != api.OK || !bounds.Within(c, 6) {
		t.Error("P8.1: an upper bound that is not present")
	}
}

func TestWithin(t *testing.T) {
	for i, x := range []struct {
		c    api.Con
		v    int64
		want bool
	}{
		{con(5, nil), 4, false}, {con(5, nil), 5, true}, {con(5, nil), math.MaxInt64, true},
		{con(nil, 5), 6, false}, {con(nil, 5), 5, true}, {con(nil, 5), math.MinInt64, true},
		{con(-2, 3), -3, false}, {con(-2, 3), -2, true}, {con(-2, 3), 3, true}, {con(-2, 3), 4, false},
		{con(3, -2), 0, false},
		{con(nil, nil), math.MinInt64, true},
		{api.Con{}, 9, true},
		{api.Con{HasLow: true, HasHigh: true, Low: 1, High: 2}, 9, true},
	} {
		if bounds.Within(x.c, x.v) != x.want {
			t.Errorf("P8.1: row %d: Within of %d", i, x.v)
		}
	}
	c := con(5, 7)
	c.More = true
	if bounds.Within(c, 8) {
		t.Error("P8.1: More has a say in Within")
	}
}

func TestSpan(t *testing.T) {
	for i, x := range []struct {
		c    api.Con
		want uint64
		ok   bool
	}{
		{con(0, 7), 7, true}, {con(-3, 4), 7, true}, {con(5, 5), 0, true},
		{con(math.MinInt64, math.MaxInt64), math.MaxUint64, true}, {con(-1, math.MaxInt64), 1 << 63, true},
		{con(0, nil), 0, false}, {con(nil, 7), 0, false}, {con(nil, nil), 0, false}, {con(7, 6), 0, false},
		{api.Con{}, 0, false}, {api.Con{HasLow: true, HasHigh: true, High: 5}, 0, false},
	} {
		if got, ok := bounds.Span(x.c); got != x.want || ok != x.ok {
			t.Errorf("P8.2: row %d: Span: %d, %v", i, got, ok)
		}
	}
}

func TestWidth(t *testing.T) {
	for n, want := range map[uint64]int{0: 0, 1: 1, 2: 2, 3: 2, 4: 3, 7: 3, 8: 4, 255: 8, 256: 9, 1<<63 - 1: 63, 1 << 63: 64, math.MaxUint64: 64} {
		if got := bounds.Width(n); got != want {
			t.Errorf("P8.2: Width(%d): %d", n, got)
		}
	}
}

func TestDifferenceHasTheWidth(t *testing.T) {
	for low := -20; low < 20; low++ {
		for high := low; high < 40; high++ {
			span, _ := bounds.Span(con(low, high))
			for v := low; v <= high; v++ {
				if bounds.Width(uint64(v-low)) > bounds.Width(span) {
					t.Fatalf("consequence: %d in %d..%d", v, low, high)
				}
			}
		}
	}
}
