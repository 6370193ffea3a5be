package tags_test

import (
	"math"
	"slices"
	"testing"

	"ogham/api"
	"ogham/tags"
)

func universal(n int) api.Tag { return api.Tag{Number: n} }
func context(n int) api.Tag   { return api.Tag{Class: 2, Number: n} }

func TestUniversal(t *testing.T) {
	want := []int{0, 1, 2, 10, 5, 4, 12, 16, 17, 0, 16, 0, 0}
	for kind, n := range want {
		if got := tags.Universal(kind); got != universal(n) {
			t.Errorf("P9.1: Universal(%d): %v", kind, got)
		}
	}
	for _, kind := range []int{-1, 13, math.MaxInt, math.MinInt} {
		if got := tags.Universal(kind); got != (api.Tag{}) {
			t.Errorf("P9.1: Universal(%d): %v", kind, got)
		}
	}
}

func TestLess(t *testing.T) {
	ordered := []api.Tag{{Class: -1, Number: 9}, universal(0), universal(1), universal(31), {Class: 1, Number: 5}, context(-2), context(0), context(7), {Class: 3}}
	for i, a := range ordered {
		for k, b := range ordered {
			if tags.Less(a, b) != (i < k) {
				t.Errorf("P9.1: Less(%v, %v)", a, b)
			}
		}
	}
}

func TestWrap(t *testing.T) {
	two := []api.Tag{context(1), universal(2)}
	for _, x := range []struct {
		tags   []api.Tag
		number int
		mode   int
		want   []api.Tag
		e      api.Errno
	}{
		{two[1:], 3, api.Implicit, []api.Tag{context(3)}, api.OK},
		{two[1:], 3, api.Explicit, []api.Tag{context(3), universal(2)}, api.OK},
		{two, 0, api.Implicit, []api.Tag{context(0), universal(2)}, api.OK},
		{two, api.MaxTag, api.Explicit, []api.Tag{context(api.MaxTag), context(1), universal(2)}, api.OK},
		{two, 3, api.Automatic, []api.Tag{context(3), context(1), universal(2)}, api.OK},
		{two, 3, -7, []api.Tag{context(3), context(1), universal(2)}, api.OK},
		{nil, 3, api.Explicit, []api.Tag{context(3)}, api.OK},
		{nil, 3, api.Implicit, nil, api.ErrTag},
		{two, -1, api.Explicit, nil, api.ErrTag},
		{two, api.MaxTag + 1, api.Implicit, nil, api.ErrTag},
		{nil, -1, api.Implicit, nil, api.ErrTag},
	} {
		got, e := tags.Wrap(x.tags, x.number, x.mode)
		if !slices.Equal(got, x.want) || e != x.e {
			t.Errorf("P9.2: Wrap(%v, %d, %d): %v, error %d", x.tags, x.number, x.mode, got, e)
		}
		if len(got) > 0 {
			got[len(got)-1].Number = 99
		}
	}
	if two[0] != context(1) || two[1] != universal(2) {
		t.Error("R3: the tags are turned, or part of the answer")
	}
}

func TestDistinct(t *testing.T) {
	a, b, c := universal(1), universal(2), context(1)
	for i, x := range []struct {
		sets [][]api.Tag
		want bool
	}{
		{nil, true},
		{[][]api.Tag{nil, {}}, true},
		{[][]api.Tag{{a, b}, {c}}, true},
		{[][]api.Tag{{a}, {b}, {c}}, true},
		{[][]api.Tag{{a}, {b}, {a}}, false},
		{[][]api.Tag{{a, b, a}}, false},
		{[][]api.Tag{{c, b}, {a}, {b, c}}, false},
		{[][]api.Tag{{a}, {}, {a}}, false},
	} {
		if tags.Distinct(x.sets...) != x.want {
			t.Errorf("P9.2: row %d: Distinct", i)
		}
	}
	set := []api.Tag{c, b, a}
	tags.Distinct(set)
	if !slices.Equal(set, []api.Tag{c, b, a}) {
		t.Error("R3: a set is sorted")
	}
}
