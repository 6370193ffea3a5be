package plan_test

import (
	"reflect"
	"slices"
	"testing"

	"ogham/api"
	"ogham/plan"
)

func TestPlan(t *testing.T) {
	tag := func(n int) []api.Tag { return []api.Tag{{Class: 2, Number: n}} }
	p := plan.New(api.Table{Types: []api.Type{
		{Kind: api.Set, Root: 2, More: true, Fields: []api.Field{{Type: 2}, {Type: 1}, {Type: 3, Group: 1}, {Type: 4, Group: 1}}},
		{Kind: api.Null, Tags: tag(1)}, {Kind: api.Null, Tags: tag(2)}, {Kind: api.Null, Tags: tag(0)}, {Kind: api.Null, Tags: tag(3)},
		{Kind: api.Enumerated, Root: 2, Items: []api.Item{{Number: 5}, {Number: 3}, {Number: 9}}},
		{Kind: api.Enumerated, Root: 7, Items: []api.Item{{Number: 5}}},
		{Kind: api.Set, Root: -7, Fields: []api.Field{{Type: 1}}},
	}})
	for range 2 {
		if !slices.Equal(p.RootFields(0), []int{1, 0}) || !slices.Equal(p.RootItems(5), []int{1, 0}) || !reflect.DeepEqual(p.Slots(0), [][]int{{2, 3}}) {
			t.Errorf("%v %v %v", p.RootFields(0), p.RootItems(5), p.Slots(0))
		}
		if len(p.RootItems(6)) != 1 || len(p.RootFields(7)) != 0 || len(p.Slots(7)) != 1 || len(p.RootFields(1)) != 0 {
			t.Error("strange types")
		}
	}
}
