package wild_test

import (
	"testing"

	"ogham/api"
	"ogham/wild"
)

func TestIs(t *testing.T) {
	tag := []api.Tag{{Class: 2}}
	types := []api.Type{
		{Kind: api.Null, Tags: tag},
		{Kind: api.Choice, More: true},
		{Kind: api.Choice, More: true, Tags: tag},
		{Kind: api.Choice, Fields: []api.Field{{Type: 0}, {Type: 2}}},
		{Kind: api.Choice, Fields: []api.Field{{Type: 0}, {Type: 1}}},
		{Kind: api.Choice, Tags: tag, Fields: []api.Field{{Type: 1}}},
		{Kind: api.Choice, Fields: []api.Field{{Type: 4}}},
		{Kind: api.Set, More: true, Fields: []api.Field{{Type: 1}}},
		{Kind: api.Choice, Fields: []api.Field{{Type: 8}, {Type: 8}, {Type: -1}}},
	}
	for i, want := range []bool{false, true, false, false, true, false, true, false, false} {
		if wild.Is(types, i) != want {
			t.Errorf("the type %d", i)
		}
	}
	if wild.Is(types, -1) || wild.Is(types, 9) {
		t.Error("no type")
	}
}
