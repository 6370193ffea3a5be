package rules_test

import (
	"testing"

	"ogham/api"
	"ogham/rules"
)

func TestOnly(t *testing.T) {
	der, uper := api.Value{Rule: api.Der}, api.Value{Rule: api.Uper}
	for i, x := range []struct {
		v         api.Value
		der, uper bool
	}{
		{api.Value{}, true, true},
		{der, true, false},
		{uper, false, true},
		{api.Value{L: []api.Value{{}, {L: []api.Value{{}, der}}}}, true, false},
		{api.Value{L: []api.Value{der, uper}}, false, false},
		{api.Value{Rule: 3}, false, false},
	} {
		if rules.Only(x.v, api.Der) != x.der || rules.Only(x.v, api.Uper) != x.uper {
			t.Errorf("row %d", i)
		}
	}
}
