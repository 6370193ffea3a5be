package same_test

import (
	"testing"

	"ogham/api"
	"ogham/same"
)

// samples are values no two of which are the same.
func samples() []api.Value {
	return []api.Value{
		{},
		{Kind: api.Null},
		{Kind: api.Integer, N: 1},
		{Kind: api.Integer, N: 2},
		{Kind: api.Octets, B: []byte{1}},
		{Kind: api.Octets, B: []byte{2}},
		{Kind: api.Octets, B: []byte{1, 2}},
		{Kind: api.ListOf, L: []api.Value{{}}},
		{Kind: api.ListOf, L: []api.Value{{}, {}}},
		{Kind: api.ListOf, L: []api.Value{{}, {Kind: api.Null}}},
		{Kind: api.Set, Rule: api.Der},
		{Kind: api.Set, Rule: api.Uper},
		{Kind: api.Set, More: []api.Raw{{}}},
		{Kind: api.Set, More: []api.Raw{{N: 1}}},
		{Kind: api.Set, More: []api.Raw{{N: 1, B: []byte{1}}}},
		{Kind: api.Set, More: []api.Raw{{N: 1}, {N: 1}}},
	}
}

func TestValues(t *testing.T) {
	for i, a := range samples() {
		for k, b := range samples() {
			if same.Values(a, b) != (i == k) {
				t.Errorf("R9: the samples %d and %d", i, k)
			}
		}
	}
	if !same.Values(api.Value{}, api.Value{B: []byte{}, L: []api.Value{}, More: []api.Raw{}}) {
		t.Error("R3: nil and empty differ")
	}
}

func TestValueWithinItself(t *testing.T) {
	l := make([]api.Value, 2)
	l[1].L = l
	if same.Values(l[1], l[1]) {
		t.Error("a value that contains itself")
	}
}
