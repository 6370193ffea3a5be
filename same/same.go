// Package same tells whether two values are the same: all their fields, and the elements of their lists one by one.
package same

import (
	"bytes"

	"ogham/api"
)

// deepest is beyond every value that is built from its parts: a value that is deeper contains itself.
const deepest = 1 << 16

// Values reports whether two values are the same; lists that are nil and empty are.
func Values(a, b api.Value) bool {
	return values(a, b, 1)
}

func values(a, b api.Value, depth int) bool {
	if depth > deepest || a.Kind != b.Kind || a.N != b.N || a.Rule != b.Rule || !bytes.Equal(a.B, b.B) {
		return false
	}
	if len(a.L) != len(b.L) || len(a.More) != len(b.More) {
		return false
	}
	for i := range a.L {
		if !values(a.L[i], b.L[i], depth+1) {
			return false
		}
	}
	for i := range a.More {
		if a.More[i].N != b.More[i].N || !bytes.Equal(a.More[i].B, b.More[i].B) {
			return false
		}
	}
	return true
}
