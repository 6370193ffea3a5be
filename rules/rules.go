// Package rules tells by which rules the unknown parts of a value came.
package rules

import (
	"ogham/api"
)

// Only reports whether a value contains no Rule other than this one. (The value must be one that fits a type.)
func Only(v api.Value, rule int) bool {
	if v.Rule != 0 && v.Rule != rule {
		return false
	}
	for _, x := range v.L {
		if !Only(x, rule) {
			return false
		}
	}
	return true
}
