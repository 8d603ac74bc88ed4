package term

import (
	"cmp"

	"peculium/api"
)

// Same reports whether two terms are raw, and equal.
func Same(a, b api.Term) bool { return Raw(a) == api.OK && Compare(a, b) == 0 }

// Compare returns -1, 0 or 1, as a is less than b, equal to it, or greater. Terms that are not raw, or too large, are the least ones, and equal.
func Compare(a, b api.Term) int {
	isA, isB := Raw(a) == api.OK, Raw(b) == api.OK
	switch {
	case isA && isB:
		return compareTerms(a, b)
	case isA:
		return 1
	case isB:
		return -1
	}
	return 0
}

func compareTerms(a, b api.Term) int {
	return cmp.Or(cmp.Compare(a.Kind, b.Kind), cmp.Compare(a.N, b.N), cmp.Compare(a.Name, b.Name), compared(a.Args, b.Args, compareTerms))
}
