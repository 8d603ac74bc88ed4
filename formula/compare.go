package formula

import (
	"cmp"
	"slices"

	"peculium/api"
	"peculium/term"
)

// Same reports whether two formulas are raw, and equal but for the Names of quantifiers.
func Same(f, g api.Form) bool {
	return Raw(f) == api.OK && Raw(g) == api.OK && compareForms(f, g) == 0
}

// Compare compares two formulas; those that are not raw are less than all others.
func Compare(f, g api.Form) int {
	isF, isG := Raw(f) == api.OK, Raw(g) == api.OK
	switch {
	case isF && isG:
		return compareForms(f, g)
	case isF:
		return 1
	case isG:
		return -1
	}
	return 0
}

// compareForms compares raw formulas.
func compareForms(f, g api.Form) int {
	switch {
	case f.Kind != g.Kind:
		return cmp.Compare(f.Kind, g.Kind)
	case f.Kind == api.FoAtom:
		return cmp.Or(cmp.Compare(f.Name, g.Name), compareLists(f.Args, g.Args, term.Compare))
	}
	// But for quantifiers, the Types are empty.
	return cmp.Or(compareTypes(f.Type, g.Type), compareLists(f.L, g.L, compareForms))
}

// compareTypes compares formed types.
func compareTypes(a, b api.Type) int {
	return cmp.Or(cmp.Compare(a.Name, b.Name), compareLists(a.Args, b.Args, compareTypes))
}

// compareLists compares lists by their lengths, then by the first elements that differ.
func compareLists[T any](a, b []T, compare func(x, y T) int) int {
	if len(a) != len(b) {
		return cmp.Compare(len(a), len(b))
	}
	return slices.CompareFunc(a, b, compare)
}
