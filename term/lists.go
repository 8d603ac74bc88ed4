package term

import (
	"cmp"

	"peculium/api"
)

// limit is what a count panics with when it stops early.
type limit struct{}

// measure returns how many nodes and levels a tree has, but no more than MaxNodes + 1 and MaxDeep + 1: so it also ends for a tree that is too large, or has no end. Nodes below these levels do not count.
func measure[T any](root T, below func(T) []T) (nodes, levels int) {
	return measureTo(root, below, api.MaxNodes+1, api.MaxDeep+1)
}

// measureTo is measure with other limits. If it stops early, since there are too many nodes, there may be any number of levels: it returns the greatest one.
func measureTo[T any](root T, below func(T) []T, maxNodes, maxLevels int) (nodes, levels int) {
	defer func() {
		if _, ok := recover().(limit); ok {
			levels = maxLevels
		}
	}()
	var count func(x T, level int)
	count = func(x T, level int) {
		nodes++
		levels = max(levels, level)
		if nodes == maxNodes {
			panic(limit{})
		}
		if level == maxLevels {
			return
		}
		for _, y := range below(x) {
			count(y, level+1)
		}
	}
	count(root, 1)
	return nodes, levels
}

// argsOf returns the Args of a term, partsOf those of a type.
func argsOf(t api.Term) []api.Term   { return t.Args }
func partsOf(ty api.Type) []api.Type { return ty.Args }

// mapped returns a list of what f makes of the elements of a list.
func mapped[T, U any](list []T, f func(T) U) []U {
	if len(list) == 0 {
		return nil
	}
	out := make([]U, 0, len(list))
	for _, x := range list {
		out = append(out, f(x))
	}
	return out
}

// compared compares lists by their lengths, then by the first elements that differ.
func compared[T any](a, b []T, compare func(x, y T) int) int {
	order := cmp.Compare(len(a), len(b))
	for i := 0; order == 0 && i < len(a); i++ {
		order = compare(a[i], b[i])
	}
	return order
}
