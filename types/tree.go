package types

import (
	"iter"

	"peculium/api"
)

// Type returns the type that a tree stands for.
func Type(n api.Node) (api.Type, api.Errno) {
	if err := treeError(n, isType); err != api.OK {
		return api.Type{}, err
	}
	return typeOf(n), api.OK
}

// Tree returns the tree of a type.
func Tree(t api.Type) (api.Node, api.Errno) {
	var m meter
	m.typ(t, 1)
	switch {
	case m.parts > api.MaxNodes:
		return api.Node{}, api.ErrLong
	case m.levels > api.MaxDeep:
		return api.Node{}, api.ErrDeep
	case !isFormed(t):
		return api.Node{}, api.ErrArg
	}
	return treeOf(t, new(counter)), api.OK
}

// Order returns the order of a type, or -1.
func Order(t api.Type) int {
	if _, err := Tree(t); err != api.OK {
		return -1
	}
	return order(t)
}

func order(t api.Type) int {
	if t.Name != arrow {
		return 0
	}
	return max(order(t.Args[1]), order(t.Args[0])+1)
}

// isFormed reports whether a type is made of names without Args and arrows.
func isFormed(t api.Type) bool {
	if t.Name == arrow {
		return len(t.Args) == 2 && isFormed(t.Args[0]) && isFormed(t.Args[1])
	}
	return len(t.Args) == 0 && isSmall(t.Name)
}

// typeOf returns the type that a tree of a type stands for.
func typeOf(n api.Node) api.Type {
	t := api.Type{Name: n.Name}
	if n.Kind == api.NdArrow {
		t.Name = arrow
	}
	for _, x := range n.L {
		t.Args = append(t.Args, typeOf(x))
	}
	return t
}

// treeOf returns the tree of a formed type, and counts its nodes.
func treeOf(t api.Type, c *counter) api.Node {
	c.more()
	n := api.Node{Kind: api.NdName, Name: t.Name}
	if t.Name == arrow {
		n = api.Node{Kind: api.NdArrow}
	}
	for _, x := range t.Args {
		n.L = append(n.L, treeOf(x, c))
	}
	return n
}

// arguments returns the arguments and the target of a simple type.
func arguments(t api.Type) ([]api.Type, string) {
	var list []api.Type
	for t.Name == arrow {
		list = append(list, t.Args[0])
		t = t.Args[1]
	}
	return list, t.Name
}

// isVariable reports whether a simple type is a variable type.
func isVariable(t api.Type) bool {
	list, _ := arguments(t)
	for _, x := range list {
		if x.Name == arrow {
			return false
		}
	}
	return len(list) <= api.MaxArgs
}

// nodes yields the nodes of a tree that stands at a path, each one ahead of its L, with their paths. A path is overwritten when the next one is yielded.
func nodes(path []int, n api.Node) iter.Seq2[[]int, api.Node] {
	return func(yield func([]int, api.Node) bool) {
		var visit func(path []int, n api.Node) bool
		visit = func(path []int, n api.Node) bool {
			if !yield(path, n) {
				return false
			}
			for i, x := range n.L {
				if !visit(append(path, i), x) {
					return false
				}
			}
			return true
		}
		visit(path, n)
	}
}

// typeNames yields the names within the types of a tree, with their paths.
func typeNames(path []int, n api.Node) iter.Seq2[[]int, string] {
	return func(yield func([]int, string) bool) {
		for at, x := range nodes(path, n) {
			from, to := typesIn(x)
			for i := from; i < to; i++ {
				for below, t := range nodes(append(at, i), x.L[i]) {
					if t.Kind == api.NdName && !yield(below, t.Name) {
						return
					}
				}
			}
		}
	}
}

// typesIn returns which elements of the L of a node are types: those from the first number up to the second one.
func typesIn(n api.Node) (from, to int) {
	last := len(n.L) - 1
	switch n.Kind {
	case api.NdPred, api.NdFact, api.NdLast:
		return 0, len(n.L)
	case api.NdConst:
		return last, len(n.L)
	case api.NdLam, api.NdAll, api.NdEx:
		return 0, last
	}
	return 0, 0
}
