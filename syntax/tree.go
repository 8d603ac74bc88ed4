package syntax

import (
	"iter"
	"slices"
	"strings"

	"peculium/api"
)

// place is where a node of a tree stands. It is overwritten when the next node is visited.
type place struct {
	path   []int    // the indices of L that lead to the node
	inside []string // the Names of the binders in whose bodies it is
	word   bool     // it is a word of an NdMode
}

// below returns the place of the element i of the L of a node that stands at a place.
func (at place) below(n api.Node, i int) place {
	down := place{path: append(at.path, i), inside: at.inside, word: n.Kind == api.NdMode}
	if isBinder(n) && i == len(n.L)-1 {
		down.inside = append(at.inside, n.Name)
	}
	return down
}

// frees reports whether a node that stands at a place is a free occurrence of its Name.
func (at place) frees(n api.Node) bool {
	occurs := n.Kind == api.NdName || n.Kind == api.NdVar
	return occurs && !at.word && !slices.Contains(at.inside, n.Name)
}

// walk yields the nodes of a tree with their places, each one ahead of its L.
func walk(n api.Node) iter.Seq2[place, api.Node] {
	return func(yield func(place, api.Node) bool) {
		var visit func(at place, n api.Node) bool
		visit = func(at place, n api.Node) bool {
			if !yield(at, n) {
				return false
			}
			for i, x := range n.L {
				if !visit(at.below(n, i), x) {
					return false
				}
			}
			return true
		}
		visit(place{}, n)
	}
}

// rebuild returns a tree, in new memory, in which each node is what change makes of it.
func rebuild(n api.Node, change func(at place, n api.Node) api.Node) api.Node {
	var build func(at place, n api.Node) api.Node
	build = func(at place, n api.Node) api.Node {
		n = change(at, n)
		out := api.Node{Kind: n.Kind, Name: strings.Clone(n.Name)}
		for i, x := range n.L {
			out.L = append(out.L, build(at.below(n, i), x))
		}
		return out
	}
	return build(place{}, n)
}

// unchanged lets rebuild make a copy.
func unchanged(at place, n api.Node) api.Node { return n }

// isBinder reports whether a node binds its Name in the last element of its L.
func isBinder(n api.Node) bool {
	return n.Kind == api.NdLam || n.Kind == api.NdAll || n.Kind == api.NdEx
}

// Same reports whether two trees are equal in all fields.
func Same(a, b api.Node) bool {
	return a.Kind == b.Kind && a.Name == b.Name && slices.EqualFunc(a.L, b.L, Same)
}

// Size returns the number of nodes of a tree, or MaxNodes + 1 if there are more than MaxNodes.
func Size(n api.Node) int {
	nodes, _ := measure(n)
	return nodes
}

// measure returns the numbers of nodes and of levels of a tree. It stops behind MaxNodes nodes: what has no end, or is larger than memory since it shares parts, is not gone through.
func measure(n api.Node) (nodes, levels int) {
	for at := range walk(n) {
		nodes++
		levels = max(levels, len(at.path)+1)
		if nodes > api.MaxNodes {
			break
		}
	}
	return nodes, levels
}
