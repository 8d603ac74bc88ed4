package module

import (
	"iter"
	"slices"
	"strings"

	"peculium/api"
)

// isPreface reports whether an item tells of the module itself: its name, what it uses, what it exports.
func isPreface(n api.Node) bool {
	return n.Kind == api.NdModule || n.Kind == api.NdUse || n.Kind == api.NdExport
}

// isRule reports whether an item is a rule.
func isRule(n api.Node) bool {
	return n.Kind == api.NdRule || n.Kind == api.NdOnce || n.Kind == api.NdMost
}

// isQuery reports whether an item is a query.
func isQuery(n api.Node) bool { return n.Kind == api.NdQuery }

// isBinder reports whether a node binds its Name in the last element of its L.
func isBinder(n api.Node) bool {
	return n.Kind == api.NdLam || n.Kind == api.NdAll || n.Kind == api.NdEx
}

// namesOf yields the Names of the items of a sort.
func namesOf(items []api.Node, is func(api.Node) bool) iter.Seq[string] {
	return func(yield func(string) bool) {
		for _, item := range items {
			if is(item) && !yield(item.Name) {
				return
			}
		}
	}
}

// declarations yields the names that valid items declare.
func declarations(items []api.Node) iter.Seq[string] {
	return func(yield func(string) bool) {
		for _, item := range items {
			list := item.L
			switch item.Kind {
			case api.NdConst:
				list = list[:len(list)-1] // without the type
				fallthrough
			case api.NdType:
				for _, n := range list {
					if !yield(n.Name) {
						return
					}
				}
			case api.NdPred, api.NdFact, api.NdLast:
				if !yield(item.Name) {
					return
				}
			}
		}
	}
}

// nodes yields the nodes of trees, each one ahead of its L.
func nodes(list []api.Node) iter.Seq[api.Node] {
	return func(yield func(api.Node) bool) {
		var visit func(list []api.Node) bool
		visit = func(list []api.Node) bool {
			for _, n := range list {
				if !yield(n) || !visit(n.L) {
					return false
				}
			}
			return true
		}
		visit(list)
	}
}

// heads yields the Names of those heads of a formula that occur free.
func heads(form api.Node) iter.Seq[string] {
	return func(yield func(string) bool) {
		var visit func(f api.Node, bound []string) bool
		visit = func(f api.Node, bound []string) bool {
			switch f.Kind {
			case api.NdName:
				return slices.Contains(bound, f.Name) || yield(f.Name)
			case api.NdWith:
				if !visit(f.L[0], bound) {
					return false
				}
				fallthrough
			case api.NdLolli, api.NdImp:
				return visit(f.L[1], bound)
			case api.NdFrom, api.NdIf:
				return visit(f.L[0], bound)
			case api.NdAll:
				return visit(f.L[len(f.L)-1], append(bound, f.Name))
			}
			return true
		}
		visit(form, nil)
	}
}

// rebuilt returns an item, in new memory, in which what it declares, the predicate of its modes, and the small names that occur free in it, are what change makes of them.
func rebuilt(item api.Node, change func(name string) string) api.Node {
	var build func(n api.Node, bound []string) api.Node
	build = func(n api.Node, bound []string) api.Node {
		out := api.Node{Kind: n.Kind, Name: strings.Clone(n.Name)}
		switch n.Kind {
		case api.NdName:
			if slices.Contains(bound, n.Name) {
				break
			}
			fallthrough
		case api.NdPred, api.NdFact, api.NdLast, api.NdMode:
			out.Name = strings.Clone(change(n.Name))
		}
		for i, x := range n.L {
			switch {
			case n.Kind == api.NdMode: // its words are no names
				out.L = append(out.L, copied(x))
			case isBinder(n) && i == len(n.L)-1:
				out.L = append(out.L, build(x, append(bound, n.Name)))
			default:
				out.L = append(out.L, build(x, bound))
			}
		}
		return out
	}
	return build(item, nil)
}

// copied returns a tree in new memory.
func copied(n api.Node) api.Node {
	return rebuilt(n, func(name string) string { return name })
}
