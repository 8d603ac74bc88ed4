package syntax

import (
	"slices"

	"peculium/api"
	"peculium/lex"
)

// Check returns OK if a tree is valid, and otherwise ErrLong, ErrDeep or ErrTree.
func Check(n api.Node) api.Errno {
	nodes, levels := measure(n)
	switch {
	case nodes > api.MaxNodes:
		return api.ErrLong
	case levels > api.MaxDeep:
		return api.ErrDeep
	case isText(n), isItem(n), isForm(n), isTerm(n), isType(n):
		return api.OK
	}
	return api.ErrTree
}

// isText reports whether a tree is a text.
func isText(n api.Node) bool {
	return n.Kind == api.NdText && has(n, isNone, 0, len(n.L), isItem)
}

// isItem reports whether a tree is an item.
func isItem(n api.Node) bool {
	switch n.Kind {
	case api.NdType, api.NdExport:
		return has(n, isNone, 1, len(n.L), isLone)
	case api.NdConst:
		last := len(n.L) - 1
		return last > 0 && isNone(n.Name) && every(n.L[:last], isLone) && isType(n.L[last])
	case api.NdPred, api.NdFact, api.NdLast:
		return has(n, lex.IsName, 0, api.MaxArgs, isType)
	case api.NdMode:
		return has(n, lex.IsName, 0, api.MaxArgs, isMode)
	case api.NdRule, api.NdOnce, api.NdMost, api.NdQuery:
		return has(n, lex.IsName, 1, 1, isForm)
	case api.NdModule, api.NdUse:
		return has(n, lex.IsName, 0, 0, isLone)
	}
	return false
}

// isForm reports whether a tree is a formula.
func isForm(n api.Node) bool {
	switch n.Kind {
	case api.NdName:
		return isTerm(n)
	case api.NdAll, api.NdEx:
		return binds(n, isForm)
	case api.NdOne, api.NdTop:
		return has(n, isNone, 0, 0, isForm)
	case api.NdBang, api.NdMonad:
		return has(n, isNone, 1, 1, isForm)
	case api.NdTensor, api.NdWith, api.NdPlus, api.NdLolli, api.NdImp, api.NdFrom, api.NdIf:
		return has(n, isNone, 2, 2, isForm)
	}
	return false
}

// isTerm reports whether a tree is a term.
func isTerm(n api.Node) bool {
	switch n.Kind {
	case api.NdName:
		return has(n, lex.IsName, 0, api.MaxArgs, isTerm)
	case api.NdVar:
		return has(n, lex.IsVar, 0, api.MaxArgs, isTerm)
	case api.NdLam:
		return binds(n, isTerm)
	}
	return false
}

// isType reports whether a tree is a type.
func isType(n api.Node) bool {
	return isLone(n) || n.Kind == api.NdArrow && has(n, isNone, 2, 2, isType)
}

// isLone reports whether a tree is a small name alone.
func isLone(n api.Node) bool {
	return n.Kind == api.NdName && has(n, lex.IsName, 0, 0, isLone)
}

// isMode reports whether a tree is a word of an NdMode.
func isMode(n api.Node) bool {
	return isLone(n) && (n.Name == "in" || n.Name == "out" || n.Name == "any")
}

// isAny reports whether a Name is a small or a capital one.
func isAny(name string) bool { return lex.IsName(name) || lex.IsVar(name) }

// isNone reports whether there is no Name.
func isNone(name string) bool { return name == "" }

// binds reports whether a node has a Name, perhaps a type, and a body that is as isBody says.
func binds(n api.Node, isBody func(api.Node) bool) bool {
	last := len(n.L) - 1
	return (last == 0 || last == 1) && isAny(n.Name) && every(n.L[:last], isType) && isBody(n.L[last])
}

// has reports whether a node's Name is as named says, and its L has from least to most elements, each one as part says.
func has(n api.Node, named func(string) bool, least, most int, part func(api.Node) bool) bool {
	return len(n.L) >= least && len(n.L) <= most && named(n.Name) && every(n.L, part)
}

// every reports whether each node of a list is as part says.
func every(l []api.Node, part func(api.Node) bool) bool {
	return !slices.ContainsFunc(l, func(n api.Node) bool { return !part(n) })
}
