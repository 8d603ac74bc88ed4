package term

import "peculium/api"

// node is a term that is worked on. It is not changed once it is made, so that one node may stand in many places: what is copied by substitutions can have more nodes than any memory.
type node struct {
	kind, n int
	name    string
	args    []raised
	size    int // how many nodes it has, no more than MaxNodes + 1
	open    int // one more than the greatest index of its free bound variables, or 0
}

// raised is a node whose free bound variables are raised by a number.
type raised struct {
	*node
	by int
}

// newNode returns a node, raised by 0.
func newNode(kind, n int, name string, args []raised) raised {
	x := &node{kind: kind, n: n, name: name, args: args, size: 1}
	if kind == api.TmBound {
		x.open = n + 1
	}
	for _, a := range args {
		x.size = min(x.size+a.size, api.MaxNodes+1)
		x.open = max(x.open, a.reach())
	}
	x.open = max(x.open-bindersOf(kind), 0)
	return raised{node: x}
}

// nodeOf returns the node of a raw term.
func nodeOf(t api.Term) raised {
	return newNode(t.Kind, t.N, t.Name, mapped(t.Args, nodeOf))
}

// reach returns one more than the greatest index of the free bound variables, or 0.
func (t raised) reach() int {
	if t.open == 0 {
		return 0
	}
	return t.open + t.by
}

// up returns the term raised by a further number.
func (t raised) up(by int) raised { return raised{t.node, t.by + by} }

// with returns a term that has a head, with further Args.
func (t raised) with(list []raised) raised {
	if len(t.args)+len(list) > api.MaxArgs {
		panic(api.ErrLong)
	}
	n := t.n
	if t.kind == api.TmBound {
		n += t.by
	}
	args := mapped(t.args, func(x raised) raised { return x.up(t.by) })
	return newNode(t.kind, n, t.name, append(args, list...))
}

// term returns the term that a node of no more than MaxNodes nodes is, in new memory.
func (t raised) term() api.Term {
	out := api.Term{Kind: t.kind, N: t.n, Name: t.name, Args: mapped(t.args, raised.term)}
	if t.by > 0 && t.open > 0 {
		raise(&out, t.by, 0, isFree)
	}
	return out
}

// isTooLong reports whether a result has too many nodes, or an N that is too great.
func (t raised) isTooLong() bool {
	if t.size > api.MaxNodes {
		return true
	}
	// N is the index and the number of binders between, of which there are fewer than nodes.
	return t.reach()+t.size > api.MaxIndex && highest(t.term()) > api.MaxIndex
}
