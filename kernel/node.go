package kernel

import "peculium/api"

// node is a term that is worked on. It is not changed once it is made, so that one node can stand in many places: a term that is copied again and again may have more nodes than there is memory.
type node struct {
	kind, n int
	name    string
	args    []link
	size    int // how many nodes it has, no more than MaxNodes + 1
	levels  int
	free    int // one more than the greatest index of its free bound variables, or 0
}

// link is a node whose free bound variables are raised by a number.
type link struct {
	*node
	up int
}

func newNode(kind, n int, name string, args []link) link {
	x := &node{kind: kind, n: n, name: name, args: args, size: 1, levels: 1}
	if kind == api.TmBound {
		x.free = n + 1
	}
	for _, a := range args {
		x.size = min(x.size+a.size, api.MaxNodes+1)
		x.levels = max(x.levels, a.levels+1)
		x.free = max(x.free, a.reach())
	}
	x.free = max(x.free-binders(kind), 0)
	return link{node: x}
}

// binders returns how many binders a term of a kind is.
func binders(kind int) int {
	if kind == api.TmLam {
		return 1
	}
	return 0
}

// linkOf returns the node of a raw term.
func linkOf(t *api.Term) link {
	args := make([]link, len(t.Args))
	for i := range t.Args {
		args[i] = linkOf(&t.Args[i])
	}
	return newNode(t.Kind, t.N, t.Name, args)
}

// reach returns one more than the greatest index of the free bound variables, or 0.
func (l link) reach() int {
	if l.free == 0 {
		return 0
	}
	return l.free + l.up
}

// raised returns what is raised by a further number.
func (l link) raised(by int) link { return link{l.node, l.up + by} }

// with returns a term that has a head, with further Args.
func (l link) with(more []link) link {
	if len(l.args)+len(more) > api.MaxArgs {
		panic(api.ErrLong)
	}
	n := l.n
	if l.kind == api.TmBound {
		n += l.up
	}
	var args []link
	for _, x := range l.args {
		args = append(args, x.raised(l.up))
	}
	return newNode(l.kind, n, l.name, append(args, more...))
}

// term returns the term of a node that has no more than MaxNodes nodes, in new memory.
func (l link) term() api.Term {
	t := api.Term{Kind: l.kind, N: l.n, Name: l.name}
	if len(l.args) > 0 {
		t.Args = make([]api.Term, len(l.args))
	}
	for i, x := range l.args {
		t.Args[i] = x.term()
	}
	if l.up > 0 && l.free > 0 {
		raise(&t, l.up, 0)
	}
	return t
}

// raise raises the free bound variables of a term below some binders, within its memory.
func raise(t *api.Term, by, below int) {
	if t.Kind == api.TmBound && t.N >= below {
		t.N += by
	}
	for x := range each(t.Args) {
		raise(x, by, below+binders(t.Kind))
	}
}

// isTooLong reports whether a result has too many nodes, or an N that is too great.
func (l link) isTooLong() bool {
	if l.size > api.MaxNodes {
		return true
	}
	// N is the index and the number of binders between, of which there are fewer than nodes.
	if l.reach()+l.size <= api.MaxIndex {
		return false
	}
	t := l.term()
	return greatest(&t) > api.MaxIndex
}

// greatest returns the greatest N of a term.
func greatest(t *api.Term) int {
	n := t.N
	for x := range each(t.Args) {
		n = max(n, greatest(x))
	}
	return n
}

// finished returns the term that is the result of a substitution, and panics with why it is none.
func (l link) finished() api.Term {
	switch {
	case l.isTooLong():
		panic(api.ErrLong)
	case l.levels > api.MaxDeep:
		panic(api.ErrDeep)
	}
	return l.term()
}
