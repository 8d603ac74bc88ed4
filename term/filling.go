package term

import "peculium/api"

// filling is what is put for heads: terms for the first ones of the bound variables, of which those behind are raised (or lowered, by a negative number), or terms for variables.
type filling struct {
	bound []raised
	by    int
	vars  map[int]raised
}

// head returns what is put for the head of a node below some binders, if anything is.
func (f filling) head(t *node, below int) (raised, bool) {
	var x raised
	ok := false
	switch t.kind {
	case api.TmBound:
		x, ok = nth(f.bound, t.n-below)
	case api.TmVar:
		x, ok = f.vars[t.n]
	}
	if !ok {
		return raised{}, false
	}
	return x.up(below), true
}

// whole returns what a term below some binders becomes as a whole, if nothing is put for heads within it: it stays, or all its free bound variables are among those that are raised.
func (f filling) whole(t raised, below int) (raised, bool) {
	switch {
	case len(f.vars) > 0:
		return raised{}, false
	case t.reach() <= below:
		return t, true
	case t.by >= below+len(f.bound):
		return t.up(f.by), true
	}
	return raised{}, false
}

// place is a node with Args for whose head something is put: below how many binders, and how many other places, not within one another, are in its Args.
type place struct {
	*node
	below, within int
}

// places returns the places of a term, those in Args ahead of those around.
func (f filling) places(t raised) []place {
	var list []place
	var find func(t raised, below int) int
	find = func(t raised, below int) int {
		if _, ok := f.whole(t, below); ok {
			return 0
		}
		below -= t.by
		within := 0
		for _, x := range t.args {
			within += find(x, below+bindersOf(t.kind))
		}
		if _, ok := f.head(t.node, below); ok && len(t.args) > 0 {
			list = append(list, place{t.node, below, within})
			return 1
		}
		return within
	}
	find(t, 0)
	return list
}

// builder makes a term in which heads are filled, of what has been made of the places in it, which it takes in order.
type builder struct {
	filling
	made []raised
}

// build returns what comes of a term below some binders.
func (b *builder) build(t raised, below int) raised {
	if x, ok := b.whole(t, below); ok {
		return x
	}
	below -= t.by
	x, ok := b.head(t.node, below)
	switch {
	case !ok:
		n := t.n
		if t.kind == api.TmBound && n >= below {
			n += b.by
		}
		x = newNode(t.kind, n, t.name, b.list(t.node, below))
	case len(t.args) > 0:
		x = b.made[0]
		b.made = b.made[1:]
	}
	return x.up(t.by)
}

// list returns what comes of the Args of a node below some binders.
func (b *builder) list(t *node, below int) []raised {
	return mapped(t.args, func(x raised) raised { return b.build(x, below+bindersOf(t.kind)) })
}
