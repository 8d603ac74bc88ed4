package kernel

import "peculium/api"

// work is a substitution: how many contractions have begun.
type work struct{ contractions int }

// apply applies a term to others.
func (w *work) apply(l link, args []link) link {
	for i, x := range args {
		if l.kind != api.TmLam {
			return l.with(args[i:])
		}
		w.contractions++
		if w.contractions > api.MaxContract {
			panic(api.ErrFuel)
		}
		l = w.subst(l.args[0], x, l.up-1)
		if l.isTooLong() {
			panic(api.ErrLong)
		}
	}
	return l
}

// put returns a raw term, below some binders, with the terms of a list for the variables with their indices.
func (w *work) put(t *api.Term, list []link, below int) link {
	var args []link
	for x := range each(t.Args) {
		args = append(args, w.put(x, list, below+binders(t.Kind)))
	}
	if t.Kind == api.TmVar && t.N < len(list) {
		return w.apply(list[t.N].raised(below), args)
	}
	return newNode(t.Kind, t.N, t.Name, args)
}

// site is a node with Args whose head is the variable that is substituted: how many binders are around it, and how many other sites, not within one another, are in its Args.
type site struct {
	*node
	below, within int
}

// is reports whether the head of a node below some binders is the variable that is substituted.
func (x *node) is(below int) bool { return x.kind == api.TmBound && x.n == below }

// sites returns the sites of a term, those in Args ahead of those around.
func (l link) sites() []site {
	var list []site
	var find func(l link, below int) int
	find = func(l link, below int) int {
		if l.reach() <= below || l.up > below {
			return 0
		}
		below -= l.up
		within := 0
		for _, x := range l.args {
			within += find(x, below+binders(l.kind))
		}
		if !l.is(below) || len(l.args) == 0 {
			return within
		}
		list = append(list, site{l.node, below, within})
		return 1
	}
	find(l, 0)
	return list
}

// subst returns a term with s for its bound variable 0; what else is free in it is raised by a number, or lowered by 1. What becomes of the sites is made first, in their order, and then what is around them: otherwise contractions that are within one another thousands of times would each be within calls for thousands of nodes.
func (w *work) subst(t, s link, by int) link {
	var made []link // what has become of the sites that are in none that has been made
	var build func(l link, below int) link
	list := func(x *node, below int) []link {
		var args []link
		for _, a := range x.args {
			args = append(args, build(a, below+binders(x.kind)))
		}
		return args
	}
	var next []link // what has become of the sites that are still to be met
	build = func(l link, below int) link {
		switch {
		case l.reach() <= below:
			return l
		case l.up > below:
			return l.raised(by)
		}
		below -= l.up
		var out link
		switch {
		case !l.is(below):
			n := l.n
			if l.kind == api.TmBound && n > below {
				n += by
			}
			out = newNode(l.kind, n, l.name, list(l.node, below))
		case len(l.args) > 0:
			out, next = next[0], next[1:]
		default:
			out = s.raised(below)
		}
		return out.raised(l.up)
	}
	for _, at := range t.sites() {
		rest := len(made) - at.within
		next = made[rest:]
		args := list(at.node, at.below)
		out := w.apply(s.raised(at.below), args)
		made = append(made[:rest], out)
	}
	next = made
	return build(t, 0)
}
