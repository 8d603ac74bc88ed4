package kernel

import "peculium/api"

// atom checks a proof of an atom by a hypothesis that is taken apart.
func (c *checker) atom(goal *api.Form, pf *api.Proof) set {
	c.need(goal.Kind == api.FoAtom)
	h := c.hypothesis(pf.N)
	form, used := h.Form, h.taken()
	for k := range pf.Spine {
		var more set
		form, more = c.turn(&form, k, &pf.Spine[k])
		c.need(used.and(more) == set{})
		used = used.or(more)
	}
	c.need(isSameAtom(&form, goal))
	return used
}

// turn makes the turn k of a hypothesis, and returns what it becomes, and what the proof in the turn uses.
func (c *checker) turn(f *api.Form, k int, t *api.Turn) (api.Form, set) {
	var used set
	switch t.Kind {
	case api.TuLeft, api.TuRight:
		c.need(f.Kind == api.FoWith)
		return f.L[t.Kind-api.TuLeft], used
	case api.TuAll:
		c.need(f.Kind == api.FoAll)
		return c.chosen(f, &t.Term), used
	case api.TuLolli:
		c.need(f.Kind == api.FoLolli)
		used = c.part(-1-k, &f.L[0], &t.L[0])
	case api.TuImp:
		c.need(f.Kind == api.FoImp)
		used = c.part(-1-k, &f.L[0], &t.L[0])
		c.need(used == set{})
	}
	return f.L[1], used
}

// isSameAtom reports whether two formulas are the same atom.
func isSameAtom(f, g *api.Form) bool {
	return f.Kind == api.FoAtom && g.Kind == api.FoAtom && f.Name == g.Name && areEqual(f.Args, g.Args, isSameTerm)
}
