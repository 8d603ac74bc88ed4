package kernel

import "peculium/api"

// monad checks a proof of what stands in a monad, with moves ahead of it.
func (c *checker) monad(goal *api.Form, pf *api.Proof) set {
	c.need(goal.Kind == api.FoMonad)
	hyps, pars := len(c.hyps), len(c.pars)
	var used set
	for i := range pf.Moves {
		then, more := c.move(&pf.Moves[i], used)
		used = used.or(more)
		c.bind(&then)
	}
	last := c.part(0, &goal.L[0], &pf.L[0])
	c.need(used.and(last) == set{})
	used = used.or(last)
	bound := c.linear(hyps)
	c.need(bound.without(used) == set{})
	c.hyps, c.pars = c.hyps[:hyps], c.pars[:pars]
	return used.without(bound)
}

// move makes a move behind others that have used something, and returns what it binds, and what it uses.
func (c *checker) move(m *api.Move, gone set) (api.Form, set) {
	c.need(m.N >= 0 && m.N < c.rules && isForward(&c.hyps[m.N].Form))
	form := c.hyps[m.N].Form
	for t := range each(m.Terms) {
		c.need(form.Kind == api.FoAll)
		form = c.chosen(&form, t)
	}
	var used set
	for _, n := range m.Uses {
		c.need(isImplication(form.Kind))
		h := c.hypothesis(n)
		more := h.taken()
		c.need(isSameAtom(&h.Form, &form.L[0]))
		c.need((form.Kind == api.FoImp) == (h.Use == api.UsLast) && gone.or(used).and(more) == set{})
		used = used.or(more)
		form = form.L[1]
	}
	c.need(form.Kind == api.FoMonad)
	return form.L[0], used
}

// isForward reports whether a formula is a forward rule. (Of what a sound program has as rules these alone end with a monad.)
func isForward(f *api.Form) bool {
	for f.Kind == api.FoAll {
		f = &f.L[0]
	}
	for isImplication(f.Kind) {
		f = &f.L[1]
	}
	return f.Kind == api.FoMonad
}

// bind adds what stands in the monad of a rule.
func (c *checker) bind(f *api.Form) {
	switch f.Kind {
	case api.FoAtom:
		c.assume(*f, api.UsOnce)
	case api.FoBang:
		c.assume(f.L[0], api.UsLast)
	case api.FoTensor:
		c.bind(&f.L[0])
		c.bind(&f.L[1])
	case api.FoEx:
		body := c.fresh(f)
		c.bind(&body)
	default:
		c.need(f.Kind == api.FoOne)
	}
}
