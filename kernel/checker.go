package kernel

import "peculium/api"

// checker checks a proof for a sequent. It has what is in scope at the part of the proof to which the path leads.
type checker struct {
	signature
	rules int // how many of the hypotheses are rules
	hyps  []hypothesis
	pars  []api.Type
	path  []int
}

// refusal is what a check panics with: the path of the part at which the proof is refused.
type refusal struct{ path []int }

// checkerOf returns the checker for a sequent. What is no formula or no type at all is refused, so that what is checked has an end.
func checkerOf(s api.Sequent) *checker {
	c := &checker{signature: signatureOf(s.Program), rules: len(s.Program.Rules)}
	for _, r := range s.Program.Rules {
		c.assume(r.Form, r.Use)
	}
	for _, g := range s.Givens {
		c.assume(g.Form, g.Use)
	}
	for _, ty := range s.Params {
		c.parameter(ty)
	}
	for _, h := range c.hyps {
		c.need(h.Use >= api.UsLast && h.Use <= api.UsMost && formError(&h.Form) == api.OK)
	}
	for i := range c.pars {
		c.need(isType(&c.pars[i]))
	}
	c.need(formError(&s.Goal) == api.OK)
	return c
}

// need refuses the proof at the present part unless a condition is met.
func (c *checker) need(met bool) {
	if !met {
		panic(refusal{append([]int(nil), c.path...)})
	}
}

// assume adds a hypothesis, and returns it.
func (c *checker) assume(f api.Form, use int) hypothesis {
	if len(c.hyps) == api.MaxHyps {
		panic(api.ErrLong)
	}
	h := hypothesis{number(len(c.hyps)), api.Given{Form: f, Use: use}}
	c.hyps = append(c.hyps, h)
	return h
}

// parameter adds a parameter of a type, and returns it.
func (c *checker) parameter(ty api.Type) api.Term {
	if len(c.pars) == api.MaxPars {
		panic(api.ErrLong)
	}
	c.pars = append(c.pars, ty)
	return api.Term{Kind: api.TmPar, N: len(c.pars) - 1}
}

// hypothesis returns the hypothesis with a number.
func (c *checker) hypothesis(n int) hypothesis {
	c.need(n >= 0 && n < len(c.hyps))
	return c.hyps[n]
}

// linear returns the linear hypotheses from a number on.
func (c *checker) linear(from int) set {
	var s set
	for _, h := range c.hyps[from:] {
		if h.Use == api.UsOnce {
			s = s.or(h.alone())
		}
	}
	return s
}

// part checks the proof within the present one to which an index of a path leads.
func (c *checker) part(at int, goal *api.Form, pf *api.Proof) set {
	c.path = append(c.path, at)
	used := c.check(goal, pf)
	c.path = c.path[:len(c.path)-1]
	return used
}

// opened returns the body of a quantifier, with a raw term for its variable.
func (c *checker) opened(f *api.Form, t *api.Term) api.Form {
	body, err := open(f, t)
	c.need(err == api.OK)
	return body
}

// chosen opens a quantifier with a term that a proof has.
func (c *checker) chosen(f *api.Form, t *api.Term) api.Form {
	c.need(termError(t) == api.OK && c.isCanonical(c.pars, t, &f.Type))
	return c.opened(f, t)
}

// fresh opens a quantifier with a new parameter.
func (c *checker) fresh(f *api.Form) api.Form {
	t := eta(c.parameter(f.Type), &f.Type)
	c.need(termError(&t) == api.OK)
	return c.opened(f, &t)
}

// check checks a proof for a goal, and returns what it uses.
func (c *checker) check(goal *api.Form, pf *api.Proof) set {
	kinds := [api.PfMonad + 1]func(*checker, *api.Form, *api.Proof) set{
		api.PfAtom:   (*checker).atom,
		api.PfOne:    (*checker).one,
		api.PfTop:    (*checker).top,
		api.PfTensor: (*checker).tensor,
		api.PfWith:   (*checker).with,
		api.PfLeft:   (*checker).plus,
		api.PfRight:  (*checker).plus,
		api.PfLolli:  (*checker).lolli,
		api.PfImp:    (*checker).imp,
		api.PfBang:   (*checker).bang,
		api.PfAll:    (*checker).all,
		api.PfEx:     (*checker).ex,
		api.PfMonad:  (*checker).monad,
	}
	return kinds[pf.Kind](c, goal, pf)
}

func (c *checker) one(goal *api.Form, pf *api.Proof) set {
	c.need(goal.Kind == api.FoOne)
	return set{}
}

func (c *checker) top(goal *api.Form, pf *api.Proof) set {
	c.need(goal.Kind == api.FoTop)
	var used set
	for i, n := range pf.Uses {
		h := c.hypothesis(n)
		c.need(h.Use != api.UsLast && (i == 0 || n > pf.Uses[i-1]))
		used = used.or(h.alone())
	}
	return used
}

func (c *checker) tensor(goal *api.Form, pf *api.Proof) set {
	c.need(goal.Kind == api.FoTensor)
	left := c.part(0, &goal.L[0], &pf.L[0])
	right := c.part(1, &goal.L[1], &pf.L[1])
	c.need(left.and(right) == set{})
	return left.or(right)
}

func (c *checker) with(goal *api.Form, pf *api.Proof) set {
	c.need(goal.Kind == api.FoWith)
	left := c.part(0, &goal.L[0], &pf.L[0])
	right := c.part(1, &goal.L[1], &pf.L[1])
	linear := c.linear(0)
	c.need(left.and(linear) == right.and(linear))
	return left.or(right)
}

func (c *checker) plus(goal *api.Form, pf *api.Proof) set {
	c.need(goal.Kind == api.FoPlus)
	return c.part(0, &goal.L[pf.Kind-api.PfLeft], &pf.L[0])
}

func (c *checker) lolli(goal *api.Form, pf *api.Proof) set {
	c.need(goal.Kind == api.FoLolli)
	h := c.assume(goal.L[0], api.UsOnce)
	used := c.part(0, &goal.L[1], &pf.L[0])
	c.need(used.has(int(h.number)))
	c.hyps = c.hyps[:h.number]
	return used.without(h.alone())
}

func (c *checker) imp(goal *api.Form, pf *api.Proof) set {
	c.need(goal.Kind == api.FoImp)
	h := c.assume(goal.L[0], api.UsLast)
	used := c.part(0, &goal.L[1], &pf.L[0])
	c.hyps = c.hyps[:h.number]
	return used
}

func (c *checker) bang(goal *api.Form, pf *api.Proof) set {
	c.need(goal.Kind == api.FoBang)
	used := c.part(0, &goal.L[0], &pf.L[0])
	c.need(used == set{})
	return used
}

func (c *checker) all(goal *api.Form, pf *api.Proof) set {
	c.need(goal.Kind == api.FoAll)
	pars := len(c.pars)
	body := c.fresh(goal)
	used := c.part(0, &body, &pf.L[0])
	c.pars = c.pars[:pars]
	return used
}

func (c *checker) ex(goal *api.Form, pf *api.Proof) set {
	c.need(goal.Kind == api.FoEx)
	body := c.chosen(goal, &pf.Term)
	return c.part(0, &body, &pf.L[0])
}
