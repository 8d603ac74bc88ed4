package unify

import "peculium/api"

// maxInstance is how many terms Instance takes.
const maxInstance = 40

// Instance reports whether the terms m come of the terms l.
func Instance(pars int, l, m []api.Term) (bool, api.Errno) {
	if !isUpTo(pars, api.MaxPars) || len(l) != len(m) || len(l) > maxInstance {
		return false, api.ErrArg
	}
	for _, list := range [][]api.Term{l, m} {
		if err := errorIn(api.Store{}, list); err != api.OK {
			return false, err
		}
	}
	if !areOpen(pars, l) {
		return false, api.ErrForm
	}
	_, is, err := attempt(func() bool {
		x := matching{pars: pars, found: map[int]api.Term{}}
		for i, t := range l {
			x.match(t, m[i])
		}
		return true
	})
	return is, err
}

// areOpen reports whether the parameters from pars on have distinct simple variables as Args that are no such parameters, as many wherever they stand.
func areOpen(pars int, list []api.Term) bool {
	arities := map[int]int{}
	for _, t := range list {
		for x := range parts(t) {
			if x.Kind != api.TmPar || x.N < pars {
				continue
			}
			if n, ok := arities[x.N]; ok && n != len(x.Args) {
				return false
			}
			arities[x.N] = len(x.Args)
			for i, a := range x.Args {
				if !isSimple(a) || a.Kind == api.TmPar && a.N >= pars || holds(x.Args[:i], a) {
					return false
				}
			}
		}
	}
	return true
}

// matching is by what parameters from pars on have been replaced so far.
type matching struct {
	pars  int
	found map[int]api.Term
}

// match makes a term another one, by replacing parameters. It panics if that can't be.
func (m *matching) match(a, b api.Term) {
	if a.Kind != api.TmPar || a.N < m.pars {
		if !sameHead(a, b) || len(a.Args) != len(b.Args) {
			panic(failure{})
		}
		for i, x := range a.Args {
			m.match(x, b.Args[i])
		}
		return
	}
	if b.Kind == api.TmLam {
		panic(failure{})
	}
	// All parameters may stand in what replaces one.
	body := rebuild(b, scope{arguments{args: a.Args}, api.MaxPars}.inward)
	if known, ok := m.found[a.N]; ok && !same(known, body) {
		panic(failure{})
	}
	m.found[a.N] = body
}
