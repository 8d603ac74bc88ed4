package unify

import (
	"cmp"
	"slices"

	"peculium/api"
)

// room is how many parts may still be made.
type room int

// take panics with ErrLong if there is no room for n parts more.
func (r *room) take(n int) {
	*r -= room(n)
	if *r < 0 {
		panic(failure{api.ErrLong})
	}
}

// Value returns the value of a term.
func Value(s api.Store, t api.Term) (api.Term, api.Errno) {
	if err := errorOf(s, t); err != api.OK {
		return api.Term{}, err
	}
	return value(s, t)
}

// value is Value of a term that fits.
func value(s api.Store, t api.Term) (api.Term, api.Errno) {
	out, _, err := attempt(func() api.Term {
		left := room(api.MaxNodes)
		out := rebuild(t, func(t api.Term, _ int) api.Term {
			for t.Kind == api.TmVar && s.Vals[t.N].Is {
				t = fill(bodyOf(s.Vals[t.N].T), t.Args)
			}
			left.take(1)
			return t
		})
		if levelsOf(out) > api.MaxDeep {
			panic(failure{api.ErrDeep})
		}
		return out
	})
	return out, err
}

// Free returns the variables in the value of a term.
func Free(s api.Store, t api.Term) ([]int, api.Errno) {
	t, err := Value(s, t)
	if err != api.OK {
		return nil, err
	}
	var list []int
	met := map[int]bool{}
	for v := range variables(t) {
		if !met[v] {
			met[v] = true
			list = append(list, v)
		}
	}
	return list, api.OK
}

// Least returns the values of terms with parameters in the place of variables, and the types of these.
func Least(s api.Store, pars int, l []api.Term) ([]api.Term, []api.Type, api.Errno) {
	if err := Check(s); err != api.OK {
		return nil, nil, err
	}
	if !isUpTo(pars, api.MaxPars) || len(l) > api.MaxProof {
		return nil, nil, api.ErrArg
	}
	if err := errorIn(s, l); err != api.OK {
		return nil, nil, err
	}
	var list []api.Term
	for _, t := range l {
		x, err := value(s, t)
		if err != api.OK {
			return nil, nil, err
		}
		list = append(list, x)
	}
	c := closing{store: s, first: pars, known: map[int]opened{}}
	list, _, err := attempt(func() []api.Term {
		for i, t := range list {
			list[i] = rebuild(t, c.closed)
		}
		return list
	})
	if err != api.OK {
		return nil, nil, err
	}
	return list, c.types, api.OK
}

// closing puts parameters, from the number first on, in the place of variables.
type closing struct {
	store api.Store
	first int
	known map[int]opened
	types []api.Type
}

// opened is what stands for a variable: the number of a parameter, and the order in which it has the variable's arguments.
type opened struct {
	par   int
	order []int
}

// closed lets rebuild put parameters for variables.
func (c *closing) closed(t api.Term, _ int) api.Term {
	if t.Kind != api.TmVar {
		return t
	}
	x, ok := c.known[t.N]
	if !ok {
		x = c.add(t)
		c.known[t.N] = x
	}
	out := api.Term{Kind: api.TmPar, N: x.par}
	for _, i := range x.order {
		out.Args = append(out.Args, t.Args[i])
	}
	return out
}

// add makes the parameter for a variable at the place where it is met first.
func (c *closing) add(t api.Term) opened {
	x := opened{par: c.first + len(c.types)}
	if x.par >= api.MaxPars {
		panic(failure{api.ErrLong})
	}
	for i := range t.Args {
		x.order = append(x.order, i)
	}
	slices.SortFunc(x.order, func(i, j int) int {
		a, b := t.Args[i], t.Args[j]
		return cmp.Or(cmp.Compare(a.Kind, b.Kind), cmp.Compare(a.N, b.N))
	})
	names, result := split(c.store.Vals[t.N].Type)
	var sorted []string
	for _, i := range x.order {
		sorted = append(sorted, names[i])
	}
	c.types = append(c.types, joined(sorted, result))
	return x
}
