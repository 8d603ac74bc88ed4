package unify

import (
	"slices"

	"peculium/api"
)

// solution returns the store of a solution that was found over a store. If its values are too long where they share parts by variables, they are written without sharing.
func (u *solver) solution(s api.Store) api.Store {
	out, found, err := api.Store{}, false, api.OK
tries:
	for _, whole := range []bool{false, true} {
		out, found, err = attempt(func() api.Store { return u.write(s, whole) })
		switch {
		case found:
			return out
		case err != api.ErrLong:
			break tries
		}
	}
	panic(failure{err})
}

// writer writes the values of a solution.
type writer struct {
	*solver
	old   int         // how many variables there were
	whole bool        // whether the values of these are put for them, too
	news  []int       // the new variables in the solution, in the order of their new numbers
	known map[int]int // their new numbers
	left  room
}

func (u *solver) write(s api.Store, whole bool) api.Store {
	w := writer{solver: u, old: len(s.Vals), whole: whole, known: map[int]int{}, left: api.MaxNodes}
	out := api.Store{Vals: slices.Grow([]api.Val(nil), len(s.Vals))}
	for v, x := range s.Vals {
		body, ok := w.body(v)
		if x.Is && !whole {
			body = bodyOf(x.T)
		}
		out.Vals = append(out.Vals, w.val(v, body, ok))
	}
	for _, v := range w.news {
		if n, _ := split(w.Vals[v].Type); len(n) > api.MaxArgs {
			panic(failure{api.ErrLong})
		}
		out.Vals = append(out.Vals, w.val(v, api.Term{}, false))
	}
	if len(out.Vals) > api.MaxVars {
		panic(failure{api.ErrLong})
	}
	return out
}

// val returns a variable, with a value if it is one.
func (w *writer) val(v int, body api.Term, is bool) api.Val {
	x := w.Vals[v]
	out := api.Val{Level: x.Level, Type: clonedType(x.Type), Is: is}
	if is {
		n, _ := arity(x.Type)
		w.left.take(n)
		body = rebuild(body, w.written)
		if levelsOf(body) > api.MaxDeep {
			panic(failure{api.ErrDeep})
		}
		out.T = lambdas(n, body)
	}
	return out
}

// written lets rebuild put values for variables, and new numbers for new variables.
func (w *writer) written(t api.Term, _ int) api.Term {
	for t.Kind == api.TmVar && (t.N >= w.old || w.whole) {
		body, ok := w.body(t.N)
		if !ok {
			break
		}
		t = w.fill(body, t.Args)
	}
	w.left.take(1)
	if t.Kind == api.TmVar && t.N >= w.old {
		t.N = w.number(t.N)
	}
	return t
}

// number returns the new number of a new variable.
func (w *writer) number(v int) int {
	n, ok := w.known[v]
	if !ok {
		n = w.old + len(w.news)
		w.known[v] = n
		w.news = append(w.news, v)
	}
	return n
}
