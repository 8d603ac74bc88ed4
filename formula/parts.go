package formula

import (
	"iter"

	"peculium/api"
	"peculium/term"
)

// place is where a part of a formula stands: how many quantifiers of the formula are around it, and on which side it is.
type place struct {
	quantifiers int
	left        bool
}

// places yields the formulas of which a formula consists, each one ahead of its L, with their places, if the formula itself stands on a side.
func places(f *api.Form, left bool) iter.Seq2[place, *api.Form] {
	return func(yield func(place, *api.Form) bool) {
		var down func(at place, x *api.Form) bool
		down = func(at place, x *api.Form) bool {
			if !yield(at, x) {
				return false
			}
			for i := range x.L {
				if !down(at.below(x, i), &x.L[i]) {
					return false
				}
			}
			return true
		}
		down(place{left: left}, f)
	}
}

// below returns the place of an element of L of the formula at a place.
func (at place) below(f *api.Form, i int) place {
	if isQuantifier(f) {
		at.quantifiers++
	}
	if isImplication(f) && i == 0 {
		at.left = !at.left
	}
	return at
}

// parts yields the formulas of which a formula consists, with the number of quantifiers around.
func parts(f *api.Form) iter.Seq2[int, *api.Form] {
	return func(yield func(int, *api.Form) bool) {
		for at, x := range places(f, false) {
			if !yield(at.quantifiers, x) {
				return
			}
		}
	}
}

func isQuantifier(f *api.Form) bool { return f.Kind == api.FoAll || f.Kind == api.FoEx }

func isImplication(f *api.Form) bool { return f.Kind == api.FoLolli || f.Kind == api.FoImp }

// nodes yields the nodes of a raw term, each one ahead of its Args, with the number of lambdas around.
func nodes(t *api.Term) iter.Seq2[int, *api.Term] {
	return func(yield func(int, *api.Term) bool) {
		var down func(lambdas int, x *api.Term) bool
		down = func(lambdas int, x *api.Term) bool {
			if !yield(lambdas, x) {
				return false
			}
			if x.Kind == api.TmLam {
				lambdas++
			}
			for i := range x.Args {
				if !down(lambdas, &x.Args[i]) {
					return false
				}
			}
			return true
		}
		down(0, t)
	}
}

// failure is what a call panics with that comes to nothing.
type failure struct{ err api.Errno }

// attempt returns what is made, or the error with which making it fails.
func attempt[T any](make func() T) (out T, err api.Errno) {
	defer func() {
		if f, ok := recover().(failure); ok {
			var none T
			out, err = none, f.err
		}
	}()
	return make(), api.OK
}

// must returns what a call has made, if it has no error.
func must[T any](out T, err api.Errno) T {
	if err != api.OK {
		panic(failure{err})
	}
	return out
}

// meter counts nodes and levels. It panics behind MaxNodes nodes: so it also ends for what has no end.
type meter struct{ nodes, levels int }

// measured returns how many nodes and levels a formula has; ErrLong if there are too many nodes.
func measured(f *api.Form) (meter, api.Errno) {
	return attempt(func() meter {
		var m meter
		m.form(f, 1)
		return m
	})
}

func (m *meter) count(level int) {
	m.nodes++
	m.levels = max(m.levels, level)
	if m.nodes > api.MaxNodes {
		panic(failure{api.ErrLong})
	}
}

func (m *meter) form(f *api.Form, level int) {
	m.count(level)
	for i := range f.Args {
		if f.Kind == api.FoAtom {
			m.term(&f.Args[i], level+1)
		} else {
			// The terms of what is no atom are levels, but no nodes.
			m.levels = max(m.levels, level+term.Depth(f.Args[i]))
		}
	}
	for i := range f.L {
		m.form(&f.L[i], level+1)
	}
}

func (m *meter) term(t *api.Term, level int) {
	m.count(level)
	for i := range t.Args {
		m.term(&t.Args[i], level+1)
	}
}
