package unify

import "peculium/api"

// arguments are what a variable is applied to, with the base types of these.
type arguments struct {
	args  []api.Term
	types []string
}

func (a *arguments) add(x api.Term, ty string) {
	a.args = append(a.args, x)
	a.types = append(a.types, ty)
}

// scope is what a value may have in it: arguments, for which the variables of as many lambdas around it stand, the outermost one for the first one, and parameters below level.
type scope struct {
	arguments
	level int
}

// head returns a part of a term, with some lambdas of the term around it, with the head that it has in the scope, if it has one there.
func (s scope) head(t api.Term, below int) (api.Term, bool) {
	if t.Kind != api.TmBound && t.Kind != api.TmPar || t.Kind == api.TmBound && t.N < below {
		return t, true
	}
	x := t
	if x.Kind == api.TmBound {
		x.N -= below
	}
	if i, ok := find(s.args, x); ok {
		t.Kind, t.N = api.TmBound, below+argument(len(s.args), i).N
		return t, true
	}
	return t, t.Kind == api.TmPar && t.N < s.level
}

// inward lets rebuild make a term what it is in the scope. It panics if the term can't stand there.
func (s scope) inward(t api.Term, below int) api.Term {
	t, ok := s.head(t, below)
	if !ok {
		panic(failure{})
	}
	return t
}
