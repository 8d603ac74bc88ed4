package unify

import "peculium/api"

// Check returns OK if a store is valid.
func Check(s api.Store) api.Errno {
	if len(s.Vals) > api.MaxVars {
		return api.ErrLong
	}
	var m meter
	for _, v := range s.Vals {
		if v.Is && !m.count(v.T, 1) {
			return api.ErrLong
		}
	}
	for _, v := range s.Vals {
		if !isVal(s, v) {
			return api.ErrStore
		}
	}
	if hasCircle(s) {
		return api.ErrStore
	}
	return api.OK
}

// Fits returns OK if a term fits a store.
func Fits(s api.Store, t api.Term) api.Errno { return errorOf(s, t) }

// errorOf returns the error of a store, or the first one of terms.
func errorOf(s api.Store, list ...api.Term) api.Errno {
	if err := Check(s); err != api.OK {
		return err
	}
	return errorIn(s, list)
}

// errorIn returns the first error of terms with a store that is valid.
func errorIn(s api.Store, list []api.Term) api.Errno {
	for _, t := range list {
		var m meter
		switch {
		case !m.count(t, 1):
			return api.ErrLong
		case m.levels > api.MaxDeep:
			return api.ErrDeep
		case !(place{s, api.MaxPars}).fits(t, 0):
			return api.ErrForm
		}
	}
	return api.OK
}

// meter counts parts and levels of terms.
type meter struct{ parts, levels int }

// count counts a term that stands on a level, and reports whether there are no more than MaxNodes parts so far. It stops behind them: so it also ends for a term without end, or with more parts than can be gone through.
func (m *meter) count(t api.Term, level int) bool {
	m.parts++
	m.levels = max(m.levels, level)
	if m.parts > api.MaxNodes {
		return false
	}
	for _, x := range t.Args {
		if !m.count(x, level+1) {
			return false
		}
	}
	return true
}

// levelsOf returns the levels of a term with no more than MaxNodes parts.
func levelsOf(t api.Term) int {
	var m meter
	m.count(t, 1)
	return m.levels
}

// isVal reports whether a variable of a store, whose values are not too long, is as it has to be, but for circles.
func isVal(s api.Store, v api.Val) bool {
	n, ok := arity(v.Type)
	if !ok || !isVariable(v.Type) || !isUpTo(v.Level, api.MaxPars) {
		return false
	}
	if !v.Is {
		return sameHead(v.T, api.Term{}) && len(v.T.Args) == 0
	}
	p := place{s, v.Level}
	if !p.fits(v.T, 0) {
		return false
	}
	t := v.T
	for range n {
		if t.Kind != api.TmLam {
			return false
		}
		t = t.Args[0]
	}
	return t.Kind != api.TmLam && levelsOf(t) <= api.MaxDeep
}

func isUpTo(n, most int) bool { return n >= 0 && n <= most }

// place is where a term stands: with the variables of a store whose Levels are top at most, and parameters below top.
type place struct {
	api.Store
	top int
}

// fits reports whether a term that is not too long may stand at a place, with some lambdas around it.
func (p place) fits(t api.Term, below int) bool {
	ok := false
	switch t.Kind {
	case api.TmCon:
		ok = t.N == 0 && isName(t.Name)
	case api.TmBound:
		ok = isUpTo(t.N, below-1) && t.Name == ""
	case api.TmPar:
		ok = isUpTo(t.N, p.top-1) && t.Name == ""
	case api.TmVar:
		return isUpTo(t.N, len(p.Vals)-1) && t.Name == "" && p.fitsVariable(p.Vals[t.N], t.Args, below)
	case api.TmLam:
		return t.N == 0 && t.Name == "" && len(t.Args) == 1 && p.allFit(t.Args, below+1)
	}
	return ok && len(t.Args) <= api.MaxArgs && p.allFit(t.Args, below)
}

func (p place) allFit(list []api.Term, below int) bool {
	for _, x := range list {
		if !p.fits(x, below) {
			return false
		}
	}
	return true
}

// fitsVariable reports whether a variable may be applied to args at a place.
func (p place) fitsVariable(v api.Val, args []api.Term, below int) bool {
	n, ok := arity(v.Type)
	if !ok || n != len(args) || v.Level > p.top {
		return false
	}
	for i, x := range args {
		if !isSimple(x) || !p.fits(x, below) || x.Kind == api.TmPar && x.N < v.Level || holds(args[:i], x) {
			return false
		}
	}
	return true
}

// holds reports whether a simple variable is among some others.
func holds(list []api.Term, x api.Term) bool {
	_, ok := find(list, x)
	return ok
}

// find returns the index of the term in a list that has the head of another one.
func find(list []api.Term, x api.Term) (int, bool) {
	for i, y := range list {
		if sameHead(x, y) {
			return i, true
		}
	}
	return 0, false
}

// hasCircle reports whether a variable stands in its own value, also by way of values of others.
func hasCircle(s api.Store) bool {
	const within, left = 1, 2
	marks := make([]int, len(s.Vals))
	var closes func(v int) bool
	closes = func(v int) bool {
		if marks[v] != 0 || !s.Vals[v].Is {
			return marks[v] == within
		}
		marks[v] = within
		for w := range variables(s.Vals[v].T) {
			if closes(w) {
				return true
			}
		}
		marks[v] = left
		return false
	}
	for v := range s.Vals {
		if closes(v) {
			return true
		}
	}
	return false
}
