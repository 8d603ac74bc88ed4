package kernel

import "peculium/api"

// Replace returns a formula with terms for its first parameters.
func Replace(f api.Form, l []api.Term, by int) (api.Form, api.Errno) {
	if err := formError(&f); err != api.OK {
		return api.Form{}, err
	}
	r, err := replacementOf(l, by)
	if err != api.OK {
		return api.Form{}, err
	}
	if formHasVar(&f) {
		return api.Form{}, api.ErrForm
	}
	return inPlace(&f, r.term)
}

// Instance returns a proof with terms for its first parameters.
func Instance(pf api.Proof, l []api.Term, by int) (api.Proof, api.Errno) {
	if err := Formed(pf); err != api.OK {
		return api.Proof{}, err
	}
	r, err := replacementOf(l, by)
	if err != api.OK {
		return api.Proof{}, err
	}
	if !isReplaceable(&pf) {
		return api.Proof{}, api.ErrForm
	}
	room := api.MaxProof
	same := func(n int) int { return n }
	change := func(t *api.Term) api.Term {
		if t.Kind == 0 {
			return clonedTerm(t)
		}
		if err := termError(t); err != api.OK {
			panic(err)
		}
		made := r.term(t)
		room -= termSize(&made)
		if room < 0 { // it is too long, but a later Term may have another error: so all are made, but not kept
			return api.Term{}
		}
		return made
	}
	out, err := attempt(func() api.Proof { return remade{change, same}.proof(&pf) })
	switch {
	case err != api.OK:
		return api.Proof{}, err
	case room < 0 || Size(out) > api.MaxProof:
		return api.Proof{}, api.ErrLong
	}
	return out, api.OK
}

// replacement has the terms for the first parameters, and how many parameters there are then ahead of the others.
type replacement struct {
	list []link
	by   int
}

func replacementOf(l []api.Term, by int) (replacement, api.Errno) {
	if by < 0 || by > api.MaxPars || len(l) > api.MaxPars {
		return replacement{}, api.ErrArg
	}
	r := replacement{by: by}
	for t := range each(l) {
		if err := termError(t); err != api.OK {
			return replacement{}, err
		}
		r.list = append(r.list, linkOf(t))
	}
	return r, api.OK
}

// term replaces the first parameters of a raw term without variables, and panics if that has an error.
func (r replacement) term(t *api.Term) api.Term {
	x := clonedTerm(t)
	exchange(&x, api.TmPar, api.TmVar, 0)
	x = new(work).put(&x, r.list, 0).finished()
	exchange(&x, api.TmVar, api.TmPar, r.by-len(r.list))
	return x
}

// exchange makes heads of a kind those of another one, with their numbers raised, within the memory of a term.
func exchange(t *api.Term, from, to, by int) {
	if t.Kind == from {
		t.Kind, t.N = to, t.N+by
	}
	if t.N > api.MaxIndex {
		panic(api.ErrLong)
	}
	for x := range each(t.Args) {
		exchange(x, from, to, by)
	}
}

// isReplaceable reports whether a formed proof has no variables, and only raw Terms.
func isReplaceable(pf *api.Proof) bool {
	for t := range termsOf(pf) {
		if hasVar(t) || t.Kind != 0 && !isRaw(t) {
			return false
		}
	}
	for x := range proofsOf(pf) {
		if !isReplaceable(x) {
			return false
		}
	}
	return true
}

func formHasVar(f *api.Form) bool {
	for t := range each(f.Args) {
		if hasVar(t) {
			return true
		}
	}
	for x := range each(f.L) {
		if formHasVar(x) {
			return true
		}
	}
	return false
}

func hasVar(t *api.Term) bool {
	if t.Kind == api.TmVar {
		return true
	}
	for x := range each(t.Args) {
		if hasVar(x) {
			return true
		}
	}
	return false
}
