package kernel

import "peculium/api"

// Open returns the body of a quantifier, with a term for its variable.
func Open(f api.Form, t api.Term) (api.Form, api.Errno) {
	if err := formError(&f); err != api.OK {
		return api.Form{}, err
	}
	if err := termError(&t); err != api.OK {
		return api.Form{}, err
	}
	if !isQuantifier(f.Kind) {
		return api.Form{}, api.ErrQuant
	}
	return open(&f, &t)
}

// open is Open of a raw quantifier and a raw term.
func open(f *api.Form, t *api.Term) (api.Form, api.Errno) {
	s := linkOf(t)
	return inPlace(&f.L[0], func(x *api.Term) api.Term {
		return new(work).subst(linkOf(x), s, -1).finished()
	})
}
