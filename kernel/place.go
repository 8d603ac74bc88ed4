package kernel

import "peculium/api"

// attempt returns what is made, or the error that making it panics with.
func attempt[T any](make func() T) (out T, err api.Errno) {
	defer func() {
		if r := recover(); r != nil {
			var none T
			out, err = none, api.ErrForm
			if e, ok := r.(api.Errno); ok {
				err = e
			}
		}
	}()
	return make(), api.OK
}

// inPlace returns a raw formula with what an operation makes of each of its terms; the operation panics if it has an error.
func inPlace(f *api.Form, op func(t *api.Term) api.Term) (api.Form, api.Errno) {
	room := api.MaxNodes
	var change func(f *api.Form, below int) api.Form
	change = func(f *api.Form, below int) api.Form {
		out := api.Form{Kind: f.Kind, Name: f.Name, Type: clonedType(&f.Type)}
		for t := range each(f.Args) {
			made := wrapped(op, t, below)
			room -= termSize(&made)
			if room >= 0 { // it is too long otherwise, but a later term may have another error: so all are made, but not kept
				out.Args = append(out.Args, made)
			}
		}
		if isQuantifier(f.Kind) {
			below++
		}
		for x := range each(f.L) {
			out.L = append(out.L, change(x, below))
		}
		return out
	}
	out, err := attempt(func() api.Form { return change(f, 0) })
	switch {
	case err != api.OK:
		return api.Form{}, err
	case room < 0 || formSize(&out) > api.MaxNodes:
		return api.Form{}, api.ErrLong
	case formLevels(&out) > api.MaxDeep:
		return api.Form{}, api.ErrDeep
	}
	return out, api.OK
}

// wrapped returns what an operation makes of a term that stands below some quantifiers: for the operation they are lambdas around it.
func wrapped(op func(t *api.Term) api.Term, t *api.Term, below int) api.Term {
	x := *t
	for range below {
		x = api.Term{Kind: api.TmLam, Args: []api.Term{x}}
	}
	x = op(&x)
	for range below {
		x = x.Args[0]
	}
	return x
}
