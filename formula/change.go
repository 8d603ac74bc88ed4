package formula

import (
	"peculium/api"
	"peculium/term"
	"peculium/unify"
)

// operation makes another term of a term.
type operation func(t api.Term) (api.Term, api.Errno)

// inPlace returns a raw formula with what an operation makes of each of its terms.
func inPlace(f api.Form, op operation) (api.Form, api.Errno) {
	return attempt(func() api.Form {
		out := cloned(f)
		room := api.MaxNodes
		for quantifiers, x := range parts(&out) {
			for i, t := range x.Args {
				t = must(below(quantifiers, t, op))
				room -= term.Size(t)
				if room < 0 { // it is too long, but a later term can have another error: so all are made, but not kept
					t = api.Term{}
				}
				x.Args[i] = t
			}
		}
		if room < 0 {
			panic(failure{api.ErrLong})
		}
		return must(out, sizeError(&out))
	})
}

// below returns what an operation makes of a term that stands below some quantifiers: for the operation, they are lambdas around it.
func below(quantifiers int, t api.Term, op operation) (api.Term, api.Errno) {
	for range quantifiers {
		t = api.Term{Kind: api.TmLam, Args: []api.Term{t}}
	}
	t, err := op(t)
	if err != api.OK {
		return api.Term{}, err
	}
	for range quantifiers {
		t = t.Args[0]
	}
	return t, api.OK
}

// Open returns the body of a quantifier, with a term for its variable.
func Open(f api.Form, t api.Term) (api.Form, api.Errno) {
	if err := Raw(f); err != api.OK {
		return api.Form{}, err
	}
	if err := term.Raw(t); err != api.OK {
		return api.Form{}, err
	}
	if !isQuantifier(&f) {
		return api.Form{}, api.ErrQuant
	}
	return inPlace(f.L[0], func(x api.Term) (api.Term, api.Errno) { return term.Subst(x, t) })
}

// Bind returns the quantifier of a kind whose variable stands for a parameter.
func Bind(f api.Form, kind, par int, x api.Named) (api.Form, api.Errno) {
	if err := Raw(f); err != api.OK {
		return api.Form{}, err
	}
	out := api.Form{Kind: kind, Name: x.Name}
	if !isQuantifier(&out) || !isIndex(par) || !isBinder(x.Name) || !isFormed(x.Type) {
		return api.Form{}, api.ErrArg
	}
	f, err := inPlace(f, func(t api.Term) (api.Term, api.Errno) { return term.Shift(t, 1, 0) })
	if err != api.OK {
		return api.Form{}, err
	}
	for quantifiers, x := range parts(&f) {
		for i := range x.Args {
			for lambdas, t := range nodes(&x.Args[i]) {
				if t.Kind == api.TmPar && t.N == par {
					t.Kind, t.N = api.TmBound, quantifiers+lambdas
				}
			}
		}
	}
	out.Type, out.L = clonedType(x.Type), []api.Form{f}
	if err := sizeError(&out); err != api.OK {
		return api.Form{}, err
	}
	return out, api.OK
}

func isIndex(n int) bool { return n >= 0 && n <= api.MaxIndex }

// Lift raises the numbers of parameters.
func Lift(f api.Form, by, from int) (api.Form, api.Errno) {
	if err := Raw(f); err != api.OK {
		return api.Form{}, err
	}
	if !isIndex(by) || !isIndex(from) {
		return api.Form{}, api.ErrArg
	}
	return inPlace(f, func(t api.Term) (api.Term, api.Errno) { return term.Lift(t, by, from) })
}

// Put returns the formula with terms for its variables.
func Put(f api.Form, l []api.Term) (api.Form, api.Errno) {
	if err := Raw(f); err != api.OK {
		return api.Form{}, err
	}
	if len(l) > api.MaxVars {
		return api.Form{}, api.ErrLong
	}
	if err := termsError(l); err != api.OK {
		return api.Form{}, err
	}
	return inPlace(f, func(t api.Term) (api.Term, api.Errno) {
		// The terms for other variables are left out: Put would look at them once for each term of the formula.
		var list []api.Term
		for _, v := range term.Vars(t) {
			list = keep(list, l, v, api.Term{Kind: api.TmBound})
		}
		return term.Put(t, list)
	})
}

// Value returns the formula with the values of its variables.
func Value(s api.Store, f api.Form) (api.Form, api.Errno) {
	if err := Raw(f); err != api.OK {
		return api.Form{}, err
	}
	if err := unify.Check(s); err != api.OK {
		return api.Form{}, err
	}
	return inPlace(f, func(t api.Term) (api.Term, api.Errno) { return unify.Value(s, t) })
}
