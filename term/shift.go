package term

import "peculium/api"

// Shift raises the free bound variables of a term, from an index on.
func Shift(t api.Term, by, from int) (api.Term, api.Errno) {
	return moved(t, by, from, isFree)
}

// Lift raises the parameters of a term, from a number on.
func Lift(t api.Term, by, from int) (api.Term, api.Errno) {
	return moved(t, by, from, func(x *api.Term, _, from int) bool { return x.Kind == api.TmPar && x.N >= from })
}

// moved returns the term in which N of some nodes is raised.
func moved(t api.Term, by, from int, is func(x *api.Term, binders, from int) bool) (api.Term, api.Errno) {
	if err := Raw(t); err != api.OK {
		return api.Term{}, err
	}
	if !isIndex(by) || !isIndex(from) {
		return api.Term{}, api.ErrArg
	}
	out := cloned(t)
	raise(&out, by, from, is)
	return checked(out)
}

// raise raises N of some nodes of a term, within its memory.
func raise(t *api.Term, by, from int, is func(x *api.Term, binders, from int) bool) {
	walk(t, func(x *api.Term, binders int) {
		if is(x, binders, from) {
			x.N += by
		}
	})
}

// checked returns a result that is known to have no more than MaxNodes nodes, or why it is none.
func checked(t api.Term) (api.Term, api.Errno) {
	switch _, levels := measure(t, argsOf); {
	case highest(t) > api.MaxIndex:
		return api.Term{}, api.ErrLong
	case levels > api.MaxDeep:
		return api.Term{}, api.ErrDeep
	}
	return t, api.OK
}

// highest returns the greatest N of a term.
func highest(t api.Term) int {
	n := 0
	walk(&t, func(x *api.Term, _ int) { n = max(n, x.N) })
	return n
}

// Eta returns the eta-long form of a head of a type.
func Eta(head api.Term, ty api.Type) (api.Term, api.Errno) {
	if err := Raw(head); err != api.OK {
		return api.Term{}, err
	}
	if head.Kind == api.TmLam || len(head.Args) > 0 {
		return api.Term{}, api.ErrForm
	}
	if err := formError(ty); err != api.OK {
		return api.Term{}, err
	}
	if hasMany(ty) {
		return api.Term{}, api.ErrLong
	}
	return checked(eta(api.Term{Kind: head.Kind, N: head.N, Name: head.Name}, ty))
}

// hasMany reports whether a formed type, or one in it, has more than MaxArgs arguments.
func hasMany(ty api.Type) bool {
	args, _ := parts(ty)
	for _, x := range args {
		if hasMany(x) {
			return true
		}
	}
	return len(args) > api.MaxArgs
}

// eta is Eta of a head without Args. Its result has as many nodes as the type.
func eta(t api.Term, ty api.Type) api.Term {
	args, _ := parts(ty)
	if t.Kind == api.TmBound {
		t.N += len(args)
	}
	for i, x := range args {
		t.Args = append(t.Args, eta(api.Term{Kind: api.TmBound, N: len(args) - 1 - i}, x))
	}
	for range args {
		t = api.Term{Kind: api.TmLam, Args: []api.Term{t}}
	}
	return t
}
