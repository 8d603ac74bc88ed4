package term

import "peculium/api"

// Subst substitutes a term for the bound variable 0 of a term.
func Subst(t, s api.Term) (api.Term, api.Errno) {
	if err := rawError(t, s); err != api.OK {
		return api.Term{}, err
	}
	w := new(work)
	return result(w.fill, nodeOf(t), filling{bound: []raised{nodeOf(s)}, by: -1})
}

// Apply applies a term to a list of terms.
func Apply(t api.Term, args []api.Term) (api.Term, api.Errno) {
	if err := Raw(t); err != api.OK {
		return api.Term{}, err
	}
	if len(args) > api.MaxArgs {
		return api.Term{}, api.ErrLong
	}
	if err := rawError(args...); err != api.OK {
		return api.Term{}, err
	}
	w := new(work)
	return result(w.apply, nodeOf(t), mapped(args, nodeOf))
}

// Put puts the terms of a list for the variables with their indices, all at once.
func Put(t api.Term, l []api.Term) (api.Term, api.Errno) {
	if err := Raw(t); err != api.OK {
		return api.Term{}, err
	}
	if len(l) > api.MaxVars {
		return api.Term{}, api.ErrLong
	}
	if err := rawError(l...); err != api.OK {
		return api.Term{}, err
	}
	vars := map[int]raised{}
	for _, v := range numbers(t, api.TmVar) {
		if v < len(l) {
			vars[v] = nodeOf(l[v])
		}
	}
	w := new(work)
	return result(w.fill, nodeOf(t), filling{vars: vars})
}

// result returns what a change makes of a term and something else, or the error that it panics with.
func result[T any](change func(raised, T) raised, t raised, x T) (out api.Term, err api.Errno) {
	defer func() {
		if e, ok := recover().(api.Errno); ok {
			out, err = api.Term{}, e
		}
	}()
	made := change(t, x)
	if made.isTooLong() {
		panic(api.ErrLong)
	}
	return checked(made.term())
}

// work is a call that substitutes: how many contractions have begun.
type work struct{ contractions int }

// apply applies a term to a list of terms.
func (w *work) apply(t raised, list []raised) raised {
	for i, x := range list {
		if t.kind != api.TmLam {
			return t.with(list[i:])
		}
		t = w.contract(t, x)
	}
	return t
}

// contract returns the body of a lambda with a term in place of its variable.
func (w *work) contract(t, x raised) raised {
	w.contractions++
	if w.contractions > api.MaxContract {
		panic(api.ErrFuel)
	}
	made := w.fill(t.args[0], filling{bound: []raised{x}, by: t.by - 1})
	if made.isTooLong() {
		panic(api.ErrLong)
	}
	return made
}

// fill puts terms for the heads of a term. What comes of the heads with Args is made first, in their order, and then what is around them: so contractions within contractions, of which there may be many, are not within calls for all that is around them.
func (w *work) fill(t raised, f filling) raised {
	var made []raised
	for _, p := range f.places(t) {
		rest := len(made) - p.within
		b := builder{f, made[rest:]}
		args := b.list(p.node, p.below)
		head, _ := f.head(p.node, p.below)
		x := w.apply(head, args)
		made = append(made[:rest], x)
	}
	b := builder{f, made}
	return b.build(t, 0)
}
