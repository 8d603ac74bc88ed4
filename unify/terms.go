package unify

import (
	"iter"
	"slices"

	"peculium/api"
)

// rebuild returns a term in new memory. Each part of it is what change makes of it, and then its Args are rebuilt; below is the number of lambdas of the term around it.
func rebuild(t api.Term, change func(t api.Term, below int) api.Term) api.Term {
	var build func(t api.Term, below int) api.Term
	build = func(t api.Term, below int) api.Term {
		t = change(t, below)
		if t.Kind == api.TmLam {
			below++
		}
		if len(t.Args) == 0 {
			t.Args = nil
			return t
		}
		args := make([]api.Term, 0, len(t.Args))
		for _, x := range t.Args {
			args = append(args, build(x, below))
		}
		t.Args = args
		return t
	}
	return build(t, 0)
}

// filled lets rebuild put args for the variables of the lambdas that were around a term.
func filled(args []api.Term) func(t api.Term, below int) api.Term {
	return func(t api.Term, below int) api.Term {
		if t.Kind != api.TmBound || t.N < below {
			return t
		}
		x := args[len(args)-1-(t.N-below)]
		t.Kind, t.N = x.Kind, x.N
		if x.Kind == api.TmBound {
			t.N += below
		}
		return t
	}
}

// fill returns the body of a value with args for the variables of its lambdas.
func fill(body api.Term, args []api.Term) api.Term {
	if len(args) == 0 {
		return body
	}
	return rebuild(body, filled(args))
}

// parts yields the parts of a term, each one ahead of its Args.
func parts(t api.Term) iter.Seq[api.Term] {
	return func(yield func(api.Term) bool) {
		var visit func(t api.Term) bool
		visit = func(t api.Term) bool {
			if !yield(t) {
				return false
			}
			for _, x := range t.Args {
				if !visit(x) {
					return false
				}
			}
			return true
		}
		visit(t)
	}
}

// variables yields the numbers of the variables of a term, in the order in which they stand there.
func variables(t api.Term) iter.Seq[int] {
	return func(yield func(int) bool) {
		for x := range parts(t) {
			if x.Kind == api.TmVar && !yield(x.N) {
				return
			}
		}
	}
}

// sameHead reports whether two terms differ in their Args alone.
func sameHead(a, b api.Term) bool { return a.Kind == b.Kind && a.N == b.N && a.Name == b.Name }

func same(a, b api.Term) bool { return sameHead(a, b) && slices.EqualFunc(a.Args, b.Args, same) }

// isSimple reports whether a term is a simple variable.
func isSimple(t api.Term) bool {
	return (t.Kind == api.TmBound || t.Kind == api.TmPar) && len(t.Args) == 0
}

// lambdas returns a term within some lambdas.
func lambdas(n int, t api.Term) api.Term {
	for range n {
		t = api.Term{Kind: api.TmLam, Args: []api.Term{t}}
	}
	return t
}

// bodyOf returns what is within the lambdas of a value.
func bodyOf(t api.Term) api.Term {
	for t.Kind == api.TmLam {
		t = t.Args[0]
	}
	return t
}

// eta returns a variable of a type within lambdas, applied to their variables.
func eta(v int, ty api.Type) api.Term {
	n, _ := arity(ty)
	t := api.Term{Kind: api.TmVar, N: v}
	for i := range n {
		t.Args = append(t.Args, argument(n, i))
	}
	return lambdas(n, t)
}

// argument returns the variable of a lambda, the outermost one being 0, as it stands within all n of them.
func argument(n, i int) api.Term { return api.Term{Kind: api.TmBound, N: n - 1 - i} }

// clonedTerm returns a term in new memory.
func clonedTerm(t api.Term) api.Term {
	return rebuild(t, func(t api.Term, _ int) api.Term { return t })
}

// cloned returns a store in new memory.
func cloned(s api.Store) api.Store {
	out := api.Store{Vals: slices.Grow([]api.Val(nil), len(s.Vals))}
	for _, v := range s.Vals {
		v.Type, v.T = clonedType(v.Type), clonedTerm(v.T)
		out.Vals = append(out.Vals, v)
	}
	return out
}
