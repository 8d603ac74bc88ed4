package formula

import (
	"slices"

	"peculium/api"
	"peculium/term"
	"peculium/types"
	"peculium/unify"
)

// scope is what may occur at a place of a formula: Bound are the types of the quantifiers around.
type scope struct {
	api.Scope
	program api.Program
	chosen  []bool // by Bound: whether a proof chooses the variable
}

// judge returns why a formula on a side is not well-typed in a scope of a program, or breaks the pattern rule.
func (s scope) judge(f api.Form, left bool) api.Errno {
	if err := types.Check(s.program); err != api.OK {
		return err
	}
	if err := Raw(f); err != api.OK {
		return err
	}
	if !s.isAllowed() {
		return api.ErrArg
	}
	s.Bound = nil // without elements, it may still have room, which is the caller's memory
	if !s.has(&f, left) {
		return api.ErrForm
	}
	return api.OK
}

// isAllowed reports whether a scope is one that a whole formula may have.
func (s scope) isAllowed() bool {
	return len(s.Vars) <= api.MaxVars && len(s.Pars) <= api.MaxPars && len(s.Bound) == 0 &&
		!slices.ContainsFunc(s.Vars, s.isForeign) && !slices.ContainsFunc(s.Pars, s.isForeign)
}

// isForeign reports whether a type is no valid one of the program.
func (s scope) isForeign(ty api.Type) bool { return term.CheckType(s.program, ty) != api.OK }

// has reports whether a raw formula on a side is well-typed in a scope without Bound, and keeps the pattern rule.
func (s scope) has(f *api.Form, left bool) bool {
	for at, x := range places(f, left) {
		s.Bound, s.chosen = s.Bound[:at.quantifiers], s.chosen[:at.quantifiers]
		switch {
		case x.Kind == api.FoAtom && !s.hasAtom(x):
			return false
		case isQuantifier(x):
			chosen := (x.Kind == api.FoAll) == at.left
			if s.isForeign(x.Type) || chosen && !isVariable(x.Type) {
				return false
			}
			s.Bound, s.chosen = append(s.Bound, x.Type), append(s.chosen, chosen)
		}
	}
	return true
}

// isVariable reports whether a type is a variable type, with at most MaxArgs arguments.
func isVariable(ty api.Type) bool {
	_, ok := unify.Args(ty)
	return ok
}

func (s scope) hasAtom(f *api.Form) bool {
	at := slices.IndexFunc(s.program.Preds, func(x api.Pred) bool { return x.Name == f.Name })
	if at < 0 || len(f.Args) != len(s.program.Preds[at].Types) {
		return false
	}
	for i, ty := range s.program.Preds[at].Types {
		t := f.Args[i]
		if term.Typed(s.program, s.seenBy(&t), t, ty) != api.OK || !s.keepsPatterns(&t) {
			return false
		}
	}
	return true
}

// seenBy returns a scope with those types that the variables of a term have, and a base type in the place of each other one: Typed looks at all types, and there may be thousands of them, each with thousands of parts.
func (s scope) seenBy(t *api.Term) api.Scope {
	if len(s.program.Types) == 0 { // so there are no types at all
		return api.Scope{}
	}
	base := api.Type{Name: s.program.Types[0]}
	out := api.Scope{Bound: slices.Repeat([]api.Type{base}, len(s.Bound))}
	for lambdas, x := range nodes(t) {
		switch x.Kind {
		case api.TmVar:
			out.Vars = keep(out.Vars, s.Vars, x.N, base)
		case api.TmPar:
			out.Pars = keep(out.Pars, s.Pars, x.N, base)
		case api.TmBound:
			if i := len(s.Bound) - 1 - (x.N - lambdas); i >= 0 {
				out.Bound = keep(out.Bound, s.Bound, i, base)
			}
		}
	}
	return out
}

// keep returns a list with an element of another list at the same place, if there is one, and something else in the places ahead that were not there.
func keep[T any](list, from []T, i int, other T) []T {
	if i >= len(from) {
		return list
	}
	for len(list) <= i {
		list = append(list, other)
	}
	list[i] = from[i]
	return list
}

// keepsPatterns reports whether the chosen variables of a well-typed term keep the pattern rule.
func (s scope) keepsPatterns(t *api.Term) bool {
	for lambdas, x := range nodes(t) {
		if s.isChosen(x, lambdas) && !s.isPattern(x, lambdas) {
			return false
		}
	}
	return true
}

// isChosen reports whether a proof chooses the head of a term, with some lambdas around it.
func (s scope) isChosen(t *api.Term, lambdas int) bool {
	return t.Kind == api.TmVar || t.Kind == api.TmBound && t.N >= lambdas && s.chosen[len(s.chosen)-1-(t.N-lambdas)]
}

// isPattern reports whether a chosen variable is applied to what it may be. (In a well-typed term this has base types then, and the variable a variable type.)
func (s scope) isPattern(t *api.Term, lambdas int) bool {
	for i, x := range t.Args {
		isFixed := x.Kind == api.TmBound && !s.isChosen(&x, lambdas) && (t.Kind == api.TmVar || x.N < t.N)
		isPar := x.Kind == api.TmPar && t.Kind == api.TmVar
		isTwice := slices.ContainsFunc(t.Args[:i], func(y api.Term) bool { return term.Same(x, y) })
		if !isFixed && !isPar || len(x.Args) > 0 || isTwice {
			return false
		}
	}
	return true
}
