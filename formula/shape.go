package formula

import (
	"slices"

	"peculium/api"
)

// Kind returns the kind of a hypothesis, by its shape alone.
func Kind(p api.Program, f api.Form) int { return judgeOf(p).hypothesis(f) }

// Monadic reports whether a formula is a monadic goal, by its shape alone.
func Monadic(p api.Program, f api.Form) bool {
	return Raw(f) == api.OK && judgeOf(p).monadic(&f)
}

// judge tells the shapes of raw formulas by the kinds of predicates.
type judge struct{ kinds map[string]int }

func judgeOf(p api.Program) judge {
	kinds := map[string]int{}
	for _, x := range slices.Backward(p.Preds) { // the first one with a name counts
		kinds[x.Name] = x.Kind
	}
	return judge{kinds}
}

// hypothesis returns the kind of a hypothesis.
func (j judge) hypothesis(f api.Form) int {
	switch {
	case Raw(f) != api.OK:
		return api.HyNone
	case j.clause(&f):
		return api.HyBack
	case j.isAtom(&f, api.PrFact):
		return api.HyFact
	case j.isAtom(&f, api.PrLast):
		return api.HyLast
	case j.forward(&f):
		return api.HyRule
	}
	return api.HyNone
}

// goal reports whether a formula is a goal.
func (j judge) goal(f api.Form) bool {
	return Raw(f) == api.OK && (j.plain(&f) || j.monadic(&f))
}

// shape tells of the formulas of each kind whether they have a shape; those of a kind that is left out do not have it.
type shape [api.FoMonad + 1]func(j judge, f *api.Form) bool

func (s shape) fits(j judge, f *api.Form) bool { return s[f.Kind] != nil && s[f.Kind](j, f) }

func (j judge) plain(f *api.Form) bool {
	return shape{
		api.FoAtom: judge.isKnown,
		api.FoOne:  judge.isAny, api.FoTop: judge.isAny,
		api.FoTensor: judge.ofPlain, api.FoWith: judge.ofPlain, api.FoPlus: judge.ofPlain,
		api.FoBang: judge.ofPlain, api.FoAll: judge.ofPlain, api.FoEx: judge.ofPlain,
		api.FoLolli: judge.toPlain, api.FoImp: judge.toPlain,
	}.fits(j, f)
}

func (j judge) clause(f *api.Form) bool {
	return shape{
		api.FoAtom: judge.isBack,
		api.FoWith: judge.ofClause, api.FoAll: judge.ofClause,
		api.FoLolli: judge.toClause, api.FoImp: judge.toClause,
	}.fits(j, f)
}

func (j judge) yield(f *api.Form) bool {
	return shape{
		api.FoAtom: judge.isFact, api.FoOne: judge.isAny, api.FoBang: judge.ofLast,
		api.FoTensor: judge.ofYield, api.FoEx: judge.ofYield,
	}.fits(j, f)
}

func (j judge) end(f *api.Form) bool {
	return shape{
		api.FoAtom: judge.isFact, api.FoOne: judge.isAny, api.FoTop: judge.isAny, api.FoBang: judge.ofLast,
		api.FoTensor: judge.ofEnd, api.FoEx: judge.ofEnd,
	}.fits(j, f)
}

func (j judge) monadic(f *api.Form) bool {
	return shape{
		api.FoMonad: judge.ofEnd, api.FoAll: judge.ofMonadic,
		api.FoLolli: judge.toMonadic, api.FoImp: judge.toMonadic,
	}.fits(j, f)
}

func (j judge) isAny(f *api.Form) bool { return true }

// isKnown reports whether an atom has a kind.
func (j judge) isKnown(f *api.Form) bool {
	_, ok := j.kinds[f.Name]
	return ok
}

// isAtom reports whether a formula is an atom of a kind, from PrBack on.
func (j judge) isAtom(f *api.Form, kind int) bool {
	return f.Kind == api.FoAtom && j.kinds[f.Name] == kind
}

func (j judge) isBack(f *api.Form) bool { return j.isAtom(f, api.PrBack) }

func (j judge) isFact(f *api.Form) bool { return j.isAtom(f, api.PrFact) }

func (j judge) ofLast(f *api.Form) bool { return j.isAtom(&f.L[0], api.PrLast) }

// ofPlain and the following ones report whether all of L are of a shape.
func (j judge) ofPlain(f *api.Form) bool { return all(f.L, j.plain) }

func (j judge) ofClause(f *api.Form) bool { return all(f.L, j.clause) }

func (j judge) ofYield(f *api.Form) bool { return all(f.L, j.yield) }

func (j judge) ofEnd(f *api.Form) bool { return all(f.L, j.end) }

func (j judge) ofMonadic(f *api.Form) bool { return all(f.L, j.monadic) }

func all(list []api.Form, is func(f *api.Form) bool) bool {
	return !slices.ContainsFunc(list, func(x api.Form) bool { return !is(&x) })
}

// toPlain and the following ones tell of implications.
func (j judge) toPlain(f *api.Form) bool { return j.introduces(f) && j.plain(&f.L[1]) }

func (j judge) toClause(f *api.Form) bool { return j.plain(&f.L[0]) && j.clause(&f.L[1]) }

func (j judge) toMonadic(f *api.Form) bool {
	return j.introduces(f) && len(Vars(f.L[0])) == 0 && j.monadic(&f.L[1])
}

// introduces reports whether L[0] of an implication is a hypothesis that a goal may introduce.
func (j judge) introduces(f *api.Form) bool { return j.clause(&f.L[0]) || j.hasPremise(f) }

// hasPremise reports whether L[0] of an implication is a fact that a forward rule may have in front.
func (j judge) hasPremise(f *api.Form) bool {
	kind := api.PrFact
	if f.Kind == api.FoImp {
		kind = api.PrLast
	}
	return j.isAtom(&f.L[0], kind)
}

// forward reports whether a formula is a forward rule.
func (j judge) forward(f *api.Form) bool {
	quantifiers := 0
	for ; f.Kind == api.FoAll; f = &f.L[0] {
		quantifiers++
	}
	if !isImplication(f) {
		return false
	}
	met := make([]bool, quantifiers)
	for ; isImplication(f); f = &f.L[1] {
		if !j.hasPremise(f) {
			return false
		}
		mark(met, f.L[0].Args)
	}
	return f.Kind == api.FoMonad && j.yield(&f.L[0]) && !slices.Contains(met, false)
}

// mark marks the free bound variables of some terms by their indices.
func mark(met []bool, list []api.Term) {
	for i := range list {
		for lambdas, x := range nodes(&list[i]) {
			if at := x.N - lambdas; x.Kind == api.TmBound && at >= 0 && at < len(met) {
				met[at] = true
			}
		}
	}
}
