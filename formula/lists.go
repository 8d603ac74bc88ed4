package formula

import (
	"peculium/api"
	"peculium/term"
)

// Rule takes a forward rule apart.
func Rule(p api.Program, f api.Form) (api.Forward, api.Errno) {
	if err := Raw(f); err != api.OK {
		return api.Forward{}, err
	}
	if Kind(p, f) != api.HyRule {
		return api.Forward{}, api.ErrRule
	}
	return attempt(func() api.Forward {
		var out api.Forward
		f = cloned(f)
		for f.Kind == api.FoAll {
			v := api.Term{Kind: api.TmVar, N: len(out.Vars)}
			out.Vars = append(out.Vars, f.Type)
			f = must(Open(f, must(term.Eta(v, f.Type))))
		}
		for ; f.Kind != api.FoMonad; f = f.L[1] {
			fact := api.Fact{Name: f.L[0].Name, Args: f.L[0].Args}
			out.Ante = append(out.Ante, api.Premise{Last: f.Kind == api.FoImp, Fact: fact})
		}
		out.Then = f.L[0]
		return out
	})
}

// Heads returns the heads of a clause.
func Heads(f api.Form) []api.Form {
	if Raw(f) != api.OK {
		return nil
	}
	return headsOf(f)
}

func headsOf(f api.Form) []api.Form {
	switch f.Kind {
	case api.FoAtom:
		return []api.Form{cloned(f)}
	case api.FoWith:
		return append(headsOf(f.L[0]), headsOf(f.L[1])...)
	case api.FoLolli, api.FoImp:
		return headsOf(f.L[1])
	case api.FoAll:
		return headsOf(f.L[0])
	}
	return nil
}

// Calls returns the names of the atoms that stand on the right, if the formula stands on the left, or on the right.
func Calls(f api.Form, left bool) []string {
	if Raw(f) != api.OK {
		return nil
	}
	var calls firsts[string]
	for at, x := range places(&f, left) {
		if x.Kind == api.FoAtom && !at.left {
			calls.add(x.Name)
		}
	}
	return calls.list
}

// Vars returns the numbers of the variables of a formula.
func Vars(f api.Form) []int { return numbers(f, api.TmVar) }

// Pars returns the numbers of the parameters of a formula.
func Pars(f api.Form) []int { return numbers(f, api.TmPar) }

// numbers returns the numbers that the heads of a kind have in a formula; none, if it is not raw.
func numbers(f api.Form, kind int) []int {
	if Raw(f) != api.OK {
		return nil
	}
	var met firsts[int]
	for _, x := range parts(&f) {
		for i := range x.Args {
			for _, t := range nodes(&x.Args[i]) {
				if t.Kind == kind {
					met.add(t.N)
				}
			}
		}
	}
	return met.list
}

// firsts has values, each once, in the order in which they are met first.
type firsts[T comparable] struct {
	list []T
	met  map[T]bool
}

func (f *firsts[T]) add(x T) {
	if f.met == nil {
		f.met = map[T]bool{}
	}
	if !f.met[x] {
		f.met[x] = true
		f.list = append(f.list, x)
	}
}
