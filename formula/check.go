package formula

import (
	"slices"

	"peculium/api"
	"peculium/types"
)

// Check returns OK if a program is sound.
func Check(p api.Program) api.Errno {
	rules, queries, err := Blames(p)
	switch {
	case err != api.OK:
		return err
	case len(rules) > 0:
		return api.ErrClause
	case len(queries) > 0:
		return api.ErrGoal
	}
	return api.OK
}

// Blames returns the indices of the rules that are not admitted, and of the queries that are no goals.
func Blames(p api.Program) ([]int, []int, api.Errno) {
	if err := types.Check(p); err != api.OK {
		return nil, nil, err
	}
	j := judgeOf(p)
	var rules, queries []int
	for i, r := range p.Rules {
		if !slices.Contains(kindsWith(r.Use), j.hypothesis(r.Form)) {
			rules = append(rules, i)
		}
	}
	for i, q := range p.Queries {
		if !j.goal(q.Form) {
			queries = append(queries, i)
		}
	}
	return rules, queries, api.OK
}

// kindsWith returns the kinds that a rule of a valid program with this Use may have.
func kindsWith(use int) []int {
	switch use {
	case api.UsLast:
		return []int{api.HyBack, api.HyLast, api.HyRule}
	case api.UsOnce:
		return []int{api.HyBack, api.HyFact}
	}
	return []int{api.HyBack}
}

// Query returns OK if a query is one of a sound program.
func Query(p api.Program, q api.Query) api.Errno {
	if err := Check(p); err != api.OK {
		return err
	}
	p.Queries = []api.Query{q}
	return Check(p)
}

// Clause returns OK if a formula is a hypothesis, with parameters of some types.
func Clause(p api.Program, pars []api.Type, f api.Form) api.Errno {
	s := scope{Scope: api.Scope{Pars: pars}, program: p}
	if err := s.judge(f, true); err != api.OK {
		return err
	}
	if judgeOf(p).hypothesis(f) == api.HyNone {
		return api.ErrClause
	}
	return api.OK
}

// Goal returns OK if a formula is a goal in a scope.
func Goal(p api.Program, s api.Scope, f api.Form) api.Errno {
	if err := (scope{Scope: s, program: p}).judge(f, false); err != api.OK {
		return err
	}
	if !judgeOf(p).goal(f) {
		return api.ErrGoal
	}
	return api.OK
}
