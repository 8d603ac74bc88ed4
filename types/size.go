package types

import (
	"slices"

	"peculium/api"
)

// meter counts parts and levels. Behind MaxNodes parts it stops: what has no end, or is larger than memory since it shares parts, is not gone through.
type meter struct{ parts, levels int }

// count counts a part that stands on a level, and reports whether to go on.
func (m *meter) count(level int) bool {
	if m.parts > api.MaxNodes {
		return false
	}
	m.parts++
	m.levels = max(m.levels, level)
	return m.parts <= api.MaxNodes
}

func (m *meter) typ(t api.Type, level int) bool {
	return m.count(level) && !slices.ContainsFunc(t.Args, func(x api.Type) bool { return !m.typ(x, level+1) })
}

func (m *meter) term(t api.Term, level int) bool {
	return m.count(level) && !slices.ContainsFunc(t.Args, func(x api.Term) bool { return !m.term(x, level+1) })
}

// form counts a formula, and in within the types of its quantifiers.
func (m *meter) form(within *meter, f api.Form, level int) bool {
	if !m.count(level) || isQuantifier(f) && !within.typ(f.Type, 1) {
		return false
	}
	if f.Kind == api.FoAtom && slices.ContainsFunc(f.Args, func(x api.Term) bool { return !m.term(x, level+1) }) {
		return false
	}
	return !slices.ContainsFunc(f.L, func(x api.Form) bool { return !m.form(within, x, level+1) })
}

// levelsOf returns the levels of a term that is not too large.
func levelsOf(t api.Term) int {
	var m meter
	m.term(t, 1)
	return m.levels
}

func isQuantifier(f api.Form) bool { return f.Kind == api.FoAll || f.Kind == api.FoEx }

// tooLarge returns ErrLong or ErrDeep, if a program has more of something, or more levels, than a valid one.
func tooLarge(p api.Program) api.Errno {
	if hasMany(p) {
		return api.ErrLong
	}
	var declared, rules, within meter
	for _, c := range p.Consts {
		declared.typ(c.Type, 1)
	}
	for _, x := range p.Preds {
		for _, t := range x.Types {
			declared.typ(t, 1)
		}
	}
	for _, r := range p.Rules {
		rules.form(&within, r.Form, 1)
	}
	all := []meter{declared, rules}
	for _, q := range p.Queries {
		var query meter
		for _, v := range q.Vars {
			within.typ(v.Type, 1)
		}
		query.form(&within, q.Form, 1)
		all = append(all, query)
	}
	all = append(all, within)
	switch {
	case slices.ContainsFunc(all, func(m meter) bool { return m.parts > api.MaxNodes }):
		return api.ErrLong
	case slices.ContainsFunc(all, func(m meter) bool { return m.levels > api.MaxDeep }):
		return api.ErrDeep
	}
	return api.OK
}

// hasMany reports whether a list of a program has more elements than that of a valid one.
func hasMany(p api.Program) bool {
	return len(p.Types) > api.MaxTypes || len(p.Consts) > api.MaxConsts || len(p.Preds) > api.MaxPreds ||
		len(p.Rules) > api.MaxRules || len(p.Queries) > api.MaxQueries ||
		slices.ContainsFunc(p.Preds, func(x api.Pred) bool { return len(x.Types) > api.MaxArgs }) ||
		slices.ContainsFunc(p.Queries, func(q api.Query) bool { return len(q.Vars) > api.MaxArgs })
}

// counter counts the parts of what is made. What becomes too large panics with ErrLong.
type counter int

func (c *counter) more() {
	*c++
	if *c > api.MaxNodes {
		panic(api.ErrLong)
	}
}

// built returns what is made, or the error that it panics with.
func built[T any](make func() T) (out T, err api.Errno) {
	defer func() {
		if e, ok := recover().(api.Errno); ok {
			var none T
			out, err = none, e
		}
	}()
	return make(), api.OK
}
