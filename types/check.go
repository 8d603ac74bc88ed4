package types

import "peculium/api"

// Check returns OK if a program is valid.
func Check(p api.Program) api.Errno {
	if err := tooLarge(p); err != api.OK {
		return err
	}
	if !isValid(p) {
		return api.ErrProgram
	}
	return api.OK
}

// declared has what a program declares.
type declared struct {
	types  map[string]bool
	consts map[string]api.Type
	preds  map[string]api.Pred
}

// declarations returns what a program declares.
func declarations(p api.Program) declared {
	d := declared{types: map[string]bool{}, consts: map[string]api.Type{}, preds: map[string]api.Pred{}}
	for _, name := range p.Types {
		d.types[name] = true
	}
	for _, c := range p.Consts {
		d.consts[c.Name] = c.Type
	}
	for _, x := range p.Preds {
		d.preds[x.Name] = x
	}
	return d
}

// simple reports whether a type, which is not too large, is a simple type of the program.
func (d declared) simple(t api.Type) bool {
	if t.Name == arrow {
		return len(t.Args) == 2 && d.simple(t.Args[0]) && d.simple(t.Args[1])
	}
	return len(t.Args) == 0 && d.types[t.Name]
}

// bounded reports whether any type is a simple type of the program, no larger than those that a program may have.
func (d declared) bounded(t api.Type) bool {
	var m meter
	m.typ(t, 1)
	return m.parts <= api.MaxNodes && m.levels <= api.MaxDeep && d.simple(t)
}

// named reports whether variables have different capital names, and simple types.
func (d declared) named(vars []api.Named) bool {
	met := map[string]bool{}
	for _, v := range vars {
		if met[v.Name] || !isCapital(v.Name) || !d.bounded(v.Type) {
			return false
		}
		met[v.Name] = true
	}
	return true
}

// isValid reports whether a program that is not too large is valid.
func isValid(p api.Program) bool {
	d := declarations(p)
	var terms, rules, queries []string
	for _, c := range p.Consts {
		terms = append(terms, c.Name)
		if !d.simple(c.Type) {
			return false
		}
	}
	for _, x := range p.Preds {
		terms = append(terms, x.Name)
		if !d.predicate(x) {
			return false
		}
	}
	for _, r := range p.Rules {
		rules = append(rules, r.Name)
		if !isUse(r.Use) || !(scope{declared: d}).form(r.Form, true) {
			return false
		}
	}
	for _, q := range p.Queries {
		queries = append(queries, q.Name)
		if !d.query(q) {
			return false
		}
	}
	return areNames(p.Types) && areNames(terms) && areNames(rules) && areNames(queries)
}

// areNames reports whether strings are small names, all different.
func areNames(list []string) bool {
	met := map[string]bool{}
	for _, name := range list {
		if met[name] || !isSmall(name) {
			return false
		}
		met[name] = true
	}
	return true
}

func (d declared) predicate(x api.Pred) bool {
	if x.Kind < api.PrBack || x.Kind > api.PrLast || len(x.Modes) > 0 && len(x.Modes) != len(x.Types) {
		return false
	}
	for _, m := range x.Modes {
		if m < api.MdNone || m > api.MdOut {
			return false
		}
	}
	for _, t := range x.Types {
		if !d.simple(t) {
			return false
		}
	}
	return true
}

func (d declared) query(q api.Query) bool {
	if !d.named(q.Vars) {
		return false
	}
	for _, v := range q.Vars {
		if !isVariable(v.Type) {
			return false
		}
	}
	return scope{declared: d, vars: q.Vars}.form(q.Form, false)
}

// binder is a quantifier or a lambda: the type of its variable, and whether a proof chooses it.
type binder struct {
	typ    api.Type
	chosen bool
}

// scope is what may occur at a place of a formula.
type scope struct {
	declared
	vars  []api.Named // a query's variables
	bound []binder    // the binders around, the innermost one last
}

// within returns the scope of a binder that stands in a scope.
func (s scope) within(b binder) scope {
	s.bound = append(s.bound, b)
	return s
}

// shapes returns what reports of the formulas of each kind whether they are well-typed, and keep the pattern rule.
func shapes() [api.FoMonad + 1]func(s scope, f api.Form, left bool) bool {
	return [api.FoMonad + 1]func(s scope, f api.Form, left bool) bool{
		api.FoAtom: scope.atom,
		api.FoOne:  scope.lone, api.FoTop: scope.lone,
		api.FoTensor: scope.pair, api.FoWith: scope.pair, api.FoPlus: scope.pair,
		api.FoLolli: scope.implication, api.FoImp: scope.implication,
		api.FoBang: scope.single, api.FoMonad: scope.single,
		api.FoAll: scope.quantifier, api.FoEx: scope.quantifier,
	}
}

func (s scope) form(f api.Form, left bool) bool {
	list := shapes()
	return f.Kind >= api.FoAtom && f.Kind < len(list) && list[f.Kind](s, f, left)
}

func (s scope) atom(f api.Form, left bool) bool {
	x, ok := s.preds[f.Name]
	if !ok || len(f.Args) != len(x.Types) || !isNoType(f.Type) || len(f.L) > 0 {
		return false
	}
	for i, t := range f.Args {
		if !s.term(t, x.Types[i]) {
			return false
		}
	}
	return true
}

func (s scope) lone(f api.Form, left bool) bool { return isBare(f, 0) }

func (s scope) single(f api.Form, left bool) bool { return isBare(f, 1) && s.form(f.L[0], left) }

func (s scope) pair(f api.Form, left bool) bool {
	return isBare(f, 2) && s.form(f.L[0], left) && s.form(f.L[1], left)
}

func (s scope) implication(f api.Form, left bool) bool {
	return isBare(f, 2) && s.form(f.L[0], !left) && s.form(f.L[1], left)
}

func (s scope) quantifier(f api.Form, left bool) bool {
	if !isSmall(f.Name) && !isCapital(f.Name) || len(f.Args) > 0 || len(f.L) != 1 || !s.simple(f.Type) {
		return false
	}
	b := binder{f.Type, isChosen(f.Kind == api.FoAll, left)}
	return (!b.chosen || isVariable(b.typ)) && s.within(b).form(f.L[0], left)
}

// isChosen reports whether a proof chooses the variable of a quantifier that stands on a side.
func isChosen(all, left bool) bool { return all == left }

// isBare reports whether a formula has this number of formulas in it, and nothing else.
func isBare(f api.Form, parts int) bool {
	return f.Name == "" && len(f.Args) == 0 && isNoType(f.Type) && len(f.L) == parts
}

func isNoType(t api.Type) bool { return t.Name == "" && len(t.Args) == 0 }

// term reports whether a term is canonical for a simple type, and keeps the pattern rule.
func (s scope) term(t api.Term, typ api.Type) bool {
	if typ.Name == arrow {
		isLambda := t.Kind == api.TmLam && t.N == 0 && t.Name == "" && len(t.Args) == 1
		return isLambda && s.within(binder{typ: typ.Args[0]}).term(t.Args[0], typ.Args[1])
	}
	h, ok := s.head(t)
	if !ok {
		return false
	}
	list, target := arguments(h.typ)
	if target != typ.Name || len(t.Args) != len(list) || len(list) > api.MaxArgs {
		return false
	}
	for i, x := range t.Args {
		if !s.term(x, list[i]) {
			return false
		}
	}
	return !h.chosen || s.pattern(t)
}

// head returns what is known of the head of a term, if it has one that may occur.
func (s scope) head(t api.Term) (binder, bool) {
	switch {
	case t.Kind == api.TmCon && t.N == 0:
		typ, ok := s.consts[t.Name]
		return binder{typ: typ}, ok
	case t.Kind == api.TmBound && t.Name == "" && t.N >= 0 && t.N < len(s.bound):
		return s.bound[s.level(t)], true
	case t.Kind == api.TmVar && t.Name == "" && t.N >= 0 && t.N < len(s.vars):
		return binder{typ: s.vars[t.N].Type, chosen: true}, true
	}
	return binder{}, false
}

// level returns how many binders are around that of a bound variable; -1 of a query's variable, whose scope is around all binders.
func (s scope) level(t api.Term) int {
	if t.Kind == api.TmVar {
		return -1
	}
	return len(s.bound) - 1 - t.N
}

// pattern reports whether the Args of a canonical term whose head is chosen are fixed variables of base types, all different, with binders within the scope of the head's one.
func (s scope) pattern(t api.Term) bool {
	met := map[int]bool{}
	for _, x := range t.Args {
		at := s.level(x)
		if x.Kind != api.TmBound || len(x.Args) > 0 || s.bound[at].chosen || at <= s.level(t) || met[at] {
			return false
		}
		met[at] = true
	}
	return true
}
