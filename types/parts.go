package types

import (
	"slices"

	"peculium/api"
)

// Same reports whether two programs are valid, and equal but for the Names of quantifiers.
func Same(p, q api.Program) bool {
	return Check(p) == api.OK && Check(q) == api.OK &&
		slices.Equal(p.Types, q.Types) && slices.EqualFunc(p.Consts, q.Consts, sameConst) &&
		slices.EqualFunc(p.Preds, q.Preds, samePred) && slices.EqualFunc(p.Rules, q.Rules, sameRule) &&
		slices.EqualFunc(p.Queries, q.Queries, sameQuery)
}

func sameConst(a, b api.Const) bool { return a.Name == b.Name && sameType(a.Type, b.Type) }

func sameNamed(a, b api.Named) bool { return a.Name == b.Name && sameType(a.Type, b.Type) }

func samePred(a, b api.Pred) bool {
	return a.Name == b.Name && a.Kind == b.Kind && slices.Equal(a.Modes, b.Modes) && slices.EqualFunc(a.Types, b.Types, sameType)
}

func sameRule(a, b api.Rule) bool {
	return a.Name == b.Name && a.Use == b.Use && sameForm(a.Form, b.Form)
}

func sameQuery(a, b api.Query) bool {
	return a.Name == b.Name && slices.EqualFunc(a.Vars, b.Vars, sameNamed) && sameForm(a.Form, b.Form)
}

func sameType(a, b api.Type) bool {
	return a.Name == b.Name && slices.EqualFunc(a.Args, b.Args, sameType)
}

func sameTerm(a, b api.Term) bool {
	return a.Kind == b.Kind && a.N == b.N && a.Name == b.Name && slices.EqualFunc(a.Args, b.Args, sameTerm)
}

func sameForm(a, b api.Form) bool {
	return a.Kind == b.Kind && (a.Name == b.Name || isQuantifier(a)) && sameType(a.Type, b.Type) &&
		slices.EqualFunc(a.Args, b.Args, sameTerm) && slices.EqualFunc(a.L, b.L, sameForm)
}

// Consts returns the constants that occur.
func Consts(p api.Program) ([]string, api.Errno) {
	if err := Check(p); err != api.OK {
		return nil, err
	}
	met := occurring(p)
	var list []string
	for _, c := range p.Consts {
		if met.consts[c.Name] {
			list = append(list, c.Name)
		}
	}
	return list, api.OK
}

// Preds returns the predicates that occur.
func Preds(p api.Program) ([]string, api.Errno) {
	if err := Check(p); err != api.OK {
		return nil, err
	}
	met := occurring(p)
	var list []string
	for _, x := range p.Preds {
		if met.preds[x.Name] {
			list = append(list, x.Name)
		}
	}
	return list, api.OK
}

// Trim returns the program without the constants and predicates that do not occur, and the types that then occur nowhere.
func Trim(p api.Program) (api.Program, api.Errno) {
	if err := Check(p); err != api.OK {
		return api.Program{}, err
	}
	met := occurring(p)
	var out api.Program
	for _, c := range p.Consts {
		if met.consts[c.Name] {
			met.typ(c.Type)
			out.Consts = append(out.Consts, api.Const{Name: c.Name, Type: copyType(c.Type)})
		}
	}
	for _, x := range p.Preds {
		if met.preds[x.Name] {
			each(x.Types, met.typ)
			out.Preds = append(out.Preds, api.Pred{Name: x.Name, Types: mapped(x.Types, copyType), Kind: x.Kind, Modes: slices.Clone(x.Modes)})
		}
	}
	for _, name := range p.Types {
		if met.types[name] {
			out.Types = append(out.Types, name)
		}
	}
	out.Rules = mapped(p.Rules, func(r api.Rule) api.Rule { return api.Rule{Name: r.Name, Form: copyForm(r.Form), Use: r.Use} })
	out.Queries = mapped(p.Queries, func(q api.Query) api.Query {
		return api.Query{Name: q.Name, Vars: mapped(q.Vars, copyNamed), Form: copyForm(q.Form)}
	})
	return out, api.OK
}

// occurrences are the names that occur.
type occurrences struct {
	types, consts, preds map[string]bool
}

// occurring returns what occurs in the rules and queries of a program; of types those of quantifiers and of Vars.
func occurring(p api.Program) occurrences {
	met := occurrences{map[string]bool{}, map[string]bool{}, map[string]bool{}}
	for _, r := range p.Rules {
		met.form(r.Form)
	}
	for _, q := range p.Queries {
		for _, v := range q.Vars {
			met.typ(v.Type)
		}
		met.form(q.Form)
	}
	return met
}

func (met occurrences) form(f api.Form) {
	switch f.Kind {
	case api.FoAtom:
		met.preds[f.Name] = true
	case api.FoAll, api.FoEx:
		met.typ(f.Type)
	}
	each(f.Args, met.term)
	each(f.L, met.form)
}

func (met occurrences) term(t api.Term) {
	if t.Kind == api.TmCon {
		met.consts[t.Name] = true
	}
	each(t.Args, met.term)
}

func (met occurrences) typ(t api.Type) {
	if t.Name != arrow {
		met.types[t.Name] = true
	}
	each(t.Args, met.typ)
}

// each does something with each element of a list.
func each[T any](l []T, do func(T)) {
	for _, x := range l {
		do(x)
	}
}

// mapped returns a list of what is made of the elements of a list.
func mapped[T any](l []T, change func(T) T) []T {
	var out []T
	for _, x := range l {
		out = append(out, change(x))
	}
	return out
}

// What is returned has memory of its own.

func copyType(t api.Type) api.Type {
	return api.Type{Name: t.Name, Args: mapped(t.Args, copyType)}
}

func copyNamed(v api.Named) api.Named { return api.Named{Name: v.Name, Type: copyType(v.Type)} }

func copyTerm(t api.Term) api.Term {
	return api.Term{Kind: t.Kind, N: t.N, Name: t.Name, Args: mapped(t.Args, copyTerm)}
}

func copyForm(f api.Form) api.Form {
	return api.Form{Kind: f.Kind, Name: f.Name, Args: mapped(f.Args, copyTerm), Type: copyType(f.Type), L: mapped(f.L, copyForm)}
}
