package term

import (
	"slices"

	"peculium/api"
)

// Check returns OK if a term is canonical of a type in a program, with these parameters and bound variables.
func Check(p api.Program, pars, bound []api.Type, t api.Term, ty api.Type) api.Errno {
	return Typed(p, api.Scope{Pars: pars, Bound: bound}, t, ty)
}

// Typed returns OK if a term is canonical of a type in a program and a scope.
func Typed(p api.Program, s api.Scope, t api.Term, ty api.Type) api.Errno {
	if err := Raw(t); err != api.OK {
		return err
	}
	b := basesOf(p)
	for _, list := range [][]api.Type{s.Vars, s.Pars, s.Bound, {ty}} {
		if err := b.checkAll(list); err != api.OK {
			return err
		}
	}
	if !(scope{s, b.constants(p, t)}).has(t, ty) {
		return api.ErrTyped
	}
	return api.OK
}

// scope is a scope with the types of constants.
type scope struct {
	api.Scope
	consts map[string]api.Type
}

// constants returns the types of those constants of a raw term that have a valid one.
func (b bases) constants(p api.Program, t api.Term) map[string]api.Type {
	wanted := map[string]bool{}
	walk(&t, func(x *api.Term, _ int) {
		if x.Kind == api.TmCon {
			wanted[x.Name] = true
		}
	})
	types := map[string]api.Type{}
	for _, c := range p.Consts {
		if !wanted[c.Name] {
			continue
		}
		wanted[c.Name] = false // the first one with the name tells its type, also if that is not valid
		if b.check(c.Type) == api.OK {
			types[c.Name] = c.Type
		}
	}
	return types
}

// has reports whether a raw term is canonical of a valid type.
func (s scope) has(t api.Term, ty api.Type) bool {
	if isArrow(ty) {
		return t.Kind == api.TmLam && s.within(ty.Args[0]).has(t.Args[0], ty.Args[1])
	}
	head, ok := s.head(t)
	if !ok {
		return false
	}
	args, res := parts(head)
	if res != ty.Name || len(args) != len(t.Args) {
		return false
	}
	for i, x := range t.Args {
		if !s.has(x, args[i]) {
			return false
		}
	}
	return true
}

// within returns the scope of a binder whose variable has a type.
func (s scope) within(ty api.Type) scope {
	// The list is clipped, so that its end, which may be a caller's memory, is not written.
	s.Bound = append(slices.Clip(s.Bound), ty)
	return s
}

// head returns the type of the head of a term, if it has a head with a type.
func (s scope) head(t api.Term) (api.Type, bool) {
	switch t.Kind {
	case api.TmCon:
		ty, ok := s.consts[t.Name]
		return ty, ok
	case api.TmBound:
		return nth(s.Bound, len(s.Bound)-1-t.N)
	case api.TmPar:
		return nth(s.Pars, t.N)
	case api.TmVar:
		return nth(s.Vars, t.N)
	}
	return api.Type{}, false
}

// nth returns the element of a list with an index, if there is one.
func nth[T any](list []T, i int) (x T, ok bool) {
	if i < 0 || i >= len(list) {
		return x, false
	}
	return list[i], true
}
