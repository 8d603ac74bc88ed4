package kernel

import "peculium/api"

// Typed reports whether a term is canonical of a type, with parameters of some types.
func Typed(p api.Program, params []api.Type, t api.Term, ty api.Type) bool {
	if termError(&t) != api.OK {
		return false
	}
	s := signatureOf(p)
	for x := range each(params) {
		if !s.isValid(x) {
			return false
		}
	}
	return s.isValid(&ty) && s.isCanonical(params, &t, &ty)
}

// signature is what terms of a program may be made of: its base types, and the types of its constants.
type signature struct {
	bases  map[string]bool
	consts map[string]*api.Type
}

func signatureOf(p api.Program) signature {
	s := signature{map[string]bool{}, map[string]*api.Type{}}
	for _, name := range p.Types {
		s.bases[name] = true
	}
	for i := range p.Consts {
		c := &p.Consts[i]
		if _, ok := s.consts[c.Name]; ok {
			continue
		}
		s.consts[c.Name] = nil // the first one with the name counts, also if its type is not valid
		if s.isValid(&c.Type) {
			s.consts[c.Name] = &c.Type
		}
	}
	return s
}

// isValid reports whether a type is one of the program.
func (s signature) isValid(ty *api.Type) bool { return isType(ty) && s.hasBases(ty) }

// hasBases reports whether the program has the base types of a formed type.
func (s signature) hasBases(ty *api.Type) bool {
	if isArrow(ty) {
		return s.hasBases(&ty.Args[0]) && s.hasBases(&ty.Args[1])
	}
	return s.bases[ty.Name]
}

// isCanonical reports whether a raw term without variables is canonical of a formed type, with parameters of some types.
func (s signature) isCanonical(pars []api.Type, t *api.Term, ty *api.Type) bool {
	var bound []*api.Type
	var is func(t *api.Term, ty *api.Type) bool
	head := func(t *api.Term) *api.Type {
		switch i := len(bound) - 1 - t.N; {
		case t.Kind == api.TmCon:
			return s.consts[t.Name]
		case t.Kind == api.TmBound && i >= 0:
			return bound[i]
		case t.Kind == api.TmPar && t.N < len(pars):
			return &pars[t.N]
		}
		return nil
	}
	is = func(t *api.Term, ty *api.Type) bool {
		if isArrow(ty) {
			if t.Kind != api.TmLam {
				return false
			}
			bound = append(bound, &ty.Args[0])
			ok := is(&t.Args[0], &ty.Args[1])
			bound = bound[:len(bound)-1]
			return ok
		}
		own := head(t)
		for i := range t.Args {
			if own == nil || !isArrow(own) || !is(&t.Args[i], &own.Args[0]) {
				return false
			}
			own = &own.Args[1]
		}
		return own != nil && !isArrow(own) && own.Name == ty.Name
	}
	return is(t, ty)
}

// eta returns the eta-long form of a head without Args, of a formed type. It has as many nodes as the type, but it may have too many levels, or Args.
func eta(t api.Term, ty *api.Type) api.Term {
	n := 0
	for x := ty; isArrow(x); x = &x.Args[1] {
		n++
	}
	if t.Kind == api.TmBound {
		t.N += n
	}
	for i := range n {
		t.Args = append(t.Args, eta(api.Term{Kind: api.TmBound, N: n - 1 - i}, &ty.Args[0]))
		ty = &ty.Args[1]
	}
	for range n {
		t = api.Term{Kind: api.TmLam, Args: []api.Term{t}}
	}
	return t
}
