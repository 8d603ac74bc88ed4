package kernel

import "peculium/api"

// arrow is the Name of the types of functions.
const arrow = "->"

// formError returns OK for a raw formula, or why it is none.
func formError(f *api.Form) api.Errno {
	switch {
	case formSize(f) > api.MaxNodes:
		return api.ErrLong
	case formLevels(f) > api.MaxDeep:
		return api.ErrDeep
	case !isRawForm(f):
		return api.ErrForm
	}
	return api.OK
}

// formSize returns how many nodes a formula has, no more than MaxNodes + 1.
func formSize(f *api.Form) int {
	return counted(api.MaxNodes, func(tick func()) { formNodes(tick, f) })
}

// formNodes ticks for each node of a formula. The Args of what is no atom have none.
func formNodes(tick func(), f *api.Form) {
	tick()
	if f.Kind == api.FoAtom {
		for t := range each(f.Args) {
			tree(tick, t, api.MaxNodes+1, argsOf)
		}
	}
	for x := range each(f.L) {
		formNodes(tick, x)
	}
}

// formLevels returns the depth of a formula that does not have too many nodes; if it is more than MaxDeep, any number that is.
func formLevels(f *api.Form) int {
	n := 0
	for t := range each(f.Args) {
		n = max(n, levelsOf(t, api.MaxDeep, argsOf))
	}
	for x := range each(f.L) {
		n = max(n, formLevels(x))
	}
	return n + 1
}

// isRawForm reports whether a formula that is not too large is raw.
func isRawForm(f *api.Form) bool {
	if !isRawAlone(f) {
		return false
	}
	for x := range each(f.L) {
		if !isRawForm(x) {
			return false
		}
	}
	return true
}

// isRawAlone reports whether a formula has what its kind names, and nothing else, whatever is in L.
func isRawAlone(f *api.Form) bool {
	if f.Kind != api.FoAtom && len(f.Args) > 0 || !isQuantifier(f.Kind) && (f.Type.Name != "" || len(f.Type.Args) > 0) {
		return false
	}
	switch f.Kind {
	case api.FoAtom:
		return isName(f.Name) && len(f.Args) <= api.MaxArgs && areRaw(f.Args) && len(f.L) == 0
	case api.FoAll, api.FoEx:
		return (isName(f.Name) || isVar(f.Name)) && isType(&f.Type) && len(f.L) == 1
	case api.FoOne, api.FoTop:
		return f.Name == "" && len(f.L) == 0
	case api.FoTensor, api.FoWith, api.FoPlus, api.FoLolli, api.FoImp:
		return f.Name == "" && len(f.L) == 2
	case api.FoBang, api.FoMonad:
		return f.Name == "" && len(f.L) == 1
	}
	return false
}

func isQuantifier(kind int) bool { return kind == api.FoAll || kind == api.FoEx }

func isImplication(kind int) bool { return kind == api.FoLolli || kind == api.FoImp }

// termError returns OK for a raw term that is not too large, or why it is none.
func termError(t *api.Term) api.Errno {
	switch {
	case termSize(t) > api.MaxNodes:
		return api.ErrLong
	case levelsOf(t, api.MaxDeep, argsOf) > api.MaxDeep:
		return api.ErrDeep
	case !isRaw(t):
		return api.ErrForm
	}
	return api.OK
}

// termSize returns how many nodes a term has in its first MaxDeep + 1 levels, no more than MaxNodes + 1.
func termSize(t *api.Term) int {
	return counted(api.MaxNodes, func(tick func()) { tree(tick, t, api.MaxDeep+1, argsOf) })
}

// isRaw reports whether a term that has an end is raw.
func isRaw(t *api.Term) bool {
	ok := false
	switch t.Kind {
	case api.TmCon:
		ok = t.N == 0 && isName(t.Name)
	case api.TmBound, api.TmPar, api.TmVar:
		ok = t.N >= 0 && t.N <= api.MaxIndex && t.Name == ""
	case api.TmLam:
		ok = t.N == 0 && t.Name == "" && len(t.Args) == 1
	}
	return ok && len(t.Args) <= api.MaxArgs && areRaw(t.Args)
}

func areRaw(list []api.Term) bool {
	for t := range each(list) {
		if !isRaw(t) {
			return false
		}
	}
	return true
}

// isType reports whether a type is formed, and not too large.
func isType(ty *api.Type) bool {
	nodes := counted(api.MaxNodes, func(tick func()) { tree(tick, ty, api.MaxDeep+1, partsOf) })
	return nodes <= api.MaxNodes && levelsOf(ty, api.MaxDeep, partsOf) <= api.MaxDeep && isFormedType(ty)
}

// isFormedType reports whether a type that is not too large is formed.
func isFormedType(ty *api.Type) bool {
	if !isArrow(ty) {
		return len(ty.Args) == 0
	}
	return len(ty.Args) == 2 && isFormedType(&ty.Args[0]) && isFormedType(&ty.Args[1])
}

func isArrow(ty *api.Type) bool { return ty.Name == arrow }
