package term

import (
	"cmp"
	"slices"

	"peculium/api"
)

// arrow is the Name of the types of functions.
const arrow = "->"

// CheckType returns OK for a valid type.
func CheckType(p api.Program, ty api.Type) api.Errno { return basesOf(p).check(ty) }

// bases are the base types of a program.
type bases map[string]bool

func basesOf(p api.Program) bases {
	b := bases{}
	for _, name := range p.Types {
		b[name] = true
	}
	return b
}

// check returns OK for a valid type, or its error.
func (b bases) check(ty api.Type) api.Errno {
	if err := formError(ty); err != api.OK {
		return err
	}
	if !b.haveAllOf(ty) {
		return api.ErrBase
	}
	return api.OK
}

// checkAll returns the first error of some types.
func (b bases) checkAll(list []api.Type) api.Errno {
	for _, ty := range list {
		if err := b.check(ty); err != api.OK {
			return err
		}
	}
	return api.OK
}

// haveAllOf reports whether the base types of a formed type are among these.
func (b bases) haveAllOf(ty api.Type) bool {
	for ; isArrow(ty); ty = ty.Args[1] {
		if !b.haveAllOf(ty.Args[0]) {
			return false
		}
	}
	return b[ty.Name]
}

// formError returns OK for a formed type, or why it is none.
func formError(ty api.Type) api.Errno {
	nodes, levels := measure(ty, partsOf)
	switch {
	case nodes > api.MaxNodes:
		return api.ErrLong
	case levels > api.MaxDeep:
		return api.ErrDeep
	case !isFormed(ty):
		return api.ErrForm
	}
	return api.OK
}

// isFormed reports whether a type that is not too large is formed.
func isFormed(ty api.Type) bool {
	if isArrow(ty) != (len(ty.Args) == 2) || !isArrow(ty) && len(ty.Args) > 0 {
		return false
	}
	return !slices.ContainsFunc(ty.Args, func(x api.Type) bool { return !isFormed(x) })
}

func isArrow(ty api.Type) bool { return ty.Name == arrow }

// SameType reports whether two types are formed, and equal.
func SameType(a, b api.Type) bool {
	return formError(a) == api.OK && formError(b) == api.OK && compareTypes(a, b) == 0
}

func compareTypes(a, b api.Type) int {
	return cmp.Or(cmp.Compare(a.Name, b.Name), compared(a.Args, b.Args, compareTypes))
}

// Arity returns how many arguments a formed type has.
func Arity(ty api.Type) int {
	if formError(ty) != api.OK {
		return 0
	}
	args, _ := parts(ty)
	return len(args)
}

// Parts returns the arguments of a formed type, and the Name of its result.
func Parts(ty api.Type) ([]api.Type, string) {
	if formError(ty) != api.OK {
		return nil, ""
	}
	args, res := parts(ty)
	return mapped(args, clonedType), res
}

// parts is Parts of a type that is known to be formed. The arguments are parts of it.
func parts(ty api.Type) ([]api.Type, string) {
	var args []api.Type
	for ; isArrow(ty); ty = ty.Args[1] {
		args = append(args, ty.Args[0])
	}
	return args, ty.Name
}

// The greatest result of Arrow: one with more has more than 2^31 - 1 bytes, or too many levels of nesting, so that nothing is promised of it (DOC.md, Limits of all of it).
const (
	maxArrowNodes  = 1 << 26
	maxArrowLevels = 1 << 16
)

// Arrow returns the type with these arguments and a base type as its result. It returns no type at all if they have no end, or are so large that there can be no copy of them.
func Arrow(args []api.Type, res string) api.Type {
	if _, levels := measureTo(api.Type{Args: args}, partsOf, maxArrowNodes, maxArrowLevels); levels == maxArrowLevels {
		return api.Type{}
	}
	ty := api.Type{Name: res}
	for _, x := range slices.Backward(args) {
		ty = api.Type{Name: arrow, Args: []api.Type{clonedType(x), ty}}
	}
	return ty
}

// clonedType returns a type that is not too large, in new memory.
func clonedType(ty api.Type) api.Type {
	ty.Args = mapped(ty.Args, clonedType)
	return ty
}
