package unify

import (
	"slices"

	"peculium/api"
)

// arrow is the Name of types that are no base types.
const arrow = "->"

// Args returns the names of the arguments of a variable type.
func Args(t api.Type) ([]string, bool) {
	if _, ok := arity(t); !ok {
		return nil, false
	}
	names, _ := split(t)
	return names, true
}

// arity returns how many arguments a variable type has, of which there may be no more than MaxArgs.
func arity(t api.Type) (int, bool) {
	n := 0
	for t.Name == arrow {
		if len(t.Args) != 2 || !isBase(t.Args[0]) || n == api.MaxArgs {
			return 0, false
		}
		t = t.Args[1]
		n++
	}
	return n, isBase(t)
}

func isBase(t api.Type) bool { return t.Name != arrow && len(t.Args) == 0 }

// isVariable reports whether a variable of a store can have a type.
func isVariable(t api.Type) bool {
	if _, ok := arity(t); !ok {
		return false
	}
	for ; t.Name == arrow; t = t.Args[1] {
		if !isName(t.Args[0].Name) {
			return false
		}
	}
	return isName(t.Name)
}

func isName(x string) bool { return x != "" && len(x) <= api.MaxName }

// split returns the names of the arguments of a variable type, of which there may be any number, and that of its result.
func split(t api.Type) ([]string, string) {
	var names []string
	for t.Name == arrow {
		names = append(names, t.Args[0].Name)
		t = t.Args[1]
	}
	return names, t.Name
}

// joined returns the variable type with these arguments and this result.
func joined(names []string, result string) api.Type {
	t := api.Type{Name: result}
	for _, x := range slices.Backward(names) {
		t = api.Type{Name: arrow, Args: []api.Type{{Name: x}, t}}
	}
	return t
}

// sameType reports whether two variable types are equal.
func sameType(a, b api.Type) bool {
	return a.Name == b.Name && slices.EqualFunc(a.Args, b.Args, sameType)
}

// clonedType returns a variable type in new memory.
func clonedType(t api.Type) api.Type { return joined(split(t)) }
