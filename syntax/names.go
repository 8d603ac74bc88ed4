package syntax

import (
	"slices"
	"strings"

	"peculium/api"
	"peculium/lex"
)

// Names returns the small names that occur free, by their first occurrence.
func Names(n api.Node) ([]string, api.Errno) { return occurring(n, api.NdName) }

// Vars returns the capital names that occur free, by their first occurrence.
func Vars(n api.Node) ([]string, api.Errno) { return occurring(n, api.NdVar) }

// occurring returns the names of which nodes of a kind are free occurrences.
func occurring(n api.Node, kind int) ([]string, api.Errno) {
	if err := Check(n); err != api.OK {
		return nil, err
	}
	var list []string
	met := map[string]bool{}
	for at, x := range walk(n) {
		if x.Kind == kind && at.frees(x) && !met[x.Name] {
			met[x.Name] = true
			list = append(list, strings.Clone(x.Name))
		}
	}
	return list, api.OK
}

// At returns the node at a path.
func At(n api.Node, path []int) (api.Node, api.Errno) {
	if err := Check(n); err != api.OK {
		return api.Node{}, err
	}
	found, ok := follow(n, path)
	if !ok {
		return api.Node{}, api.ErrNone
	}
	return rebuild(found, unchanged), api.OK
}

// follow returns the node to which a path leads, if there is one.
func follow(n api.Node, path []int) (api.Node, bool) {
	for _, i := range path {
		if i < 0 || i >= len(n.L) {
			return api.Node{}, false
		}
		n = n.L[i]
	}
	return n, true
}

// Put returns the tree with another node at a path.
func Put(n api.Node, path []int, x api.Node) (api.Node, api.Errno) {
	if err := Check(n); err != api.OK {
		return api.Node{}, err
	}
	if err := Check(x); err != api.OK {
		return api.Node{}, err
	}
	if _, ok := follow(n, path); !ok {
		return api.Node{}, api.ErrNone
	}
	return checked(rebuild(n, func(at place, old api.Node) api.Node {
		if slices.Equal(at.path, path) {
			return x
		}
		return old
	}))
}

// Rename returns the tree in which a name that occurs free is another one.
func Rename(n api.Node, from, to string) (api.Node, api.Errno) {
	if err := Check(n); err != api.OK {
		return api.Node{}, err
	}
	if !isAny(from) || !isAny(to) {
		return api.Node{}, api.ErrArg
	}
	kind := api.NdName
	if lex.IsVar(to) {
		kind = api.NdVar
	}
	for at, x := range walk(n) {
		if x.Name == from && from != to && at.frees(x) && slices.Contains(at.inside, to) {
			return api.Node{}, api.ErrTaken
		}
	}
	return checked(rebuild(n, func(at place, x api.Node) api.Node {
		if x.Name == from && at.frees(x) {
			x.Kind, x.Name = kind, to
		}
		return x
	}))
}

// checked returns a tree that was made, or its error.
func checked(n api.Node) (api.Node, api.Errno) {
	if err := Check(n); err != api.OK {
		return api.Node{}, err
	}
	return n, api.OK
}

// Plain returns the tree in which A o- B is B -o A, and A <= B is B => A.
func Plain(n api.Node) (api.Node, api.Errno) {
	if err := Check(n); err != api.OK {
		return api.Node{}, err
	}
	return rebuild(n, func(at place, x api.Node) api.Node {
		switch x.Kind {
		case api.NdFrom:
			return pair(api.NdLolli, x.L[1], x.L[0])
		case api.NdIf:
			return pair(api.NdImp, x.L[1], x.L[0])
		}
		return x
	}), api.OK
}
