package module_test

import (
	"reflect"
	"slices"
	"strings"
	"testing"
	"unsafe"

	"peculium/api"
	"peculium/lex"
	"peculium/syntax"
	"peculium/types"
)

// This is a second way to what package module does, nearer to the words of the chapter, and slower.

// same reports whether two values are equal, whereby empty lists are nil.
func same[T any](a, b T) bool {
	return reflect.DeepEqual(remade(reflect.ValueOf(&a).Elem()).Interface(), remade(reflect.ValueOf(&b).Elem()).Interface())
}

// nilled is a copy of a value, in new memory, with nil for each empty list.
func nilled[T any](x T) T {
	return remade(reflect.ValueOf(&x).Elem()).Interface().(T)
}

func remade(v reflect.Value) reflect.Value {
	out := reflect.New(v.Type()).Elem()
	switch v.Kind() {
	case reflect.Interface:
		if !v.IsNil() {
			out.Set(remade(v.Elem()))
		}
	case reflect.Struct:
		for n := range v.NumField() {
			out.Field(n).Set(remade(v.Field(n)))
		}
	case reflect.Slice:
		for n := range v.Len() {
			out = reflect.Append(out, remade(v.Index(n)))
		}
	default:
		out.Set(v)
	}
	return out
}

// memory gathers where the lists of a value stand, those without elements but with room, too.
func memory(v reflect.Value, visit func(at unsafe.Pointer)) {
	switch v.Kind() {
	case reflect.Struct:
		for n := range v.NumField() {
			memory(v.Field(n), visit)
		}
	case reflect.Slice:
		if v.Cap() > 0 {
			visit(v.UnsafePointer())
		}
		for n := range v.Len() {
			memory(v.Index(n), visit)
		}
	}
}

// ownMemory fails unless the lists of a result share no memory with one another, and none with the arguments.
func ownMemory(t *testing.T, call string, result any, arguments ...any) {
	t.Helper()
	met := map[unsafe.Pointer]bool{}
	for _, x := range arguments {
		memory(reflect.ValueOf(x), func(at unsafe.Pointer) { met[at] = true })
	}
	memory(reflect.ValueOf(result), func(at unsafe.Pointer) {
		if met[at] {
			t.Errorf("%v shares memory", call)
		}
		met[at] = true
	})
}

// spot is a node of a tree with its path and the Names of the binders in whose bodies it stands.
type spot struct {
	path   []int
	inside []string
	node   api.Node
}

// spots are all nodes of a tree, in preorder.
func spots(n api.Node) []spot {
	list := []spot{{node: n}}
	for i := 0; i < len(list); i++ {
		at := list[i]
		var below []spot
		for k, x := range at.node.L {
			inside := slices.Clone(at.inside)
			if slices.Contains([]int{api.NdLam, api.NdAll, api.NdEx}, at.node.Kind) && k == len(at.node.L)-1 {
				inside = append(inside, at.node.Name)
			}
			below = append(below, spot{append(slices.Clone(at.path), k), inside, x})
		}
		list = slices.Insert(list, i+1, below...)
	}
	return list
}

// freeSpots are the free occurrences of small names.
func freeSpots(item api.Node) []spot {
	var list []spot
	for _, s := range spots(item) {
		if s.node.Kind == api.NdName && item.Kind != api.NdMode && !slices.Contains(s.inside, s.node.Name) {
			list = append(list, s)
		}
	}
	return list
}

// nodeAt is the node of a tree to which a path leads.
func nodeAt(n *api.Node, path []int) *api.Node {
	for _, i := range path {
		n = &n.L[i]
	}
	return n
}

func isClause(n api.Node) bool {
	return slices.Contains([]int{api.NdRule, api.NdOnce, api.NdMost}, n.Kind)
}
func isPredicate(n api.Node) bool {
	return slices.Contains([]int{api.NdPred, api.NdFact, api.NdLast}, n.Kind)
}

// refDeclared are the names that items declare.
func refDeclared(items []api.Node) []string {
	var list []string
	for _, item := range items {
		for i, x := range item.L {
			if item.Kind == api.NdType || item.Kind == api.NdConst && i < len(item.L)-1 {
				list = append(list, x.Name)
			}
		}
		if isPredicate(item) {
			list = append(list, item.Name)
		}
	}
	return list
}

// refPlain reports whether all names of a list are plain and different.
func refPlain(list []string) bool {
	for i, name := range list {
		if !lex.IsPlain(name) || slices.Contains(list[:i], name) {
			return false
		}
	}
	return true
}

// refValid reports whether a module is valid.
func refValid(m api.Module) bool {
	if !refPlain([]string{m.Name}) || len(m.Uses) > 20 || !refPlain(m.Uses) || slices.Contains(m.Uses, m.Name) {
		return false
	}
	if syntax.Check(nd(api.NdText, m.Items...)) != api.OK {
		return false
	}
	var rules, queries []string
	for _, item := range m.Items {
		switch {
		case item.Kind == api.NdModule || item.Kind == api.NdUse || item.Kind == api.NdExport:
			return false
		case isClause(item):
			rules = append(rules, item.Name)
		case item.Kind == api.NdQuery:
			queries = append(queries, item.Name)
		}
		for _, s := range spots(item) {
			if slices.Contains([]int{api.NdLam, api.NdAll, api.NdEx}, s.node.Kind) && strings.Contains(s.node.Name, "@") {
				return false
			}
		}
	}
	own := refDeclared(m.Items)
	for i, name := range m.Exports {
		if !slices.Contains(own, name) || slices.Contains(m.Exports[:i], name) {
			return false
		}
	}
	return refPlain(own) && refPlain(rules) && refPlain(queries)
}

// refCheckAll is the error of modules.
func refCheckAll(l []api.Module) api.Errno {
	var names []string
	for _, m := range l {
		names = append(names, m.Name)
		if !refValid(m) {
			return api.ErrModule
		}
	}
	if len(l) > 20 || !refPlain(names) {
		return api.ErrModule
	}
	return api.OK
}

// find returns the module with a Name.
func find(l []api.Module, name string) (api.Module, bool) {
	for _, m := range l {
		if m.Name == name {
			return m, true
		}
	}
	return api.Module{}, false
}

// refVisit is what stands in the order when a module was visited, with the modules that are visited, but not noted yet.
func refVisit(l []api.Module, name string, open, noted []string) ([]string, api.Errno) {
	m, ok := find(l, name)
	if !ok {
		return nil, api.ErrMissing
	}
	if slices.Contains(open, name) {
		return nil, api.ErrCycle
	}
	if slices.Contains(noted, name) {
		return noted, api.OK
	}
	for _, use := range m.Uses {
		var err api.Errno
		if noted, err = refVisit(l, use, append(slices.Clone(open), name), noted); err != api.OK {
			return nil, err
		}
	}
	return append(noted, name), api.OK
}

// refOrder is the order of linking.
func refOrder(l []api.Module, root string) ([]string, api.Errno) {
	if err := refCheckAll(l); err != api.OK {
		return nil, err
	}
	return refVisit(l, root, nil, nil)
}

// refResolve is what a name is resolved to.
func refResolve(l []api.Module, in, name string) (string, api.Errno) {
	if err := refCheckAll(l); err != api.OK {
		return "", err
	}
	m, ok := find(l, in)
	if !ok {
		return "", api.ErrMissing
	}
	if !lex.IsName(name) {
		return "", api.ErrArg
	}
	return refResolved(l, m, name)
}

// refResolved is what a name is resolved to in one of some valid modules.
func refResolved(l []api.Module, m api.Module, name string) (string, api.Errno) {
	in := m.Name
	own := refDeclared(m.Items)
	var from []string
	for _, use := range m.Uses {
		u, _ := find(l, use)
		for _, x := range u.Exports {
			if name == x+"@"+use {
				return name, api.OK
			}
			if name == x {
				from = append(from, use)
			}
		}
	}
	for _, x := range own {
		if name == x+"@"+in {
			return name, api.OK
		}
		if name == x {
			from = []string{in}
		}
	}
	switch {
	case len(from) > 1:
		return "", api.ErrUnclear
	case len(from) == 0:
		return "", api.ErrUnknown
	case len(name+"@"+from[0]) > 40:
		return "", api.ErrLong
	}
	return name + "@" + from[0], api.OK
}

// refHeads are the heads of the formula at a spot.
func refHeads(s spot, all []spot) []spot {
	child := func(k int) []spot {
		path := append(slices.Clone(s.path), k)
		for _, x := range all {
			if slices.Equal(x.path, path) {
				return refHeads(x, all)
			}
		}
		return nil
	}
	switch s.node.Kind {
	case api.NdName:
		return []spot{s}
	case api.NdWith:
		return append(child(0), child(1)...)
	case api.NdLolli, api.NdImp:
		return child(1)
	case api.NdFrom, api.NdIf:
		return child(0)
	case api.NdAll:
		return child(len(s.node.L) - 1)
	}
	return nil
}

// refLinked are the linked modules.
func refLinked(l []api.Module, root string) (api.Node, api.Errno) {
	order, err := refOrder(l, root)
	if err != api.OK {
		return api.Node{}, err
	}
	out := api.Node{Kind: api.NdText}
	for _, name := range order {
		m, _ := find(l, name)
		names := refDeclared(m.Items)
		for _, item := range m.Items {
			if isClause(item) || item.Kind == api.NdQuery {
				names = append(names, item.Name)
			}
		}
		for _, x := range names {
			if len(x)+1+len(name) > 40 {
				return api.Node{}, api.ErrLong
			}
		}
		for _, item := range m.Items {
			if item.Kind == api.NdQuery && name != root {
				continue
			}
			full, err := refItem(l, m, item)
			if err != api.OK {
				return api.Node{}, err
			}
			out.L = append(out.L, full)
		}
	}
	return out, api.OK
}

// refItem is an item of the linked modules.
func refItem(l []api.Module, m api.Module, item api.Node) (api.Node, api.Errno) {
	out := nilled(item)
	for _, s := range freeSpots(item) {
		x, err := refResolved(l, m, s.node.Name)
		if err != api.OK {
			return api.Node{}, err
		}
		nodeAt(&out, s.path).Name = x
	}
	if item.Kind == api.NdMode && !slices.Contains(refDeclared(m.Items), item.Name) {
		return api.Node{}, api.ErrUnknown
	}
	if isClause(item) {
		all := spots(item)
		for _, s := range refHeads(all[1], all) {
			if slices.Contains(s.inside, s.node.Name) {
				continue
			}
			x, of, _ := strings.Cut(nodeAt(&out, s.path).Name, "@")
			home, _ := find(l, of)
			for _, other := range home.Items {
				if of != m.Name && other.Kind == api.NdPred && other.Name == x {
					return api.Node{}, api.ErrForeign
				}
			}
		}
	}
	if item.Kind != api.NdType && item.Kind != api.NdConst {
		out.Name = item.Name + "@" + m.Name
	}
	return out, api.OK
}

// refRename is a module in which a name is another one.
func refRename(m api.Module, from, to string) (api.Module, api.Errno) {
	if !refValid(m) {
		return api.Module{}, api.ErrModule
	}
	if !slices.Contains(refDeclared(m.Items), from) || !lex.IsPlain(to) {
		return api.Module{}, api.ErrArg
	}
	taken := refDeclared(m.Items)
	for _, s := range spots(nd(api.NdText, m.Items...)) {
		if slices.Contains([]int{api.NdName, api.NdLam, api.NdAll, api.NdEx}, s.node.Kind) {
			taken = append(taken, s.node.Name)
		}
	}
	if slices.Contains(taken, to) || slices.Contains(taken, to+"@"+m.Name) {
		return api.Module{}, api.ErrTaken
	}
	out := nilled(m)
	change := func(name *string) {
		switch *name {
		case from:
			*name = to
		case from + "@" + m.Name:
			*name = to + "@" + m.Name
		}
	}
	for i := range out.Exports {
		change(&out.Exports[i])
	}
	for i, item := range m.Items {
		for _, s := range freeSpots(item) {
			change(&nodeAt(&out.Items[i], s.path).Name)
		}
		if isPredicate(item) || item.Kind == api.NdMode {
			change(&out.Items[i].Name)
		}
	}
	if !refValid(out) {
		return api.Module{}, api.ErrModule
	}
	return out, api.OK
}

// inferred is the program of linked modules.
func inferred(n api.Node) (api.Program, api.Errno) {
	p, _, err := types.Infer(n)
	return p, err
}
