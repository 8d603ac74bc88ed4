package module

import (
	"slices"
	"strings"

	"peculium/api"
	"peculium/lex"
)

// modules are valid modules, by their Names, with the names that each one declares and exports.
type modules struct {
	named    map[string]api.Module
	declared map[string]set
	exported map[string]set
}

// gather returns modules as they are looked up.
func gather(l []api.Module) (modules, api.Errno) {
	if err := CheckAll(l); err != api.OK {
		return modules{}, err
	}
	ms := modules{map[string]api.Module{}, map[string]set{}, map[string]set{}}
	for _, m := range l {
		ms.named[m.Name] = m
		ms.declared[m.Name] = setOf(declarations(m.Items))
		ms.exported[m.Name] = setOf(slices.Values(m.Exports))
	}
	return ms, api.OK
}

// Order returns the names of modules in the order of linking.
func Order(l []api.Module, root string) ([]string, api.Errno) {
	ms, err := gather(l)
	if err != api.OK {
		return nil, err
	}
	return ms.order(root)
}

// stop is what the search for an order panics with where there is none.
type stop struct{ err api.Errno }

// order returns the order of linking from a root.
func (ms modules) order(root string) (list []string, err api.Errno) {
	defer func() {
		if s, ok := recover().(stop); ok {
			list, err = nil, s.err
		}
	}()
	visited, noted := set{}, set{}
	var visit func(name string)
	visit = func(name string) {
		m, ok := ms.named[name]
		switch {
		case !ok:
			panic(stop{api.ErrMissing})
		case noted[name]:
			return
		case visited[name]:
			panic(stop{api.ErrCycle})
		}
		visited[name] = true
		for _, use := range m.Uses {
			visit(use)
		}
		noted[name] = true
		list = append(list, strings.Clone(name))
	}
	visit(root)
	return list, api.OK
}

// Needs returns the names of all modules that a module uses, directly or not.
func Needs(l []api.Module, name string) ([]string, api.Errno) {
	list, err := Order(l, name)
	if err != api.OK {
		return nil, err
	}
	list = list[:len(list)-1] // the module itself is noted last
	slices.Sort(list)
	return list, api.OK
}

// Resolve returns what a name is resolved to in a module.
func Resolve(l []api.Module, in, name string) (string, api.Errno) {
	ms, err := gather(l)
	if err != api.OK {
		return "", err
	}
	m, ok := ms.named[in]
	if !ok {
		return "", api.ErrMissing
	}
	if !lex.IsName(name) {
		return "", api.ErrArg
	}
	return ms.resolve(m, name)
}

// resolve returns what a small name is resolved to in one of the modules.
func (ms modules) resolve(m api.Module, name string) (string, api.Errno) {
	plain, link := Split(name)
	homes := ms.homes(m, plain)
	if link != "" {
		homes = slices.DeleteFunc(homes, func(home string) bool { return home != link })
	}
	if len(homes) == 0 {
		return "", api.ErrUnknown
	}
	// What the module itself declares hides what it uses.
	if len(homes) > 1 && homes[0] != m.Name {
		return "", api.ErrUnclear
	}
	full := linked(plain, homes[0])
	if len(full) > api.MaxName {
		return "", api.ErrLong
	}
	return full, api.OK
}

// homes returns the Names of the modules of which a module can see a plain name: its own, and those that it uses.
func (ms modules) homes(m api.Module, plain string) []string {
	var list []string
	if ms.declared[m.Name][plain] {
		list = append(list, m.Name)
	}
	for _, use := range m.Uses {
		if ms.exported[use][plain] {
			list = append(list, use)
		}
	}
	return list
}
