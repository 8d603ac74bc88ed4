package module

import (
	"strings"

	"peculium/api"
	"peculium/lex"
)

// Rename returns a module in which one of the names that it declares is another one.
func Rename(m api.Module, from, to string) (api.Module, api.Errno) {
	if err := Check(m); err != api.OK {
		return api.Module{}, err
	}
	own := setOf(declarations(m.Items))
	if !own[from] || !lex.IsPlain(to) {
		return api.Module{}, api.ErrArg
	}
	if own[to] || stands(m, to) || stands(m, linked(to, m.Name)) {
		return api.Module{}, api.ErrTaken
	}
	change := func(name string) string {
		switch name {
		case from:
			return to
		case linked(from, m.Name):
			return linked(to, m.Name)
		}
		return name
	}
	out := api.Module{Name: strings.Clone(m.Name)}
	for _, use := range m.Uses {
		out.Uses = append(out.Uses, strings.Clone(use))
	}
	for _, name := range m.Exports {
		out.Exports = append(out.Exports, strings.Clone(change(name)))
	}
	for _, item := range m.Items {
		out.Items = append(out.Items, rebuilt(item, change))
	}
	if err := Check(out); err != api.OK {
		return api.Module{}, err
	}
	return out, api.OK
}

// stands reports whether a name is the Name of an NdName or of a binder in a module's items.
func stands(m api.Module, name string) bool {
	for n := range nodes(m.Items) {
		if n.Name == name && (n.Kind == api.NdName || isBinder(n)) {
			return true
		}
	}
	return false
}
