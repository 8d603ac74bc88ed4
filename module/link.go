package module

import (
	"slices"

	"peculium/api"
	"peculium/syntax"
	"peculium/types"
)

// linker makes one text of modules.
type linker struct {
	modules
	root  string
	preds set // the full names of the predicates that are proved by clauses
	text  api.Node
}

// Linked returns the linked modules.
func Linked(l []api.Module, root string) (api.Node, api.Errno) {
	ms, err := gather(l)
	if err != api.OK {
		return api.Node{}, err
	}
	order, err := ms.order(root)
	if err != api.OK {
		return api.Node{}, err
	}
	k := linker{modules: ms, root: root, preds: set{}, text: api.Node{Kind: api.NdText}}
	for _, name := range order {
		if err := k.add(k.named[name]); err != api.OK {
			return api.Node{}, err
		}
	}
	return k.text, api.OK
}

// Link returns the program of the linked modules.
func Link(l []api.Module, root string) (api.Program, api.Errno) {
	n, err := Linked(l, root)
	if err != api.OK {
		return api.Program{}, err
	}
	p, _, err := types.Infer(n)
	return p, err
}

// add adds the items of a module, behind those of the modules that it uses.
func (k *linker) add(m api.Module) api.Errno {
	if hasLong(m) {
		return api.ErrLong
	}
	for _, item := range m.Items {
		if isQuery(item) && m.Name != k.root {
			continue
		}
		if err := k.addItem(m, item); err != api.OK {
			return err
		}
	}
	return api.OK
}

// hasLong reports whether a full name of a module is too long.
func hasLong(m api.Module) bool {
	names := slices.AppendSeq(slices.Collect(declarations(m.Items)), namesOf(m.Items, isNamed))
	return slices.ContainsFunc(names, func(name string) bool { return len(linked(name, m.Name)) > api.MaxName })
}

// isNamed reports whether an item is a rule or a query.
func isNamed(n api.Node) bool { return isRule(n) || isQuery(n) }

// addItem adds an item of a module, with full names.
func (k *linker) addItem(m api.Module, item api.Node) api.Errno {
	full, err := k.fullNames(m, item)
	if err != api.OK {
		return err
	}
	out := rebuilt(item, func(name string) string { return full[name] })
	switch {
	case item.Kind == api.NdPred:
		k.preds[out.Name] = true
	case isRule(item):
		if k.isForeign(m, item, full) {
			return api.ErrForeign
		}
		fallthrough
	case isQuery(item):
		out.Name = linked(item.Name, m.Name)
	}
	k.text.L = append(k.text.L, out)
	return api.OK
}

// fullNames returns what the names of an item are resolved to: what occurs free, and what it declares or tells the modes of.
func (k *linker) fullNames(m api.Module, item api.Node) (map[string]string, api.Errno) {
	names, err := syntax.Names(item)
	if err != api.OK {
		return nil, err
	}
	switch item.Kind {
	case api.NdMode:
		if !k.declared[m.Name][item.Name] {
			return nil, api.ErrUnknown
		}
		fallthrough
	case api.NdPred, api.NdFact, api.NdLast:
		names = append(names, item.Name)
	}
	full := map[string]string{}
	for _, name := range names {
		whole, err := k.resolve(m, name)
		if err != api.OK {
			return nil, err
		}
		full[name] = whole
	}
	return full, api.OK
}

// isForeign reports whether a rule is a clause for a predicate of another module. The predicates of the modules that it uses are known already.
func (k *linker) isForeign(m api.Module, rule api.Node, full map[string]string) bool {
	for name := range heads(rule.L[0]) {
		if _, of := Split(full[name]); of != m.Name && k.preds[full[name]] {
			return true
		}
	}
	return false
}
