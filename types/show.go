package types

import (
	"slices"

	"peculium/api"
	"peculium/syntax"
)

// Show returns a text of a program.
func Show(p api.Program) (api.Node, api.Errno) {
	if err := Check(p); err != api.OK {
		return api.Node{}, err
	}
	n, err := built(func() api.Node { return (&shower{declared: declarations(p)}).text(p) })
	if err == api.OK {
		err = syntax.Check(n)
	}
	if err != api.OK {
		return api.Node{}, err
	}
	return n, api.OK
}

// shower makes trees of what is valid, and counts their nodes, so that it stops when there are too many.
type shower struct {
	declared
	counter
	vars  []api.Named // a query's variables
	bound []api.Named // the binders around, with their names in the tree, the innermost one last
}

// node makes a node.
func (s *shower) node(kind int, name string, l ...api.Node) api.Node {
	s.more()
	return api.Node{Kind: kind, Name: name, L: l}
}

// named makes a node for each name.
func (s *shower) named(names []string) []api.Node {
	var l []api.Node
	for _, name := range names {
		l = append(l, s.node(api.NdName, name))
	}
	return l
}

// trees makes the tree of each type.
func (s *shower) trees(types []api.Type) []api.Node {
	var l []api.Node
	for _, t := range types {
		l = append(l, treeOf(t, &s.counter))
	}
	return l
}

func (s *shower) text(p api.Program) api.Node {
	var items []api.Node
	if len(p.Types) > 0 {
		items = append(items, s.node(api.NdType, "", s.named(p.Types)...))
	}
	for _, c := range p.Consts {
		l := append(s.named([]string{c.Name}), treeOf(c.Type, &s.counter))
		items = append(items, s.node(api.NdConst, "", l...))
	}
	for _, x := range p.Preds {
		items = append(items, s.node(api.NdPred+x.Kind-api.PrBack, x.Name, s.trees(x.Types)...))
		if len(x.Modes) > 0 {
			items = append(items, s.node(api.NdMode, x.Name, s.named(words(x.Modes))...))
		}
	}
	for _, r := range p.Rules {
		items = append(items, s.node(api.NdRule+r.Use-api.UsLast, r.Name, s.form(r.Form)))
	}
	for _, q := range p.Queries {
		s.vars = q.Vars
		items = append(items, s.node(api.NdQuery, q.Name, s.form(q.Form)))
	}
	return s.node(api.NdText, "", items...)
}

// words returns the words of modes.
func words(modes []int) []string {
	list := [3]string{api.MdNone: "any", api.MdIn: "in", api.MdOut: "out"}
	var l []string
	for _, m := range modes {
		l = append(l, list[m])
	}
	return l
}

// nodeKinds are the kinds of nodes of formulas, by the kinds of these.
var nodeKinds = [api.FoMonad + 1]int{
	api.FoAtom: api.NdName, api.FoOne: api.NdOne, api.FoTop: api.NdTop,
	api.FoTensor: api.NdTensor, api.FoWith: api.NdWith, api.FoPlus: api.NdPlus, api.FoLolli: api.NdLolli, api.FoImp: api.NdImp,
	api.FoBang: api.NdBang, api.FoAll: api.NdAll, api.FoEx: api.NdEx, api.FoMonad: api.NdMonad,
}

func (s *shower) form(f api.Form) api.Node {
	kind := nodeKinds[f.Kind]
	if isQuantifier(f) {
		return s.binder(kind, f.Name, f.Type, func() api.Node { return s.form(f.L[0]) })
	}
	var l []api.Node
	for i, x := range f.Args {
		l = append(l, s.term(x, s.preds[f.Name].Types[i]))
	}
	for _, x := range f.L {
		l = append(l, s.form(x))
	}
	return s.node(kind, f.Name, l...)
}

// binder makes a binder, with a name like the one that is told, and its body.
func (s *shower) binder(kind int, name string, t api.Type, body func() api.Node) api.Node {
	for s.taken(name) {
		name += "_"
	}
	typ := treeOf(t, &s.counter)
	s.bound = append(s.bound, api.Named{Name: name, Type: t})
	inner := body()
	s.bound = s.bound[:len(s.bound)-1]
	return s.node(kind, name, typ, inner)
}

// taken reports whether a name is one with which another one could be confused.
func (s *shower) taken(name string) bool {
	has := func(v api.Named) bool { return v.Name == name }
	_, isConst := s.consts[name]
	_, isPred := s.preds[name]
	return isConst || isPred || slices.ContainsFunc(s.vars, has) || slices.ContainsFunc(s.bound, has)
}

// term makes the tree of a term that is canonical for a type.
func (s *shower) term(t api.Term, typ api.Type) api.Node {
	if t.Kind == api.TmLam {
		return s.binder(api.NdLam, "x", typ.Args[0], func() api.Node { return s.term(t.Args[0], typ.Args[1]) })
	}
	head := s.head(t)
	kind := api.NdName
	if head.Name[0] >= 'A' && head.Name[0] <= 'Z' {
		kind = api.NdVar
	}
	list, _ := arguments(head.Type)
	var l []api.Node
	for i, x := range t.Args {
		l = append(l, s.term(x, list[i]))
	}
	return s.node(kind, head.Name, l...)
}

// head returns the name and the type of the head of a term.
func (s *shower) head(t api.Term) api.Named {
	switch t.Kind {
	case api.TmBound:
		return s.bound[len(s.bound)-1-t.N]
	case api.TmVar:
		return s.vars[t.N]
	}
	return api.Named{Name: t.Name, Type: s.consts[t.Name]}
}
