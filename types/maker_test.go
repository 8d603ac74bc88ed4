package types_test

import (
	"fmt"
	"math/rand"
	"slices"
	"testing"

	"peculium/api"
	"peculium/syntax"
)

// nd makes a node of a kind, nm a name, vr a capital name, bd a binder or an item with a Name.
func nd(kind int, l ...api.Node) api.Node           { return api.Node{Kind: kind, L: l} }
func nm(s string, l ...api.Node) api.Node           { return api.Node{Kind: api.NdName, Name: s, L: l} }
func vr(s string, l ...api.Node) api.Node           { return api.Node{Kind: api.NdVar, Name: s, L: l} }
func bd(kind int, s string, l ...api.Node) api.Node { return api.Node{Kind: kind, Name: s, L: l} }

// What most texts of these tests declare: 18 items.
const declarations = `type i, o. const c: i. const d, e: o. const f: i -> i. const g: i -> o -> i. const lam: (i -> i) -> i.
const app: (i -> o) -> (o -> i) -> o. const big: ((i -> i) -> o) -> i.
pred p i. pred q (i -> i). pred r i o. pred z. pred h ((i -> i) -> o) i. fact a i. lasting l o. mode p in. mode r any out. mode z.
`

// parsed is the tree of a text.
func parsed(t *testing.T, text string) api.Node {
	t.Helper()
	n, at, err := syntax.Parse(text)
	if err != api.OK {
		t.Fatalf("Parse of %q = %v at %v", text, err, at)
	}
	return n
}

// shown is the text of a tree.
func shown(n api.Node) string {
	s, err := syntax.Print(n)
	return fmt.Sprint(s, err)
}

// nilled is a tree with nil for each empty L.
func nilled(n api.Node) api.Node {
	out := api.Node{Kind: n.Kind, Name: n.Name}
	for _, x := range n.L {
		out.L = append(out.L, nilled(x))
	}
	return out
}

// maker makes texts, always the same ones. One of noise choices is made without regard to types.
type maker struct {
	*rand.Rand
	noise int
	decl  refDecl
	free  []api.Named // outer variables with the types that they mostly have
}

func newMaker(t *testing.T, seed int64, noise int) maker {
	i, o := base("i"), base("o")
	return maker{rand.New(rand.NewSource(seed)), noise, declOf(parsed(t, declarations).L), []api.Named{
		{Name: "X", Type: i}, {Name: "Y", Type: o}, {Name: "F", Type: fn(i, i)}, {Name: "G", Type: fn(i, o)}, {Name: "H", Type: fn(i, o, i)}, {Name: "K", Type: fn(fn(i, i), i)},
	}}
}

func (m maker) pick(words ...string) string { return words[m.Intn(len(words))] }
func (m maker) kind(kinds ...int) int       { return kinds[m.Intn(len(kinds))] }
func (m maker) stray() bool                 { return m.Intn(m.noise) == 0 }

// binderName is mostly a new name, but sometimes one that hides another one.
func (m maker) binderName() string { return m.pick("x", "y", "x'", "v", "U", "X", "F", "c", "p", "i") }

// typ makes a type, mostly a small one.
func (m maker) typ(deep int) api.Type {
	if deep == 0 || m.Intn(5) < 3 {
		return base(m.pick("i", "o"))
	}
	return fn(m.typ(deep-1), m.typ(deep-1))
}

// typeTree is the tree of a type; sometimes one that is not there.
func (m maker) typeTree(t api.Type) api.Node {
	if m.stray() {
		return nm(m.pick("u", "c", "x", "o"))
	}
	if t.Name == "->" {
		return nd(api.NdArrow, m.typeTree(t.Args[0]), m.typeTree(t.Args[1]))
	}
	return nm(t.Name)
}

// binder makes a binder of a variable of a type, sometimes without telling it.
func (m maker) binder(kind int, v api.Named, body api.Node) api.Node {
	if m.Intn(3) == 0 {
		return bd(kind, v.Name, m.typeTree(v.Type), body)
	}
	return bd(kind, v.Name, body)
}

// name makes a node of a name, small or capital.
func name(s string, l ...api.Node) api.Node {
	if s[0] >= 'A' && s[0] <= 'Z' {
		return vr(s, l...)
	}
	return nm(s, l...)
}

// heads are the names that can be seen, with their types.
func (m maker) heads(env []api.Named) []api.Named {
	var list []api.Named
	add := func(v api.Named) {
		if !slices.ContainsFunc(list, func(w api.Named) bool { return w.Name == v.Name }) {
			list = append(list, v)
		}
	}
	for i := len(env) - 1; i >= 0; i-- {
		add(env[i])
	}
	for _, v := range m.free {
		add(v)
	}
	for _, name := range []string{"c", "d", "e", "f", "g", "lam", "app", "big"} {
		add(api.Named{Name: name, Type: m.decl.consts[name]})
	}
	return list
}

// term makes a term, mostly one of a type.
func (m maker) term(t api.Type, env []api.Named, deep int) api.Node {
	if m.stray() {
		return m.any(env, deep)
	}
	if t.Name == "->" && m.Intn(3) > 0 {
		v := api.Named{Name: m.binderName(), Type: t.Args[0]}
		return m.binder(api.NdLam, v, m.term(t.Args[1], append(slices.Clone(env), v), deep-1))
	}
	type choice struct {
		name string
		args []api.Type
	}
	var list []choice
	for _, v := range m.heads(env) {
		types := flat(v.Type)
		for k := range types {
			if typeText(fn(types[k:]...)) == typeText(t) && (deep > 0 || k == 0) {
				list = append(list, choice{v.Name, types[:k]})
			}
		}
	}
	switch {
	case len(list) == 0 && t.Name == "i":
		return nm("c")
	case len(list) == 0 && t.Name == "o":
		return nm("d")
	case len(list) == 0:
		return m.binder(api.NdLam, api.Named{Name: "w", Type: t.Args[0]}, m.term(t.Args[1], env, deep-1))
	}
	x := list[m.Intn(len(list))]
	out := name(x.name)
	for _, a := range x.args {
		if out.Kind == api.NdVar && m.Intn(5) > 0 && len(env) > 0 {
			out.L = append(out.L, name(env[m.Intn(len(env))].Name))
		} else {
			out.L = append(out.L, m.term(a, env, deep-1))
		}
	}
	return out
}

// any makes a term of any names.
func (m maker) any(env []api.Named, deep int) api.Node {
	list := m.heads(env)
	out := name(list[m.Intn(len(list))].Name)
	if m.Intn(5) == 0 {
		out = name(m.pick("k", "z", "Z", "i"))
	}
	for range m.Intn(3) {
		out.L = append(out.L, m.term(m.typ(2), env, min(deep, 1)))
	}
	return out
}

// form makes a formula.
func (m maker) form(env []api.Named, deep int) api.Node {
	if deep <= 0 || m.Intn(5) == 0 {
		return m.atom(env)
	}
	switch m.Intn(5) {
	case 0, 1:
		v := api.Named{Name: m.binderName(), Type: m.typ(1)}
		if m.Intn(6) == 0 {
			v.Type = m.typ(3)
		}
		return m.binder(m.kind(api.NdAll, api.NdEx), v, m.form(append(slices.Clone(env), v), deep-1))
	case 2:
		return nd(m.kind(api.NdBang, api.NdMonad), m.form(env, deep-1))
	}
	kind := m.kind(api.NdTensor, api.NdWith, api.NdPlus, api.NdLolli, api.NdImp, api.NdFrom, api.NdIf)
	return nd(kind, m.form(env, deep-1), m.form(env, deep-1))
}

func (m maker) atom(env []api.Named) api.Node {
	if m.Intn(8) == 0 {
		return nd(m.kind(api.NdOne, api.NdTop))
	}
	name := m.pick("p", "p", "q", "r", "z", "h", "a", "l")
	if m.stray() {
		name = m.pick("c", "x", "m@p", "r", "z")
	}
	out := nm(name)
	types := m.decl.preds[name].Types
	if m.stray() {
		types = append(slices.Clone(types), base("i"))[m.Intn(2):]
	}
	for _, t := range types {
		out.L = append(out.L, m.term(t, env, m.Intn(3)))
	}
	return out
}

// items makes rules and queries.
func (m maker) items(count, deep int) []api.Node {
	var l []api.Node
	for k := range count {
		kind := m.kind(api.NdRule, api.NdOnce, api.NdMost, api.NdQuery)
		l = append(l, bd(kind, fmt.Sprint("n", k), m.form(nil, deep)))
	}
	return l
}

// text makes a text: the declarations, rules and queries.
func (m maker) text(t *testing.T, count int) api.Node {
	n := parsed(t, declarations)
	n.L = append(n.L, m.items(count, m.Intn(4))...)
	return n
}

// damaged is a text with something changed, which is mostly one still.
func (m maker) damaged(n api.Node) api.Node {
	for {
		out := nilled(n)
		switch list := paths(out); m.Intn(4) {
		case 0:
			x := at(&out, list[m.Intn(len(list))])
			if x.Name != "" {
				x.Name = m.pick("i", "o", "c", "f", "p", "r", "z", "n0", "x", "u", "in")
			}
		case 1:
			k, l := m.Intn(len(out.L)), m.Intn(len(out.L)+1)
			out.L = slices.Insert(out.L, l, nilled(out.L[k]))
		case 2:
			k := m.Intn(len(out.L))
			out.L = slices.Delete(out.L, k, k+1)
		case 3:
			item := bd(m.kind(api.NdModule, api.NdUse), "m")
			if m.Intn(2) == 0 {
				item = bd(api.NdMode, m.pick("p", "q", "r", "c", "u"), nm(m.pick("in", "out", "any")))
			}
			out.L = slices.Insert(out.L, m.Intn(len(out.L)+1), item)
		}
		if syntax.Check(out) == api.OK {
			return out
		}
	}
}
