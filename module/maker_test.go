package module_test

import (
	"fmt"
	"math/rand"
	"slices"
	"strings"
	"testing"

	"peculium/api"
	"peculium/module"
	"peculium/syntax"
)

// nd makes a node of a kind, nm a name, bd a binder or an item with a Name.
func nd(kind int, l ...api.Node) api.Node           { return api.Node{Kind: kind, L: l} }
func nm(s string, l ...api.Node) api.Node           { return api.Node{Kind: api.NdName, Name: s, L: l} }
func vr(s string, l ...api.Node) api.Node           { return api.Node{Kind: api.NdVar, Name: s, L: l} }
func bd(kind int, s string, l ...api.Node) api.Node { return api.Node{Kind: kind, Name: s, L: l} }

// parsed is the tree of a text.
func parsed(t *testing.T, text string) api.Node {
	t.Helper()
	n, at, err := syntax.Parse(text)
	if err != api.OK {
		t.Fatalf("Parse of %q = %v at %v", text, err, at)
	}
	return n
}

// read is the module of a text.
func read(t *testing.T, text string) api.Module {
	t.Helper()
	m, err := module.Read(parsed(t, text))
	if err != api.OK {
		t.Fatalf("Read of %q = %v", text, err)
	}
	return m
}

// readAll are the modules of some texts.
func readAll(t *testing.T, texts ...string) []api.Module {
	t.Helper()
	var list []api.Module
	for _, text := range texts {
		list = append(list, read(t, text))
	}
	return list
}

// shown is the text of a tree in one line.
func shown(n api.Node) string {
	s, err := syntax.Print(n)
	if err != api.OK {
		return fmt.Sprintf("%v with %v", n, err)
	}
	return strings.ReplaceAll(strings.TrimSuffix(s, "\n"), "\n", " ")
}

// shownItems is the text of items in one line.
func shownItems(l []api.Node) string { return shown(nd(api.NdText, l...)) }

// shownModule tells a module, valid or not.
func shownModule(m api.Module) string {
	return fmt.Sprintf("%q uses %q exports %q: %v", m.Name, m.Uses, m.Exports, shownItems(m.Items))
}

// shownAll tells modules.
func shownAll(l []api.Module) string {
	var lines []string
	for _, m := range l {
		lines = append(lines, shownModule(m))
	}
	return strings.Join(lines, "\n")
}

// wide is a text of so many nodes that declares nothing.
func wide(nodes int) []api.Node {
	var list []api.Node
	for count := 1; count < nodes; count++ {
		list = append(list, bd(api.NdMode, "p"))
	}
	return list
}

// high is an item of so many levels.
func high(levels int) api.Node {
	form := nd(api.NdOne)
	for range levels - 2 {
		form = nd(api.NdBang, form)
	}
	return bd(api.NdRule, "high", form)
}

// maker makes modules, always the same ones. One of noise choices is made without regard to what is valid, or known.
type maker struct {
	*rand.Rand
	noise int
}

func newMaker(seed int64, noise int) maker { return maker{rand.New(rand.NewSource(seed)), noise} }

func (m maker) pick(words ...string) string { return words[m.Intn(len(words))] }
func (m maker) kind(kinds ...int) int       { return kinds[m.Intn(len(kinds))] }
func (m maker) stray() bool                 { return m.Intn(m.noise) == 0 }

// What the maker calls modules and what they declare: few names, so that many meet.
var (
	homes    = []string{"m", "n", "k", "u", "v", "w"}
	pool     = []string{"a", "b", "c", "d", "e", "f", "g", "in"}
	longName = "x" + strings.Repeat("y", 37)
)

// modules makes a list of modules, mostly valid ones.
func (m maker) modules() []api.Module {
	names := slices.Clone(homes[:1+m.Intn(len(homes))])
	m.Shuffle(len(names), func(i, j int) { names[i], names[j] = names[j], names[i] })
	declared := map[string][]string{}
	for _, name := range names {
		declared[name] = m.some(pool)
	}
	exports := map[string][]string{}
	for _, name := range names {
		exports[name] = m.some(declared[name])
	}
	var list []api.Module
	for i, name := range names {
		uses := m.some(names[:i]) // so that most have an order
		if m.stray() {
			uses = append(uses, m.pick(m.pick(homes...), m.pick(names...), m.pick(names[i:]...), m.pick(names[i:]...)))
		}
		if m.stray() && len(uses) > 0 {
			m.Shuffle(len(uses), func(i, j int) { uses[i], uses[j] = uses[j], uses[i] })
		}
		list = append(list, m.module(name, uses, declared[name], exports))
	}
	if m.stray() {
		m.Shuffle(len(list), func(i, j int) { list[i], list[j] = list[j], list[i] })
	}
	if m.stray() && m.stray() {
		list[0].Name = m.pick(homes...)
	}
	return list
}

// some are some of a list, in another order.
func (m maker) some(list []string) []string {
	var out []string
	for _, i := range m.Perm(len(list)) {
		if m.Intn(3) > 0 {
			out = append(out, list[i])
		}
	}
	return out
}

// module makes a module that uses some others.
func (m maker) module(name string, uses, declared []string, exports map[string][]string) api.Module {
	out := api.Module{Name: name, Uses: uses, Exports: slices.Clone(exports[name])}
	see := m.seen(name, uses, declared, exports)
	for _, x := range declared {
		out.Items = append(out.Items, m.declaration(x, see))
	}
	if m.stray() && m.stray() {
		out.Items = append(out.Items, bd(api.NdFact, m.pick(longName, longName+"z", longName+"z", m.pick(pool...), "x@m")))
	}
	if m.stray() {
		out.Exports = append(out.Exports, m.pick(pool...))
	}
	for i := range m.Intn(4) {
		label := fmt.Sprint(m.pick(pool...), i)
		if m.stray() {
			label = m.pick(m.pick(pool...), "r@m", longName, longName+"z", longName+"z")
		}
		out.Items = append(out.Items, bd(m.kind(api.NdRule, api.NdOnce, api.NdMost, api.NdQuery), label, m.form(2, see)))
	}
	if len(declared) > 0 && m.Intn(3) == 0 {
		mode := declared[m.Intn(len(declared))]
		if m.stray() {
			mode = m.pick(m.pick(pool...), m.name(see))
		}
		out.Items = append(out.Items, bd(api.NdMode, mode, nm(m.pick("in", "out", "any"))))
	}
	m.Shuffle(len(out.Items), func(i, j int) { out.Items[i], out.Items[j] = out.Items[j], out.Items[i] })
	return out
}

// seen are the names that can be resolved in a module.
func (m maker) seen(name string, uses, declared []string, exports map[string][]string) []string {
	count := map[string]int{}
	var list []string
	for _, use := range uses {
		for _, x := range exports[use] {
			count[x]++
			list = append(list, x+"@"+use)
		}
	}
	for _, x := range pool {
		own := slices.Contains(declared, x)
		if own {
			list = append(list, x+"@"+name)
		}
		if own || count[x] == 1 || count[x] > 1 && m.Intn(4) == 0 {
			list = append(list, x, x)
		}
	}
	return list
}

// name makes a small name, mostly one of some.
func (m maker) name(see []string) string {
	if len(see) == 0 || m.stray() && m.Intn(3) == 0 {
		return m.pick(m.pick(pool...), m.pick(pool...)+"@"+m.pick(homes...))
	}
	return see[m.Intn(len(see))]
}

// binderName is one that often hides another one.
func (m maker) binderName() string {
	if m.stray() && m.stray() {
		return m.pick("x@m", "a@k")
	}
	return m.pick("x", "y", "X", m.pick(pool...))
}

// typ makes a type.
func (m maker) typ(see []string) api.Node {
	if m.Intn(4) == 0 {
		return nd(api.NdArrow, m.typ(see), m.typ(see))
	}
	return nm(m.name(see))
}

// term makes a term, with the names of binders around it among those that are seen.
func (m maker) term(deep int, see []string) api.Node {
	if deep > 0 && m.Intn(4) == 0 {
		return m.binder(api.NdLam, see, func(see []string) api.Node { return m.term(deep-1, see) })
	}
	var args []api.Node
	for range m.Intn(1 + deep) {
		args = append(args, m.term(deep-1, see))
	}
	if m.Intn(4) == 0 {
		return vr(m.pick("X", "Y"), args...)
	}
	return nm(m.name(see), args...)
}

// binder makes a binder with a body.
func (m maker) binder(kind int, see []string, body func(see []string) api.Node) api.Node {
	name := m.binderName()
	inside := see
	if name[0] >= 'a' && m.Intn(2) == 0 {
		inside = append(slices.Clone(see), name, name, name)
	}
	if m.Intn(3) == 0 {
		return bd(kind, name, m.typ(see), body(inside))
	}
	return bd(kind, name, body(inside))
}

// form makes a formula.
func (m maker) form(deep int, see []string) api.Node {
	if deep == 0 || m.Intn(4) == 0 {
		var args []api.Node
		for range m.Intn(3) {
			args = append(args, m.term(2, see))
		}
		return nm(m.name(see), args...)
	}
	below := func(see []string) api.Node { return m.form(deep-1, see) }
	switch m.Intn(8) {
	case 0:
		return m.binder(m.kind(api.NdAll, api.NdAll, api.NdEx), see, below)
	case 1:
		return nd(m.kind(api.NdBang, api.NdMonad), below(see))
	case 2:
		return nd(m.kind(api.NdOne, api.NdTop))
	}
	return nd(m.kind(api.NdTensor, api.NdWith, api.NdPlus, api.NdLolli, api.NdImp, api.NdFrom, api.NdIf), below(see), below(see))
}

// declaration makes an item that declares a name.
func (m maker) declaration(name string, see []string) api.Node {
	switch m.Intn(5) {
	case 0:
		return nd(api.NdType, nm(name))
	case 1:
		return nd(api.NdConst, nm(name), m.typ(see))
	}
	var types []api.Node
	for range m.Intn(3) {
		types = append(types, m.typ(see))
	}
	return bd(m.kind(api.NdPred, api.NdPred, api.NdFact, api.NdLast), name, types...)
}
