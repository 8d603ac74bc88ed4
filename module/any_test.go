package module_test

import (
	"fmt"
	"testing"

	"peculium/api"
	"peculium/module"
)

// Results share no memory with arguments, and have none twice.
func TestNewMemory(t *testing.T) {
	l := readAll(t, textM+" mode plus in in out. query q: plus (\\x. x) X (s z).", textR)
	n := parsed(t, textM+" use k. use n. mode plus in in out. query q: all x: nat. plus (\\x: nat -> nat. x) X (s z). rule c: one & (top + {!one}).")
	before := nilled(n)
	m, _ := module.Read(n)
	ownMemory(t, "Read", m, n)
	written, _ := module.Write(m)
	ownMemory(t, "Write", written, m)
	ownMemory(t, "Declared", module.Declared(m), m)
	renamed, err := module.Rename(m, "plus", "add")
	ownMemory(t, "Rename", renamed, m)
	if err != api.OK || len(renamed.Uses) != 2 || len(renamed.Exports) != 2 {
		t.Errorf("Rename = %v, %v", shownModule(renamed), err)
	}
	order, _ := module.Order(l, "r")
	ownMemory(t, "Order", order, l)
	needs, _ := module.Needs(l, "r")
	ownMemory(t, "Needs", needs, l)
	linked, _ := module.Linked(l, "r")
	ownMemory(t, "Linked", linked, l)
	p, _ := module.Link(l, "r")
	ownMemory(t, "Link", p, l)
	if !same(n, before) || shownModule(m) == shownModule(renamed) {
		t.Errorf("%v became %v", before, n)
	}
}

// Arguments stay as they are, and calls do the same again, though lists have room behind their ends.
func TestCallersMemory(t *testing.T) {
	m := newMaker(11, 50)
	for range 200 {
		l := m.modules()
		for i := range l {
			l[i].Items = append(make([]api.Node, 0, 50), l[i].Items...)
			l[i].Uses = append(make([]string, 0, 50), l[i].Uses...)
			l[i].Exports = append(make([]string, 0, 50), l[i].Exports...)
		}
		before := nilled(l)
		call := func() string {
			root, x := l[len(l)-1].Name, l[0]
			n, err1 := module.Linked(l, root)
			order, err2 := module.Needs(l, root)
			text, err3 := module.Write(x)
			renamed, err4 := module.Rename(x, "a", "o")
			return fmt.Sprint(shown(n), err1, order, err2, shown(text), err3, shownModule(renamed), err4, module.Declared(x), module.Check(x))
		}
		first := call()
		if again := call(); again != first || !same(l, before) {
			t.Fatalf("%v, then %v, of\n%v", first, again, shownAll(l))
		}
	}
}

// Any values have an error, and no call panics or does not end.
func TestAnyValues(t *testing.T) {
	odd := []api.Node{{}, {Kind: -1}, {Kind: 1 << 40, Name: "\xff"}, endless(api.NdText, ""), endless(api.NdRule, "r"), endless(api.NdName, "a"), endless(-3, ""), nd(api.NdConst), nd(api.NdAll), bd(api.NdAll, "x"), nd(api.NdWith, nm("a")), {Kind: api.NdText, Name: "m", L: make([]api.Node, 1<<20)}}
	names := []string{"", "m", "a", "@", "a@m", "A", "\xff\x00", some(41), some(1 << 20)}
	m := newMaker(12, 4)
	mods := []api.Module{{}, {Name: "m"}, {Name: "m", Uses: names}, {Name: "m", Exports: names}, {Name: "m", Items: odd}}
	for _, n := range odd {
		wide := nd(api.NdText, bd(api.NdModule, "m"), n)
		for _, x := range []api.Node{n, wide, nd(api.NdText, bd(api.NdModule, "m"), bd(api.NdRule, "r", n))} {
			if got, err := module.Read(x); err == api.OK || !same(got, api.Module{}) {
				t.Errorf("Read of a tree of the kind %v = %v", n.Kind, err)
			}
		}
		mods = append(mods, api.Module{Name: "m", Items: []api.Node{n}}, api.Module{Name: "m", Items: []api.Node{bd(api.NdPred, "p"), bd(api.NdQuery, "q", n)}})
	}
	for i, x := range mods {
		if err := module.Check(x); (err == api.OK) != (i == 1) {
			t.Errorf("Check of module %v = %v", i, err)
		}
	}
	for range 3000 {
		l := []api.Module{mods[m.Intn(len(mods))]}
		for m.Intn(2) == 0 {
			l = append(l, mods[m.Intn(len(mods))])
		}
		a, b := names[m.Intn(len(names))], names[m.Intn(len(names))]
		wanted := refCheckAll(l)
		if err := module.CheckAll(l); err != wanted {
			t.Fatalf("CheckAll = %v, not %v", err, wanted)
		}
		if wanted != api.OK {
			expectAll(t, l, a, b, api.ErrModule, api.ErrModule)
		}
		if _, err := module.Rename(l[0], a, b); err == api.OK || module.Check(l[0]) != api.OK && err != api.ErrModule {
			t.Fatalf("Rename from %q to %q = %v", a, b, err)
		}
	}
}
