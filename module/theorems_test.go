package module_test

import (
	"fmt"
	"slices"
	"strings"
	"testing"

	"peculium/api"
	"peculium/module"
	"peculium/syntax"
)

// sample is a list of modules with one of them as the root, with its order and what is linked.
type sample struct {
	l      []api.Module
	root   string
	order  []string
	linked api.Node
}

// linkedSamples yields so many lists of modules that are linked.
func linkedSamples(t *testing.T, seed int64, count int) func(func(maker, sample) bool) {
	return func(yield func(maker, sample) bool) {
		m := newMaker(seed, 40)
		for found := 0; found < count; {
			l := m.modules()
			root := l[m.Intn(len(l))].Name
			if m.Intn(2) == 0 {
				root = l[len(l)-1].Name
			}
			n, err := module.Linked(l, root)
			if err != api.OK {
				continue
			}
			order, err := module.Order(l, root)
			if err != api.OK {
				t.Fatalf("Order from %v = %v, but they are linked:\n%v", root, err, shownAll(l))
			}
			found++
			if !yield(m, sample{l, root, order, n}) {
				return
			}
		}
	}
}

// P7.1: all functions do what another way to them does.
func TestReferred(t *testing.T) {
	t.Parallel()
	met := map[string]int{}
	for _, noise := range []int{6, 20, 60, 150} {
		m := newMaker(int64(noise), noise)
		for range 800 {
			l := m.modules()
			referList(t, m, l, met)
			referModule(t, m, l[m.Intn(len(l))], met)
		}
	}
	for what, least := range map[string]int{
		"CheckAll 0": 1000, "CheckAll 70": 400, "Order 0": 1000, "Order 71": 100, "Order 72": 30, "Linked 0": 500, "Linked 2": 30, "Linked 71": 100,
		"Linked 72": 30, "Linked 73": 100, "Linked 74": 40, "Linked 75": 40, "Resolve 0": 1000, "Resolve 1": 500, "Resolve 71": 1000, "Resolve 73": 1000,
		"Resolve 74": 30, "Rename 0": 1000, "Rename 1": 1000, "Rename 22": 300, "Rename 70": 300, "Link 30": 500,
	} {
		if met[what] < least {
			t.Errorf("%v: just %v times", what, met[what])
		}
	}
}

// referList holds what is said of a list against another way.
func referList(t *testing.T, m maker, l []api.Module, met map[string]int) {
	t.Helper()
	tell := func(call string, got, want any, err, wantErr api.Errno) {
		t.Helper()
		met[fmt.Sprint(strings.Fields(call)[0], " ", int(err))]++
		if err != wantErr || !same(got, want) {
			t.Fatalf("%v = %v, %v, not %v, %v of\n%v", call, got, err, want, wantErr, shownAll(l))
		}
	}
	tell("CheckAll", nil, nil, module.CheckAll(l), refCheckAll(l))
	root := l[len(l)-1].Name
	if m.Intn(4) == 0 {
		root = m.pick(m.pick(homes...), "z")
	}
	order, err := module.Order(l, root)
	wantOrder, wantErr := refOrder(l, root)
	tell("Order from "+root, order, wantOrder, err, wantErr)
	needs, err := module.Needs(l, root)
	if len(wantOrder) > 0 {
		wantOrder = slices.Sorted(slices.Values(wantOrder[:len(wantOrder)-1]))
	}
	tell("Needs of "+root, needs, wantOrder, err, wantErr)
	n, err := module.Linked(l, root)
	want, wantErr := refLinked(l, root)
	tell("Linked from "+root, n, want, err, wantErr)
	if p, err := module.Link(l, root); wantErr != api.OK {
		tell("Link from "+root, p, api.Program{}, err, wantErr)
	} else {
		wanted, wantErr := inferred(want)
		tell("Link from "+root, p, wanted, err, wantErr)
	}
	for range 6 {
		name := m.pick(m.pick(pool...), m.pick(pool...)+"@"+m.pick(homes...), m.pick("X", "type", "type@m"), m.pick(longName, longName+"z"))
		in := m.pick(root, l[m.Intn(len(l))].Name, m.pick(homes...))
		got, err := module.Resolve(l, in, name)
		want, wantErr := refResolve(l, in, name)
		tell("Resolve in "+in+" of "+name, got, want, err, wantErr)
	}
}

// referModule holds what is said of a module against another way.
func referModule(t *testing.T, m maker, x api.Module, met map[string]int) {
	t.Helper()
	valid := refValid(x)
	if (module.Check(x) == api.OK) != valid || !valid && module.Check(x) != api.ErrModule {
		t.Fatalf("Check = %v of %v", module.Check(x), shownModule(x))
	}
	want := refDeclared(x.Items)
	if !valid {
		want = nil
	}
	if got := module.Declared(x); !same(got, want) {
		t.Fatalf("Declared = %v, not %v, of %v", got, want, shownModule(x))
	}
	for range 3 {
		from := m.pick(pool...)
		if len(want) > 0 && m.Intn(4) > 0 {
			from = want[m.Intn(len(want))]
		}
		to := m.pick(m.pick(pool...), "o", "o", "x", "i1", "rule", "O", "o@m", longName)
		got, err := module.Rename(x, from, to)
		wanted, wantErr := refRename(x, from, to)
		met[fmt.Sprint("Rename ", int(err))]++
		if err != wantErr || !same(got, wanted) {
			t.Fatalf("Rename from %v to %v = %v, %v, not %v, %v, of %v", from, to, shownModule(got), err, shownModule(wanted), wantErr, shownModule(x))
		}
	}
}

// P7.2: Read of Write is the module; what Read returns is valid.
func TestReadAndWritten(t *testing.T) {
	t.Parallel()
	m := newMaker(2, 20)
	written, readOnes := 0, 0
	for range 1500 {
		for _, x := range m.modules() {
			n, err := module.Write(x)
			if (err == api.OK) != refValid(x) || err != api.OK && err != api.ErrModule {
				t.Fatalf("Write = %v of %v", err, shownModule(x))
			}
			if back, err := module.Read(n); len(n.L) > 0 && (err != api.OK || !same(back, x)) {
				t.Fatalf("%v is read as %v, %v", shownModule(x), shownModule(back), err)
			}
			if err == api.OK {
				written++
			}
			mixed := m.mixed(x)
			back, err := module.Read(mixed)
			want, wantErr := refRead(mixed)
			if err != wantErr || !same(back, want) || err == api.OK && module.Check(back) != api.OK {
				t.Fatalf("Read = %v, %v, not %v, %v, of %v", shownModule(back), err, shownModule(want), wantErr, shown(mixed))
			}
			if err == api.OK {
				readOnes++
			}
		}
	}
	if written < 1000 || readOnes < 500 {
		t.Errorf("just %v were written, and %v read", written, readOnes)
	}
}

// mixed is a text in which what a module uses and exports stands among its items.
func (m maker) mixed(x api.Module) api.Node {
	list := slices.Clone(x.Items)
	for _, use := range x.Uses {
		list = append(list, bd(api.NdUse, use))
	}
	for left := x.Exports; len(left) > 0; {
		count := 1 + m.Intn(len(left))
		export := nd(api.NdExport)
		for _, name := range left[:count] {
			export.L = append(export.L, nm(name))
		}
		list, left = append(list, export), left[count:]
	}
	m.Shuffle(len(list), func(i, j int) { list[i], list[j] = list[j], list[i] })
	list = slices.Insert(list, 0, bd(api.NdModule, x.Name))
	if m.stray() {
		list = append(list, bd(api.NdModule, m.pick(homes...)))
	}
	if m.stray() {
		list[0], list[len(list)-1] = list[len(list)-1], list[0]
	}
	return nd(api.NdText, list...)
}

// refRead is the module of a text.
func refRead(n api.Node) (api.Module, api.Errno) {
	if err := syntax.Check(n); err != api.OK {
		return api.Module{}, err
	}
	var out api.Module
	count := 0
	for i, item := range n.L {
		switch {
		case item.Kind == api.NdModule && i == 0:
			out.Name = item.Name
			count++
		case item.Kind == api.NdUse:
			out.Uses = append(out.Uses, item.Name)
		case item.Kind == api.NdExport:
			for _, x := range item.L {
				out.Exports = append(out.Exports, x.Name)
			}
		default:
			out.Items = append(out.Items, item)
		}
	}
	if n.Kind != api.NdText || count != 1 || !refValid(out) {
		return api.Module{}, api.ErrModule
	}
	return out, api.OK
}

// P7.3: in Order each module stands behind all that it uses, each once, and the root is the last one; these are the root and its Needs.
func TestOrderIsOne(t *testing.T) {
	t.Parallel()
	for _, s := range linkedSamples(t, 3, 1000) {
		needs, err := module.Needs(s.l, s.root)
		if err != api.OK || !slices.IsSorted(needs) || slices.Contains(needs, s.root) {
			t.Fatalf("Needs of %v = %v, %v of\n%v", s.root, needs, err, shownAll(s.l))
		}
		if last := s.order[len(s.order)-1]; last != s.root || !same(slices.Sorted(slices.Values(s.order)), slices.Sorted(slices.Values(append(needs, s.root)))) {
			t.Fatalf("Order from %v = %v with the needs %v of\n%v", s.root, s.order, needs, shownAll(s.l))
		}
		reached := map[string]bool{s.root: true}
		for i, name := range s.order {
			m, ok := find(s.l, name)
			if !ok || slices.Contains(s.order[:i], name) {
				t.Fatalf("Order from %v = %v of\n%v", s.root, s.order, shownAll(s.l))
			}
			for _, use := range m.Uses {
				if !slices.Contains(s.order[:i], use) {
					t.Fatalf("Order from %v = %v of\n%v", s.root, s.order, shownAll(s.l))
				}
			}
		}
		for _, name := range slices.Backward(s.order) {
			m, _ := find(s.l, name)
			if !reached[name] {
				t.Fatalf("Order from %v = %v has %v, which nothing needs, of\n%v", s.root, s.order, name, shownAll(s.l))
			}
			for _, use := range m.Uses {
				reached[use] = true
			}
		}
	}
}

// owners are the modules of the items of linked modules.
func (s sample) owners() []string {
	var list []string
	for _, name := range s.order {
		m, _ := find(s.l, name)
		for _, item := range m.Items {
			if item.Kind != api.NdQuery || name == s.root {
				list = append(list, name)
			}
		}
	}
	return list
}

// P7.4: each small name that occurs free in linked modules is a full name, and is declared there just once; its module is noted ahead of, or is, that of the item.
func TestFullNames(t *testing.T) {
	t.Parallel()
	names, foreign := 0, 0
	for _, s := range linkedSamples(t, 4, 1000) {
		declared, owners := refDeclared(s.linked.L), s.owners()
		if len(owners) != len(s.linked.L) {
			t.Fatalf("%v has %v items, not %v, of\n%v", shown(s.linked), len(s.linked.L), len(owners), shownAll(s.l))
		}
		for i, item := range s.linked.L {
			list, err := syntax.Names(item)
			if err != api.OK {
				t.Fatalf("%v in %v", err, shown(s.linked))
			}
			if item.Kind == api.NdMode {
				list = append(list, item.Name)
			}
			for _, name := range list {
				_, of := module.Split(name)
				count := 0
				for _, x := range declared {
					if x == name {
						count++
					}
				}
				at, own := slices.Index(s.order, of), slices.Index(s.order, owners[i])
				if of == "" || count != 1 || at < 0 || at > own {
					t.Fatalf("%v in %v of %v from\n%v", name, shown(item), owners[i], shownAll(s.l))
				}
				names++
				if at < own {
					foreign++
				}
			}
		}
	}
	if names < 5000 || foreign < 1000 {
		t.Errorf("just %v names, %v of other modules", names, foreign)
	}
}

// replaced are linked modules with another full name in the place of one.
func replaced(n api.Node, from, to string) api.Node {
	out := nilled(n)
	for _, s := range spots(n) {
		// Names of rules and queries are others, though they may look alike; a linked name is never bound.
		if s.node.Name == from && (s.node.Kind == api.NdName || s.node.Kind == api.NdMode || isPredicate(s.node)) {
			nodeAt(&out, s.path).Name = to
		}
	}
	return out
}

// P7.5: renaming a name that a module does not export replaces this name's full name in linked modules.
func TestPrivateNames(t *testing.T) {
	t.Parallel()
	renamed, modes := 0, 0
	for m, s := range linkedSamples(t, 5, 3000) {
		i := m.Intn(len(s.l))
		for _, from := range module.Declared(s.l[i]) {
			to := m.pick("o", "x", m.pick(pool...))
			x, err := module.Rename(s.l[i], from, to)
			if slices.Contains(s.l[i].Exports, from) || err != api.OK {
				continue
			}
			l := slices.Clone(s.l)
			l[i] = x
			home := "@" + x.Name
			want := replaced(s.linked, from+home, to+home)
			if got, err := module.Linked(l, s.root); err != api.OK || !same(got, want) {
				t.Fatalf("with %v for %v: %v, %v, not %v of\n%v", to, from, shown(got), err, shown(want), shownAll(s.l))
			}
			if !same(want, s.linked) {
				renamed++
			}
			if slices.ContainsFunc(x.Items, func(n api.Node) bool { return n.Kind == api.NdMode && n.Name == to }) {
				modes++
			}
		}
	}
	if renamed < 500 || modes < 20 {
		t.Errorf("just %v names were renamed, %v with modes", renamed, modes)
	}
}

// P7.6: modules that the root does not need, and the order of the list, do not matter to Linked.
func TestNotNeeded(t *testing.T) {
	t.Parallel()
	dropped := 0
	for m, s := range linkedSamples(t, 6, 1500) {
		var l []api.Module
		for _, i := range m.Perm(len(s.l)) {
			if slices.Contains(s.order, s.l[i].Name) || m.Intn(2) == 0 {
				l = append(l, s.l[i])
			}
		}
		dropped += len(s.l) - len(l)
		if got, err := module.Linked(l, s.root); err != api.OK || !same(got, s.linked) {
			t.Fatalf("%v, %v, not %v, of\n%v", shown(got), err, shown(s.linked), shownAll(l))
		}
	}
	if dropped < 500 {
		t.Errorf("just %v modules were left out", dropped)
	}
	shuffledErrors(t)
}

// shuffledErrors looks at modules that are not linked, in another order: they have the same error.
func shuffledErrors(t *testing.T) {
	t.Helper()
	m := newMaker(66, 8)
	met := map[api.Errno]int{}
	for range 1500 {
		l := m.modules()
		root := l[len(l)-1].Name
		_, err := module.Linked(l, root)
		m.Shuffle(len(l), func(i, j int) { l[i], l[j] = l[j], l[i] })
		met[err]++
		if _, again := module.Linked(l, root); again != err {
			t.Fatalf("%v, not %v, of\n%v", again, err, shownAll(l))
		}
	}
	if len(met) < 7 {
		t.Errorf("just %v", met)
	}
}

// P7.7: if the plain names that occur free, but where they are declared, are replaced by their full names, Linked stays the same.
func TestWrittenFully(t *testing.T) {
	t.Parallel()
	replaced := 0
	for m, s := range linkedSamples(t, 7, 1500) {
		l := nilled(s.l)
		chance := 1 + m.Intn(3)
		for i := range l {
			for k, item := range s.l[i].Items {
				for _, x := range freeSpots(item) {
					declares := item.Kind == api.NdType || item.Kind == api.NdConst && len(x.path) == 1 && x.path[0] < len(item.L)-1
					if declares || strings.Contains(x.node.Name, "@") || m.Intn(chance) > 0 {
						continue
					}
					full, err := module.Resolve(s.l, s.l[i].Name, x.node.Name)
					if err == api.OK {
						nodeAt(&l[i].Items[k], x.path).Name = full
						replaced++
					}
				}
			}
		}
		if got, err := module.Linked(l, s.root); err != api.OK || !same(got, s.linked) {
			t.Fatalf("%v, %v, not %v, of\n%v", shown(got), err, shown(s.linked), shownAll(l))
		}
	}
	if replaced < 5000 {
		t.Errorf("just %v names were replaced", replaced)
	}
}

// P7.8: a name that one module alone declares, and does not export, can be resolved in this module alone.
func TestAbstract(t *testing.T) {
	t.Parallel()
	m := newMaker(8, 30)
	private := 0
	for range 1500 {
		l := m.modules()
		for _, home := range l {
			for _, name := range module.Declared(home) {
				others := slices.ContainsFunc(l, func(x api.Module) bool {
					return x.Name != home.Name && slices.Contains(module.Declared(x), name)
				})
				if others || slices.Contains(home.Exports, name) || module.CheckAll(l) != api.OK || len(name) > 30 {
					continue
				}
				private++
				full := name + "@" + home.Name
				for _, x := range l {
					for _, written := range []string{name, full} {
						got, err := module.Resolve(l, x.Name, written)
						if is := err == api.OK; is != (x.Name == home.Name) || is && got != full || !is && (err != api.ErrUnknown || got != "") {
							t.Fatalf("Resolve in %v of %v = %v, %v of\n%v", x.Name, written, got, err, shownAll(l))
						}
					}
				}
			}
		}
	}
	if private < 300 {
		t.Errorf("just %v names", private)
	}
}
