package module_test

import (
	"fmt"
	"strings"
	"testing"

	"peculium/api"
	"peculium/module"
)

// The modules of the chapter's examples.
const (
	textM = "module m. export nat, plus. type nat. const z: nat. const s: nat -> nat. pred plus nat nat nat. rule a: plus z X X."
	textR = "module r. use m. pred two nat. rule b: all x. plus x x Y -o two Y."
)

// some is a string of so many letters.
func some(letters int) string { return strings.Repeat("x", letters) }

// endless is a tree without end.
func endless(kind int, name string) api.Node {
	n := bd(kind, name, api.Node{})
	n.L[0] = n
	return n
}

// The chapter's examples, row by row.
func TestExamples(t *testing.T) {
	l := readAll(t, textM, textR)
	if order, err := module.Order(l, "r"); err != api.OK || !same(order, []string{"m", "r"}) {
		t.Errorf("Order = %v, %v", order, err)
	}
	for name, want := range map[string]string{"plus": "plus@m", "z": "", "plus@m": "plus@m", "two": "two@r"} {
		got, err := module.Resolve(l, "r", name)
		if got != want || err != api.OK && err != api.ErrUnknown || (err == api.OK) != (want != "") {
			t.Errorf("Resolve of %v = %v, %v", name, got, err)
		}
	}
	n, err := module.Linked(l, "r")
	if err != api.OK || len(n.L) != 7 || shown(n.L[6]) != "rule b@r: all x. plus@m x x Y -o two@r Y." {
		t.Errorf("Linked = %v, %v", shown(n), err)
	}
	if _, err := module.Linked(readAll(t, textM, textR+"rule c: plus X X X."), "r"); err != api.ErrForeign {
		t.Errorf("Linked with a foreign rule = %v", err)
	}
	m, err := module.Rename(l[0], "z", "o")
	if want := "type nat. const o: nat. const s: nat -> nat. pred plus nat nat nat. rule a: plus o X X."; err != api.OK || shownItems(m.Items) != want {
		t.Errorf("Rename from z to o = %v, %v", shownItems(m.Items), err)
	}
	if _, err := module.Rename(l[0], "z", "plus"); err != api.ErrTaken {
		t.Errorf("Rename from z to plus = %v", err)
	}
}

// Read takes a text apart, whatever the order of its items.
func TestRead(t *testing.T) {
	m := read(t, "module m. type a. use k. export b. use n. export c, a. const b, c: a. mode p in. query a: one. use u. rule a: one.")
	want := api.Module{Name: "m", Uses: []string{"k", "n", "u"}, Exports: []string{"b", "c", "a"}, Items: parsed(t, "type a. const b, c: a. mode p in. query a: one. rule a: one.").L}
	if !same(m, want) {
		t.Errorf("Read = %v", shownModule(m))
	}
	n, err := module.Write(m)
	if text := "module m. use k. use n. use u. export b, c, a. type a. const b, c: a. mode p in. query a: one. rule a: one."; err != api.OK || shown(n) != text {
		t.Errorf("Write = %v, %v", shown(n), err)
	}
	for _, text := range []string{"module m.", "module m. use k.", "module m. type a.", "module m. export a. type a."} {
		if n, err := module.Write(read(t, text)); err != api.OK || shown(n) != text {
			t.Errorf("Write of Read of %q = %v, %v", text, shown(n), err)
		}
	}
	for _, text := range []string{
		"", "type a.", "type a. module m.", "module m. module m.", "module m. type a. module n.", "use k. module m.", "module m@n.", "module m. use m.",
		"module m. use k. use k.", "module m. use k@n.", "module m. export a.", "module m. export a. export a. type a.", "module m. type a@m.", "module m. pred p. fact p.",
	} {
		expectNone(t, "Read of "+text, parsed(t, text), api.ErrModule)
	}
}

// expectNone fails unless a tree is no module.
func expectNone(t *testing.T, call string, n api.Node, err api.Errno) {
	t.Helper()
	if m, got := module.Read(n); got != err || !same(m, api.Module{}) {
		t.Errorf("%v = %v, %v, not %v", call, shownModule(m), got, err)
	}
}

// Read refuses what is no text.
func TestReadNoText(t *testing.T) {
	item := bd(api.NdModule, "m")
	for i, n := range []api.Node{item, nm("a"), nm("a", nm("b")), vr("X"), nd(api.NdOne), nd(api.NdArrow, nm("a"), nm("a")), bd(api.NdUse, "m"), nd(api.NdText)} {
		expectNone(t, fmt.Sprint("tree ", i), n, api.ErrModule)
	}
	for i, n := range []api.Node{{}, {Kind: -1, L: []api.Node{item}}, {Kind: 99}, nd(api.NdText, nm("a")), nd(api.NdText, bd(api.NdModule, "M")), nd(api.NdText, bd(api.NdModule, "")), nd(api.NdText, nd(api.NdText)), bd(api.NdText, "m", item), nd(api.NdText, bd(api.NdModule, some(41)))} {
		expectNone(t, fmt.Sprint("wrong tree ", i), n, api.ErrTree)
	}
	expectNone(t, "endless", endless(api.NdText, ""), api.ErrLong)
	expectNone(t, "4000 items", nd(api.NdText, append(wide(4000), item)...), api.ErrLong)
	expectNone(t, "101 levels", nd(api.NdText, item, high(100)), api.ErrDeep)
	if m, err := module.Read(nd(api.NdText, item, high(99))); err != api.OK || len(m.Items) != 1 {
		t.Errorf("Read of 100 levels = %v", err)
	}
	if m, err := module.Read(nd(api.NdText, append([]api.Node{item}, wide(3999)...)...)); err != api.OK || len(m.Items) != 3998 {
		t.Errorf("Read of 4000 nodes = %v", err)
	}
}

// Write refuses modules that are not valid, and texts that are too large.
func TestWriteErrors(t *testing.T) {
	for _, w := range []struct {
		m   api.Module
		err api.Errno
	}{
		{api.Module{}, api.ErrModule}, {api.Module{Name: "m", Items: wide(3999)}, api.OK}, {api.Module{Name: "m", Items: wide(4000)}, api.ErrLong}, {api.Module{Name: "m", Items: wide(4001)}, api.ErrModule},
		{api.Module{Name: "m", Uses: []string{"k"}, Items: wide(3999)}, api.ErrLong}, {api.Module{Name: "m", Uses: []string{"k"}, Items: wide(3998)}, api.OK},
		{api.Module{Name: "m", Exports: []string{"p"}, Items: append(wide(3996), bd(api.NdPred, "p"))}, api.OK},
		{api.Module{Name: "m", Exports: []string{"p"}, Items: append(wide(3997), bd(api.NdPred, "p"))}, api.ErrLong},
		{api.Module{Name: "m", Items: []api.Node{high(99)}}, api.OK}, {api.Module{Name: "m", Items: []api.Node{high(100)}}, api.ErrModule},
	} {
		n, err := module.Write(w.m)
		if err != w.err || (err == api.OK) != (n.Kind == api.NdText) || err != api.OK && !same(n, api.Node{}) {
			t.Errorf("Write of %v items = %v, not %v", len(w.m.Items), err, w.err)
		}
	}
}

// What makes a module valid.
func TestCheck(t *testing.T) {
	uses := func(count int) (list []string) {
		for i := range count {
			list = append(list, fmt.Sprint("u", i))
		}
		return list
	}
	items := func(text string) []api.Node { return parsed(t, text).L }
	for i, m := range []api.Module{
		{Name: "m"}, {Name: some(40)}, {Name: "in", Uses: []string{"out", some(40)}}, {Name: "m", Uses: uses(20)}, {Name: "m'1_", Uses: []string{}, Exports: []string{}, Items: []api.Node{}},
		{Name: "m", Items: items("type m. rule m: m. query m: m@k.")}, {Name: "m", Items: items("rule a: one. query a: one. pred a.")},
		{Name: "m", Exports: []string{"a", "d", "c", "e", "f", "g", "b"}, Items: items("type a, b. const c, d: t. pred e. fact f. lasting g.")},
		{Name: "m", Items: wide(4000)}, {Name: "m", Items: []api.Node{high(99)}}, {Name: "m", Items: items("mode p@m in. mode p. mode p. const a: b.")},
		{Name: "m", Items: items("rule r: all X. all x: t@k. p@k (\\y. \\Z. y@k).")},
	} {
		if err := module.Check(m); err != api.OK {
			t.Errorf("valid module %v: %v", i, err)
		}
	}
	for i, m := range []api.Module{
		{}, {Name: "M"}, {Name: "1"}, {Name: "m@n"}, {Name: "type"}, {Name: some(41)}, {Name: "m "}, {Name: "m\xff"}, {Name: some(1 << 20)},
		{Name: "m", Uses: []string{"m"}}, {Name: "m", Uses: []string{"k", "k"}}, {Name: "m", Uses: []string{""}}, {Name: "m", Uses: []string{"k@n"}}, {Name: "m", Uses: []string{"K"}},
		{Name: "m", Uses: []string{"rule"}}, {Name: "m", Uses: uses(21)}, {Name: "m", Uses: make([]string, 1<<20)}, {Name: "m", Uses: []string{"k", "n", "m"}},
		{Name: "m", Exports: []string{"a"}}, {Name: "m", Exports: []string{"a", "a"}, Items: items("type a.")}, {Name: "m", Exports: []string{"a@m"}, Items: items("type a.")},
		{Name: "m", Exports: make([]string, 1<<20)}, {Name: "m", Exports: []string{"t"}, Items: items("const c: t.")}, {Name: "m", Exports: []string{"r"}, Items: items("rule r: one.")},
		{Name: "m", Exports: []string{"q"}, Items: items("query q: one.")}, {Name: "m", Exports: []string{"p"}, Items: items("mode p.")}, {Name: "m", Exports: []string{"t"}, Items: items("pred p t.")},
	} {
		if err := module.Check(m); err != api.ErrModule {
			t.Errorf("module %v, which is not valid: %v", i, err)
		}
	}
}

// Which items a module may have.
func TestCheckItems(t *testing.T) {
	for _, text := range []string{
		"module k.", "use k.", "export a. type a.", "type a. type a.", "type a, a.", "type a. const a: t.", "const a, a: t.", "pred a. fact a.", "fact a. lasting a.", "lasting a. type a.", "type a@m.", "type b, a@k.",
		"const a@m: t.", "const b, a@k: t.", "pred a@m.", "fact a@k.", "lasting a@n.", "rule r@m: one.", "once r@m: one.", "most r@m: one.", "query r@m: one.", "rule r: one. rule r: one.", "rule r: one. once r: one.",
		"once r: one. most r: one.", "most r: one. rule r: one.", "query r: one. query r: one.", "rule r: all x@m. one.", "once r: one * (ex x@m. one).", "query r: p (\\x@m. x).", "rule r: p (f X (\\x. \\y@k: t. x)).",
		"query q: all x. all y: t. all z@k: t. one.",
	} {
		m := api.Module{Name: "m", Items: parsed(t, text).L}
		if err := module.Check(m); err != api.ErrModule {
			t.Errorf("Check with %v = %v", text, err)
		}
		if _, err := module.Write(m); err != api.ErrModule {
			t.Errorf("Write with %v = %v", text, err)
		}
		if list := module.Declared(m); len(list) > 0 {
			t.Errorf("Declared with %v = %v", text, list)
		}
	}
	for i, n := range []api.Node{{}, nm("a"), vr("X"), nd(api.NdText), {Kind: -5}, {Kind: 1 << 40}, nd(api.NdOne), nd(api.NdType), nd(api.NdType, nm("A")), nd(api.NdConst, nm("a")), bd(api.NdRule, "r"), bd(api.NdRule, "R", nd(api.NdOne)), endless(api.NdBang, ""), bd(api.NdRule, "r", endless(api.NdBang, "")), endless(api.NdType, "")} {
		if err := module.Check(api.Module{Name: "m", Items: []api.Node{n}}); err != api.ErrModule {
			t.Errorf("Check with item %v = %v", i, err)
		}
	}
	for _, l := range [][]api.Node{wide(4001), wide(100000), {high(100)}, {high(5000)}} {
		if err := module.Check(api.Module{Name: "m", Items: l}); err != api.ErrModule {
			t.Errorf("Check with %v items = %v", len(l), err)
		}
	}
}

// Lists of modules: at most 20, with different names.
func TestCheckAll(t *testing.T) {
	many := func(count int) (l []api.Module) {
		for i := range count {
			l = append(l, api.Module{Name: fmt.Sprint("m", i)})
		}
		return l
	}
	for _, l := range [][]api.Module{nil, {}, many(1), many(20), {{Name: "m", Uses: []string{"k"}}}} {
		if err := module.CheckAll(l); err != api.OK {
			t.Errorf("CheckAll of %v modules = %v", len(l), err)
		}
	}
	for i, l := range [][]api.Module{many(21), many(100000), {{}}, {{Name: "m"}, {Name: "m"}}, {{Name: "m"}, {Name: "k"}, {Name: "m", Uses: []string{"k"}}}, append(many(5), api.Module{Name: "M"})} {
		if err := module.CheckAll(l); err != api.ErrModule {
			t.Errorf("CheckAll of list %v = %v", i, err)
		}
		expectAll(t, l, "m0", "a", api.ErrModule, api.ErrModule)
	}
}

// expectAll fails unless functions with modules have an error: those with an order, and Resolve.
func expectAll(t *testing.T, l []api.Module, root, name string, err, errResolve api.Errno) {
	t.Helper()
	order, err1 := module.Order(l, root)
	needs, err2 := module.Needs(l, root)
	n, err3 := module.Linked(l, root)
	p, err4 := module.Link(l, root)
	if err1 != err || err2 != err || err3 != err || err4 != err {
		t.Errorf("from %v: %v, %v, %v, %v, not %v", root, err1, err2, err3, err4, err)
	}
	s, err5 := module.Resolve(l, root, name)
	if err5 != errResolve {
		t.Errorf("Resolve of %v in %v = %v, not %v", name, root, err5, errResolve)
	}
	if err != api.OK && (len(order) > 0 || len(needs) > 0 || !same(n, api.Node{}) || !same(p, api.Program{})) || errResolve != api.OK && s != "" {
		t.Errorf("%v, %v, %v, %v, %q with errors", order, needs, n, p, s)
	}
}

func TestDeclared(t *testing.T) {
	for text, want := range map[string]string{
		"": "", "type b, a. rule r: one. const d, c: a -> b. query q: one. fact g. pred e a. mode e in. lasting f b.": "b a d c g e f", "const c: t.": "c", "rule p: one.": "", "mode p.": "", "pred p t u.": "p",
	} {
		if got := strings.Join(module.Declared(read(t, "module m. "+text)), " "); got != want {
			t.Errorf("Declared of %q = %v", text, got)
		}
	}
}

func TestSplit(t *testing.T) {
	for name, want := range map[string][2]string{
		"x@m": {"x", "m"}, "x": {"x", ""}, "": {}, "@": {"@", ""}, "x@": {"x@", ""}, "@m": {"@m", ""}, "x@m@n": {"x@m@n", ""}, "X@m": {"X@m", ""}, "x@M": {"x@M", ""}, "X": {"X", ""}, "x @m": {"x @m", ""}, "type": {"type", ""},
		"type@m": {"type", "m"}, "x@type": {"x", "type"}, "x'@m_1": {"x'", "m_1"}, "x@1": {"x@1", ""}, "\xff@m": {"\xff@m", ""}, some(38) + "@m": {some(38), "m"}, some(39) + "@m": {some(39) + "@m", ""},
	} {
		if a, b := module.Split(name); a != want[0] || b != want[1] {
			t.Errorf("Split of %q = %q, %q", name, a, b)
		}
	}
}
