package module_test

import (
	"strings"
	"testing"

	"peculium/api"
	"peculium/module"
	"peculium/types"
)

// The items of modules are linked in order, with full names.
func TestLinked(t *testing.T) {
	for _, w := range []struct{ root, texts, want string }{
		{"m", "module m.", ""},
		{"m", "module m. type a, b. const c, d: a -> (b -> a) -> b. mode p in out. pred p a (a -> b). fact q. lasting l b. rule r: one. once r': top. most r'': one. query r: one.",
			"type a@m, b@m. const c@m, d@m: a@m -> (b@m -> a@m) -> b@m. mode p@m in out. pred p@m a@m (a@m -> b@m). fact q@m. lasting l@m b@m. rule r@m: one. once r'@m: top. most r''@m: one. query r@m: one."},
		{"m", "module k. type k. query q: one. pred p. query p: p. | module m. use k. query q: one. type k.",
			"type k@k. pred p@k. query q@m: one. type k@m."},
		{"k", "module k. type k. query q: one. pred p. query p: p. | module m. use k. query q: one. type k.",
			"type k@k. query q@k: one. pred p@k. query p@k: p@k."},
		{"m", "module m. use k. const c: a -> b@k. pred p a b. rule r: all x: a. ex Y: b. p x (\\y: b. c X (\\c. c y)). | module k. type a, b. export b, a.",
			"type a@k, b@k. const c@m: a@k -> b@k. pred p@m a@k b@k. rule r@m: all x: a@k. ex Y: b@k. p@m x (\\y: b@k. c@m X (\\c. c y))."},
		{"m", "module m. pred p. rule p: p. query p: all p. p (f p) * ex x. p. const f: t. type t. rule f: p@m (all' f). const all': t.",
			"pred p@m. rule p@m: p@m. query p@m: all p. p (f@m p) * ex x. p. const f@m: t@m. type t@m. rule f@m: p@m (all'@m f@m). const all'@m: t@m."},
		{"m", "module m. type x. rule r: all x: x. all y: x. p y. pred p. rule s: p (\\x: x. x) x.",
			"type x@m. rule r@m: all x: x@m. all y: x. p@m y. pred p@m. rule s@m: p@m (\\x: x@m. x) x@m."},
		{"m", "module m. pred p. mode p in. mode p. const in, out: in'. type in'. mode in out in any. query q: p in' in out@m.",
			"pred p@m. mode p@m in. mode p@m. const in@m, out@m: in'@m. type in'@m. mode in@m out in any. query q@m: p@m in'@m in@m out@m."},
		{"a", "module a. use b. use c. pred a. | module b. use d. pred a. | module c. use d. pred a. | module d. pred a. rule a: a. | module e. use a. rule a: z.",
			"pred a@d. rule a@d: a@d. pred a@b. pred a@c. pred a@a."},
		{"m", "module m. use k. rule r: f o- p. rule s: l o- p * q. | module k. export f, l, p, q. fact f. lasting l. pred p. pred q.",
			"fact f@k. lasting l@k. pred p@k. pred q@k. rule r@m: f@k o- p@k. rule s@m: l@k o- p@k * q@k."},
	} {
		l := readAll(t, strings.Split(w.texts, "|")...)
		n, err := module.Linked(l, w.root)
		if err != api.OK || n.Kind != api.NdText || n.Name != "" || shown(n) != w.want {
			t.Errorf("Linked from %v of %v = %v, %v", w.root, w.texts, shown(n), err)
		}
	}
}

// Which rules are clauses for predicates of other modules.
func TestForeign(t *testing.T) {
	l := readAll(t, "module k. export p, f, l, t, c. pred p. fact f. lasting l. type t. const c: t. pred own.", "module m. use k. pred q. pred own.")
	for form, want := range map[string]api.Errno{
		"p": api.ErrForeign, "p@k": api.ErrForeign, "p X c": api.ErrForeign, "q": api.OK, "f": api.OK, "l": api.OK, "f@k": api.OK, "t": api.OK, "c@k": api.OK, "own": api.OK, "own@m": api.OK, "one": api.OK,
		"p & q": api.ErrForeign, "q & p": api.ErrForeign, "q & q": api.OK, "q & (q & p)": api.ErrForeign, "(p & q) & q": api.ErrForeign, "q -o p": api.ErrForeign, "p -o q": api.OK, "q => p": api.ErrForeign, "p => q": api.OK,
		"p o- q": api.ErrForeign, "q o- p": api.OK, "p <= q": api.ErrForeign, "q <= p": api.OK, "p o- q <= q": api.ErrForeign, "q o- p <= p": api.OK, "q -o q -o p": api.ErrForeign, "(q -o p) -o q": api.OK, "q o- (p & p)": api.OK,
		"all x. p x": api.ErrForeign, "all x: t. p": api.ErrForeign, "all p. p": api.OK, "all p. p@k": api.ErrForeign, "all p. q & p": api.OK, "all p: p. q": api.OK, "all x. all p. p": api.OK, "(all p. p) & p": api.ErrForeign, "p & (all p. p)": api.ErrForeign,
		"(all p. p) & q": api.OK, "all x. q & (q -o (all y. p o- q))": api.ErrForeign, "all x. q & (q -o (all y. q o- p))": api.OK, "{p}": api.OK, "!p": api.OK, "p * p": api.OK, "p + p": api.OK, "ex x. p": api.OK, "q -o {p}": api.OK,
		"f -o {p * p}": api.OK, "(p * q) & q": api.OK, "all p. (all x. p) & (q & p)": api.OK, "all x. (all p. p) & (q & p)": api.ErrForeign,
	} {
		for word, is := range map[string]bool{"rule": true, "once": true, "most": true, "query": false} {
			m := l[1]
			m.Items = append(parsed(t, word+" r: "+form+".").L, m.Items...)
			wanted := want
			if !is {
				wanted = api.OK
			}
			if _, err := module.Linked([]api.Module{m, l[0]}, "m"); err != wanted {
				t.Errorf("%v r: %v: %v, not %v", word, form, err, wanted)
			}
		}
	}
}

// The errors of Linked, and which one is the first.
func TestLinkedErrors(t *testing.T) {
	k := "module k. export a, b. pred a. fact b. pred c. |"
	n := "module n. export a. pred a. |"
	long := some(39)
	for _, w := range []struct {
		root, texts string
		err         api.Errno
	}{
		{"m", k + "module m. use k. query q: a * b.", api.OK},
		{"m", k + "module m. use k. query q: c.", api.ErrUnknown},
		{"m", k + "module m. use k. query q: c@k.", api.ErrUnknown},
		{"m", k + "module m. query q: a@k.", api.ErrUnknown},
		{"m", k + "module m. use k. pred p t.", api.ErrUnknown},
		{"m", k + "module m. use k. const f: t -> t.", api.ErrUnknown},
		{"m", k + "module m. use k. rule r: b o- all x: t. b.", api.ErrUnknown},
		{"m", k + "module m. use k. rule r: b (\\x. y x).", api.ErrUnknown},
		{"m", k + "module m. use k. mode a.", api.ErrUnknown},
		{"m", k + "module m. use k. mode a@k.", api.ErrUnknown},
		{"m", "module m. mode a.", api.ErrUnknown},
		{"m", "module m. pred a. mode a@m.", api.ErrUnknown},
		{"m", "module m. type a. mode a in.", api.OK},
		{"m", "module m. pred a. mode a in.", api.OK},
		{"m", "module m. use z.", api.ErrMissing},
		{"z", "module m.", api.ErrMissing},
		{"m", "module m. use n. | module n. use m. mode p.", api.ErrCycle},
		{"m", k + n + "module m. use k. use n. query q: a.", api.ErrUnclear},
		{"m", k + n + "module m. use k. use n. query q: a@n * a@k.", api.OK},
		{"m", k + n + "module m. use k. use n. query q: a. pred a.", api.OK},
		{"m", k + n + "module m. use k. use n. query q: c * a.", api.ErrUnknown},
		{"m", k + n + "module m. use k. use n. query q: a * c.", api.ErrUnclear},
		{"m", k + n + "module m. use k. use n. query q: b * (c & a).", api.ErrUnknown},
		{"m", k + n + "module m. use k. use n. query q: b (a c) c.", api.ErrUnclear},
		{"m", k + n + "module m. use k. use n. rule r: a@k o- a.", api.ErrUnclear},
		{"m", k + n + "module m. use k. use n. rule r: a@k o- c.", api.ErrUnknown},
		{"m", k + n + "module m. use k. use n. rule r: a@k. query q: a.", api.ErrForeign},
		{"m", k + n + "module m. use k. use n. query q: a. rule r: a@k.", api.ErrUnclear},
		{"m", k + n + "module m. use k. use n. mode d. query q: a.", api.ErrUnknown},
		{"m", k + n + "module m. use k. use n. query q: a. mode d.", api.ErrUnclear},
		{"m", k + "module m. use k. type " + some(38) + ".", api.OK},
		{"m", k + "module m. use k. type " + long + ".", api.ErrLong},
		{"m", k + "module m. use k. const c, " + long + ": t.", api.ErrLong},
		{"m", k + "module m. use k. pred " + long + ".", api.ErrLong},
		{"m", k + "module m. use k. fact " + long + ".", api.ErrLong},
		{"m", k + "module m. use k. lasting " + long + ".", api.ErrLong},
		{"m", k + "module m. use k. rule " + long + ": one.", api.ErrLong},
		{"m", k + "module m. use k. once " + long + ": one.", api.ErrLong},
		{"m", k + "module m. use k. most " + long + ": one.", api.ErrLong},
		{"m", k + "module m. use k. query " + long + ": one.", api.ErrLong},
		{"m", k + "module m. use k. query " + some(38) + ": one. rule " + some(38) + ": one.", api.OK},
		{"m", k + "module m. query q: c. rule r: a. query " + long + ": one.", api.ErrLong},
		{"m", k + "module m. query q: c. rule r: a. type " + long + ".", api.ErrLong},
		{"m", k + "module m. use k. query q: a. rule r: a. pred " + long + ".", api.ErrLong},
		{"m", "module n. query " + long + ": one. | module m. use n.", api.ErrLong},
		{"m", "module n. query " + long + ": one. | module m. query q: c.", api.ErrUnknown},
		{"m", "module n. query q: c. | module m. use n.", api.OK},
		{"n", "module n. query q: c. | module m. use n.", api.ErrUnknown},
		{"m", "module n. rule q: c. | module m. use n. type " + long + ".", api.ErrUnknown},
		{"m", "module n. type " + long + ". | module m. use n. rule r: c.", api.ErrLong},
		{"m", "module n. rule r: c. | module m. use n. use k. query q: a. | module k. use z.", api.ErrMissing},
		{"m", "module n. use m. rule r: c. type " + long + ". | module m. use n.", api.ErrCycle},
		{"m", k + "module m. use k. query q: " + long + ".", api.ErrUnknown},
	} {
		l := readAll(t, strings.Split(w.texts, "|")...)
		n, err := module.Linked(l, w.root)
		p, linkErr := module.Link(l, w.root)
		if err != w.err || err != api.OK && (!same(n, api.Node{}) || linkErr != err || !same(p, api.Program{})) {
			t.Errorf("Linked from %v of %v = %v and %v, not %v", w.root, w.texts, err, linkErr, w.err)
		}
	}
}

// Names that a used module exports have full names that are not too long, when the linker has come to them.
func TestLongNames(t *testing.T) {
	home := some(20)
	for count, want := range map[int]api.Errno{19: api.OK, 20: api.ErrLong} {
		l := readAll(t, "module "+home+". export "+some(count)+". fact "+some(count)+".", "module m. use "+home+". query q: "+some(count)+".")
		n, err := module.Linked(l, "m")
		if err != want || err == api.OK && n.L[1].L[0].Name != some(19)+"@"+home {
			t.Errorf("%v bytes: %v, %v", count, shown(n), err)
		}
	}
}

// Linked modules may be more than a text has; then no program is made of them.
func TestLinkedLarge(t *testing.T) {
	var l []api.Module
	root := api.Module{Name: "root"}
	for _, name := range homes {
		l = append(l, api.Module{Name: name, Items: append(wide(3999), bd(api.NdPred, "p"))})
		root.Uses = append(root.Uses, name)
	}
	l = append(l, root)
	n, err := module.Linked(l, "root")
	if err != api.OK || len(n.L) != 6*3999 || n.L[3999].Name != "p@n" {
		t.Errorf("Linked = %v with %v items", err, len(n.L))
	}
	if p, err := module.Link(l, "root"); err != api.ErrLong || !same(p, api.Program{}) {
		t.Errorf("Link = %v", err)
	}
	deep := []api.Module{{Name: "m", Items: []api.Node{high(99)}}}
	if n, err := module.Linked(deep, "m"); err != api.OK || !same(n.L[0].L, deep[0].Items[0].L) {
		t.Errorf("Linked of 100 levels = %v", err)
	}
	if _, err := module.Link(deep, "m"); err != api.OK {
		t.Errorf("Link of 100 levels = %v", err)
	}
}

// Link makes the program of what is linked, or has the error of types.Infer for it.
func TestLink(t *testing.T) {
	l := readAll(t, textM, textR+" query q: two (s' z'). query two: two Z. const s': nat -> nat. const z': nat.", "module bad. use m. query q: plus X X. pred plus' nat.")
	p, err := module.Link(l, "r")
	n, _ := module.Linked(l, "r")
	want, _, wantErr := types.Infer(n)
	if err != api.OK || wantErr != api.OK || !same(p, want) {
		t.Errorf("Link = %v, %v, not %v, %v", p, err, want, wantErr)
	}
	if len(p.Types) != 1 || p.Types[0] != "nat@m" || len(p.Consts) != 4 || p.Consts[3].Name != "z'@r" || len(p.Rules) != 2 || p.Rules[1].Name != "b@r" || len(p.Queries) != 2 || p.Queries[1].Name != "two@r" {
		t.Errorf("Link = %v", p)
	}
	if p, err := module.Link(l, "bad"); err != api.ErrTypes || !same(p, api.Program{}) {
		t.Errorf("Link of a text with blames = %v, %v", p, err)
	}
	if p, err := module.Link(l, "m"); err != api.OK || len(p.Rules) != 1 || len(p.Preds) != 1 {
		t.Errorf("Link of m = %v, %v", p, err)
	}
	private := readAll(t, textM, "module r. use m. query q: plus (s X) X Y.")
	if _, err := module.Link(private, "r"); err != api.ErrUnknown {
		t.Errorf("Link with a private name = %v", err)
	}
}
