package module_test

import (
	"testing"

	"peculium/api"
	"peculium/module"
)

// Renamed is a name where it is declared, exported or occurs free.
func TestRename(t *testing.T) {
	for _, w := range []struct{ text, from, to, want string }{
		{"module m. export nat, plus. type nat. const z: nat. pred plus nat nat. mode plus in out.", "nat", "n", "module m. export n, plus. type n. const z: n. pred plus n n. mode plus in out."},
		{"module m. export nat, plus. type nat. const z: nat. pred plus nat nat. mode plus in out.", "plus", "add", "module m. export nat, add. type nat. const z: nat. pred add nat nat. mode add in out."},
		{"module m. export b, a. type a, b. const c: a -> b -> a@m. const d, e: b@m.", "a", "x", "module m. export b, x. type x, b. const c: x -> b -> x@m. const d, e: b@m."},
		{"module m. const d, e, f: e. rule e: d e (e@m e) (\\e. e) (\\x: e. e x e@m). query e: all e. e e@m (\\y: e. y).", "e", "x'", "module m. const d, x', f: x'. rule e: d x' (x'@m x') (\\e. e) (\\x: x'. x' x x'@m). query e: all e. e x'@m (\\y: e. y)."},
		{"module m. use k. pred p. rule p: p & p@m & p@k. fact p'. mode p@m in. mode p. mode q. mode p@k.", "p", "r", "module m. use k. pred r. rule p: r & r@m & p@k. fact p'. mode r@m in. mode r. mode q. mode p@k."},
		{"module m. fact f f. lasting l f f@m. once r: f o- l. most r': ex f: f. f.", "f", "r", "module m. fact r r. lasting l r r@m. once r: r o- l. most r': ex f: r. f."},
		{"module m. fact f. lasting l f. query r: l.", "l", "m", "module m. fact f. lasting m f. query r: m."},
		{"module m. use o. type t. rule u: s@o t@o.", "t", "o", "module m. use o. type o. rule u: s@o t@o."},
		{"module m. pred p. rule r: all X. p X.", "p", some(40), "module m. pred " + some(40) + ". rule r: all X. " + some(40) + " X."},
		{"module m. pred p. rule r: p@m.", "p", some(38), "module m. pred " + some(38) + ". rule r: " + some(38) + "@m."},
		{"module m. pred p. mode q in. rule p': p. mode in.", "p", "q", "module m. pred q. mode q in. rule p': q. mode in."},
		{"module m. pred p. rule in: p.", "p", "in", "module m. pred in. rule in: in."},
	} {
		m, err := module.Rename(read(t, w.text), w.from, w.to)
		n, _ := module.Write(m)
		if err != api.OK || shown(n) != w.want {
			t.Errorf("Rename from %v to %v in %v = %v, %v", w.from, w.to, w.text, shown(n), err)
		}
	}
}

// The errors of Rename, and which one is the first.
func TestRenameErrors(t *testing.T) {
	for _, w := range []struct {
		text, from, to string
		err            api.Errno
	}{
		{"pred p.", "q", "r", api.ErrArg}, {"pred p.", "p@m", "r", api.ErrArg}, {"pred p.", "", "r", api.ErrArg}, {"pred p t.", "t", "r", api.ErrArg}, {"rule r: one.", "r", "s", api.ErrArg}, {"mode p.", "p", "s", api.ErrArg},
		{"pred p.", "p", "", api.ErrArg}, {"pred p.", "p", "Q", api.ErrArg}, {"pred p.", "p", "q@m", api.ErrArg}, {"pred p.", "p", "rule", api.ErrArg}, {"pred p.", "p", some(41), api.ErrArg}, {"pred p.", "p", "q ", api.ErrArg}, {"pred p. pred q.", "r", "q", api.ErrArg},
		{"pred p.", "p", "p", api.ErrTaken}, {"pred p. fact q.", "p", "q", api.ErrTaken}, {"pred p. type q.", "p", "q", api.ErrTaken}, {"pred p. const q: t.", "p", "q", api.ErrTaken}, {"pred p. const q: t.", "p", "t", api.ErrTaken}, {"pred p. lasting q.", "p", "q", api.ErrTaken},
		{"pred p q.", "p", "q", api.ErrTaken}, {"pred p (t -> q).", "p", "q", api.ErrTaken}, {"pred p. rule r: q.", "p", "q", api.ErrTaken}, {"pred p. query r: p (f q).", "p", "q", api.ErrTaken}, {"pred p. rule r: q@m.", "p", "q", api.ErrTaken}, {"pred p. once r: p (f q@m).", "p", "q", api.ErrTaken},
		{"pred p. const c: t -> q@m.", "p", "q", api.ErrTaken}, {"pred p. rule r: q@k.", "p", "q", api.OK}, {"pred p. rule r: all q. one.", "p", "q", api.ErrTaken}, {"pred p. rule r: ex q: t. one.", "p", "q", api.ErrTaken}, {"pred p. rule r: p (\\q. X).", "p", "q", api.ErrTaken},
		{"pred p. rule r: all q. q.", "p", "q", api.ErrTaken}, {"pred p. rule q: p. query q: p.", "p", "q", api.OK}, {"pred p. mode p in out.", "p", "in", api.ErrTaken}, {"pred p. mode p in out.", "p", "any", api.OK}, {"pred p. mode r any.", "p", "any", api.ErrTaken},
		{"pred p. rule r: p@m.", "p", some(39), api.ErrModule}, {"pred p. rule r: p@m.", "p", some(38), api.OK}, {"pred p. rule r: p.", "p", some(39), api.OK}, {"pred p. pred q p@m.", "p", some(40), api.ErrModule}, {"pred p. pred " + some(40) + ". rule r: p@m.", "p", some(40), api.ErrTaken},
		{"pred p. pred p.", "p", "q", api.ErrModule}, {"pred p. pred p.", "r", "Q", api.ErrModule}, {"pred p. rule r: all x@m. p.", "p", "p", api.ErrModule},
	} {
		x := api.Module{Name: "m", Uses: []string{"k"}, Items: parsed(t, w.text).L}
		m, err := module.Rename(x, w.from, w.to)
		if err != w.err || err != api.OK && !same(m, api.Module{}) {
			t.Errorf("Rename from %v to %v in %v = %v, %v, not %v", w.from, w.to, w.text, shownModule(m), err, w.err)
		}
	}
	if _, err := module.Rename(api.Module{Name: "m", Items: []api.Node{endless(api.NdType, "")}}, "p", "q"); err != api.ErrModule {
		t.Errorf("Rename in a tree without end = %v", err)
	}
	if _, err := module.Rename(api.Module{Name: some(40), Items: parsed(t, "pred p. rule r: p.").L}, "p", "q"); err != api.OK {
		t.Errorf("Rename in a module with a long name = %v", err)
	}
}
