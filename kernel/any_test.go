package kernel_test

import (
	"go/parser"
	"go/token"
	"path/filepath"
	"slices"
	"strings"
	"testing"

	"peculium/api"
	"peculium/kernel"
)

// The package imports api alone.
func TestImports(t *testing.T) {
	files, err := filepath.Glob("*.go")
	if err != nil || len(files) == 0 {
		t.Fatalf("the files of the package: %v, %v", files, err)
	}
	for _, name := range files {
		if strings.HasSuffix(name, "_test.go") {
			continue
		}
		f, err := parser.ParseFile(token.NewFileSet(), name, nil, parser.ImportsOnly)
		if err != nil {
			t.Fatal(err)
		}
		for _, x := range f.Imports {
			if x.Path.Value != `"peculium/api"` {
				t.Errorf("%v imports %v", name, x.Path.Value)
			}
		}
	}
}

// P1: proofs without end, and such that share so much that they can't be gone through, have an error.
func TestEndlessProofs(t *testing.T) {
	p := inferred(t, declared+"rule r0: z.")
	for what, pf := range map[string]api.Proof{
		"parts":             endlessProof(api.PfBang, 1, false),
		"two parts":         endlessProof(api.PfTensor, 2, false),
		"many parts":        endlessProof(api.PfTensor, 100000, false),
		"turns":             endlessProof(api.PfAtom, 1, true),
		"turns with two":    endlessProof(api.PfAtom, 2, true),
		"no kind":           endlessProof(0, 1, false),
		"a term":            some(endlessTerm(1), ones),
		"a wide term":       some(endlessTerm(3), ones),
		"a term of a turn":  hyp(0, at(endlessTerm(1))),
		"a term of a move":  does(ones, move(0, []api.Term{c, endlessTerm(2)})),
		"shared proofs":     shared(60),
		"more of them":      shared(1990),
		"2^40 nodes, right": pair(ones, shared(40)),
	} {
		refusedAll(t, what, p, pf, api.ErrLong)
		if n := kernel.Size(pf); n != 20001 || kernel.Depth(pf) != 0 || kernel.Same(pf, pf) || kernel.Same(pf, ones) || kernel.Same(ones, pf) {
			t.Errorf("%v: %v nodes", what, n)
		}
		levels := kernel.Levels(pf)
		if is := levels == 2001; is != (pf.Kind != api.PfEx && !strings.HasPrefix(what, "a term") && !strings.Contains(what, "shared") && what != "more of them" && what[0] != '2') {
			t.Errorf("%v: %v levels", what, levels)
		}
	}
}

// P1: programs that are not sound, and goals, hypotheses and parameters of any kind: a call ends, and an error comes alone.
func TestUnsound(t *testing.T) {
	t.Parallel()
	m := newMaker(t, 7)
	odd := []api.Form{
		{}, {Kind: -1}, {Kind: 13}, {Kind: 1 << 40, L: []api.Form{one}}, of(api.FoTensor), of(api.FoMonad), of(api.FoAll), all(i, of(api.FoLolli)), all(endlessType(1), one), all(endlessType(3), one),
		endlessForm(api.FoAll, 1), endlessForm(api.FoTensor, 2), endlessForm(api.FoLolli, 2), endlessForm(0, 3), endlessForm(api.FoMonad, 1), of(api.FoLolli, one, endlessForm(api.FoWith, 2)),
		atom("p", endlessTerm(1)), atom("p", endlessTerm(2)), atom("p", api.Term{}), atom("X"), atom("p", bound(0)), atom("p", bound(1<<40)), atom("p", vari(0)), atom("p", par(7)), atom("unknown", c),
		of(api.FoMonad, one), of(api.FoMonad, of(api.FoMonad, one)), of(api.FoLolli, one, of(api.FoMonad, top)), of(api.FoLolli, atom("a", c), of(api.FoMonad, of(api.FoPlus, one, one))),
		of(api.FoLolli, of(api.FoMonad, one), of(api.FoMonad, of(api.FoBang, of(api.FoBang, one)))), all(i, of(api.FoMonad, all(i, one))), top, one, of(api.FoBang, one), of(api.FoPlus, one, one),
	}
	types := []api.Type{i, o, ii, higher, {}, base("->"), base("x"), endlessType(1), endlessType(2), {Name: "i", Args: []api.Type{i}}, fn(slices.Repeat([]api.Type{i}, 200)...)}
	for range 3000 {
		x := m.claim()
		for n := range x.p.Rules {
			r := &x.p.Rules[n]
			switch m.Intn(8) {
			case 0:
				r.Form = pick(m, odd...)
			case 1:
				r.Use = pick(m, 0, -1, 4, 1<<62, -1<<63)
			case 2:
				r.Form = m.damagedForm(r.Form)
			}
		}
		switch m.Intn(12) {
		case 0:
			x.p.Rules = slices.Repeat(x.p.Rules, 100)
		case 1:
			x.p.Consts = append([]api.Const{{Name: "c", Type: pick(m, types...)}, {Name: "f", Type: pick(m, types...)}}, x.p.Consts...)
		case 2:
			x.p.Types = nil
		case 3:
			x.p = api.Program{Rules: x.p.Rules}
		}
		for m.Intn(3) == 0 {
			x.params = append(slices.Clone(x.params), pick(m, types...))
		}
		if m.Intn(8) == 0 {
			x.params = slices.Repeat([]api.Type{pick(m, types...)}, 58+m.Intn(5))
		}
		switch m.Intn(6) {
		case 0:
			x.goal = pick(m, odd...)
		case 1:
			x.goal = m.damagedForm(x.goal)
		case 2:
			x.pf = m.damaged(x.pf)
		}
		s := x.sequent()
		for m.Intn(2) == 0 {
			s.Givens = append(s.Givens, api.Given{Form: pick(m, odd...), Use: pick(m, 1, 2, 3, 0, -1)})
		}
		got := resultsOf(x.p, x.params, x.goal, x.pf)
		used, err := kernel.Under(s, x.pf)
		if got.Used != api.OK && got.Uses != nil || got.Blame != api.OK && got.Path != nil || err != api.OK && used != nil {
			t.Fatalf("an error does not come alone: %v, %v, %v", got, used, err)
		}
	}
	// Proofs of each kind with each of these as a goal, a hypothesis, and what stands in a monad.
	for _, f := range odd {
		for _, pf := range []api.Proof{hyp(0), hyp(0, at(c)), hyp(0, toLeft), hyp(0, by(ones)), hyp(0, imp(ones)), ones, tops(0), pair(ones, ones), both(ones, ones), part(api.PfLeft, ones), part(api.PfRight, ones), given(ones), lasts(ones), part(api.PfBang, ones), every(ones), some(c, ones), does(ones, move(0, nil)), does(ones, move(0, nil, 0)), does(ones, move(0, []api.Term{c}, 0))} {
			for _, g := range []api.Form{f, of(api.FoMonad, one), atom("a", c), of(api.FoMonad, f), of(api.FoLolli, f, f)} {
				for use := range 5 {
					p := api.Program{Rules: []api.Rule{{Form: f, Use: use}}}
					resultsOf(p, nil, g, pf)
					p.Rules[0].Form = of(api.FoLolli, atom("a", c), of(api.FoMonad, f))
					resultsOf(p, nil, g, pf)
				}
			}
		}
	}
}

// P1: no program at all.
func TestNothing(t *testing.T) {
	var p api.Program
	hold := func(f api.Form, pf api.Proof, want allResults) {
		t.Helper()
		if got := resultsOf(p, nil, f, pf); !same(got, want) {
			t.Errorf("%v: %v", text(pf), got)
		}
	}
	hold(one, ones, allResults{Blame: api.ErrNone})
	hold(one, tops(), allResults{Check: api.ErrRefused, Used: api.ErrRefused})
	hold(of(api.FoMonad, one), does(ones), allResults{Blame: api.ErrNone})
	hold(api.Form{}, api.Proof{}, allResults{Check: api.ErrRefused, Used: api.ErrRefused, Blame: api.ErrRefused})
	if used, err := kernel.Under(api.Sequent{}, api.Proof{}); err != api.ErrRefused || used != nil {
		t.Errorf("Under = %v, %v", used, err)
	}
	if f, err := kernel.Open(api.Form{}, api.Term{}); err != api.ErrForm || !same(f, api.Form{}) {
		t.Errorf("Open = %v, %v", f, err)
	}
	if f, err := kernel.Replace(api.Form{}, nil, 0); err != api.ErrForm || !same(f, api.Form{}) {
		t.Errorf("Replace = %v, %v", f, err)
	}
	if kernel.Typed(p, nil, c, i) || kernel.Typed(p, nil, api.Term{}, api.Type{}) {
		t.Errorf("something is typed")
	}
}

// Results share no memory with arguments, and have none twice.
func TestNewMemory(t *testing.T) {
	t.Parallel()
	m := newMaker(t, 8)
	for x := range m.claims(500) {
		path, _ := kernel.Blame(x.p, x.params, x.goal, x.pf)
		ownMemory(t, "Blame", path, x.pf)
		used, _ := kernel.Under(x.sequent(), x.pf)
		ownMemory(t, "Under", used, x.pf)
		l := []api.Term{m.rawTerm(2, 0), tm(`\ . f B0 B0`)}
		weak, _ := kernel.Weaken(x.pf, 0, 1)
		ownMemory(t, "Weaken", weak, x.pf)
		other, _ := kernel.Instance(x.pf, l, 1)
		ownMemory(t, "Instance", other, x.pf, l)
		other, _ = kernel.Instance(x.pf, nil, 0)
		ownMemory(t, "Instance by nothing", other, x.pf)
		f, _ := kernel.Replace(x.goal, l, 1)
		ownMemory(t, "Replace", f, x.goal, l)
		for _, r := range x.p.Rules {
			f, _ := kernel.Open(r.Form, l[0])
			ownMemory(t, "Open", f, r.Form, l)
		}
		ownMemory(t, "Hyps", kernel.Hyps(x.pf), x.pf)
	}
	odd := some(api.Term{Args: []api.Term{c, {}}}, hyp(0, at(api.Term{Name: "x", Args: []api.Term{con("f", c)}})))
	x, err := kernel.Instance(odd, nil, 0)
	ownMemory(t, "Instance of terms without a kind", x, odd)
	y, e := kernel.Weaken(odd, 0, 1)
	ownMemory(t, "Weaken of terms without a kind", y, odd)
	if err != api.OK || e != api.OK || !same(x, odd) {
		t.Errorf("%v, %v", err, e)
	}
}

// Arguments stay as they are, and calls do the same again, though lists have room behind their ends.
func TestCallersMemory(t *testing.T) {
	t.Parallel()
	m := newMaker(t, 9)
	for x := range m.claims(500) {
		if m.Intn(2) == 0 {
			x.pf = m.damaged(x.pf)
		}
		x.p.Rules = append(make([]api.Rule, 0, 30), x.p.Rules...)
		x.params = append(make([]api.Type, 0, 70), x.params...)
		for _, y := range spots(&x.pf) {
			y.Uses = append(make([]int, 0, 9), y.Uses...)
			y.L = append(make([]api.Proof, 0, 9), y.L...)
			y.Spine = append([]api.Turn{}, y.Spine...)
			y.Moves = append([]api.Move{}, y.Moves...)
			y.Term.Args = append([]api.Term{}, y.Term.Args...)
		}
		l := append(make([]api.Term, 0, 9), tm(`\ . f B0 B0`), par(3))
		s := x.sequent()
		s.Givens = append(make([]api.Given, 0, 9), api.Given{Form: atom("b"), Use: api.UsOnce})
		before, list := copied(s), copied(l)
		pf := copied(x.pf)
		type results struct {
			All       allResults
			Under     []int
			Weak      api.Proof
			Other     api.Proof
			Form      api.Form
			Errors    [4]api.Errno
			Names     []int
			Counted   [3]int
			IsItself  bool
			IsTypedAs bool
		}
		call := func() (r results) {
			r.All = resultsOf(x.p, x.params, x.goal, x.pf)
			r.Under, r.Errors[0] = kernel.Under(s, x.pf)
			r.Weak, r.Errors[1] = kernel.Weaken(x.pf, 1, 1)
			r.Other, r.Errors[2] = kernel.Instance(x.pf, l, 1)
			r.Form, r.Errors[3] = kernel.Replace(x.goal, l, 1)
			r.Names, r.Counted = kernel.Hyps(x.pf), [3]int{kernel.Size(x.pf), kernel.Levels(x.pf), kernel.Depth(x.pf)}
			r.IsItself, r.IsTypedAs = kernel.Same(x.pf, x.pf), kernel.Typed(x.p, x.params, l[0], ii)
			return r
		}
		if want := resultsOf(copied(x.p), copied(x.params), x.goal, pf); !same(call().All, want) {
			t.Fatalf("%v: %v with nil for empty lists, not %v", x, want, call().All)
		}
		if a, b := call(), call(); !same(a, b) || !same(s, before) || !same(x.pf, pf) || !same(l, list) {
			t.Fatalf("%v: %v, then %v", x, a, b)
		}
	}
}
