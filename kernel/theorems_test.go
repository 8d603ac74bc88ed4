package kernel_test

import (
	"slices"
	"testing"

	"peculium/api"
	"peculium/formula"
	"peculium/kernel"
	"peculium/term"
)

// numbersOf are the numbers of a program's rules with a Use.
func numbersOf(p api.Program, use int) []int {
	var list []int
	for n, r := range p.Rules {
		if r.Use == use {
			list = append(list, n)
		}
	}
	return list
}

// oneMore returns a program with a rule more at the end, which has a Use.
func (m maker) oneMore(p api.Program, use int) api.Program {
	var list []api.Rule
	for _, r := range m.pool.Rules {
		if r.Use == use {
			list = append(list, r)
		}
	}
	r := pick(m, list...)
	r.Name = "more"
	p.Rules = append(slices.Clip(p.Rules), r)
	return p
}

// P8.2: an accepted proof uses all linear rules, and some of the affine ones; one linear rule more is not used.
func TestEachOnce(t *testing.T) {
	t.Parallel()
	m := newMaker(t, 11)
	linear, affine := 0, 0
	for x := range m.claims(1500) {
		used, err := kernel.Used(x.p, x.params, x.goal, x.pf)
		isAffine := func(n int) bool { return x.p.Rules[n].Use == api.UsMost }
		if err != api.OK || !slices.Equal(slices.DeleteFunc(slices.Clone(used), isAffine), numbersOf(x.p, api.UsOnce)) {
			t.Fatalf("%v uses %v, %v", x, used, err)
		}
		linear += len(numbersOf(x.p, api.UsOnce))
		affine += len(used) - len(numbersOf(x.p, api.UsOnce))
		n := len(x.p.Rules)
		pf, err := kernel.Weaken(x.pf, n, 1)
		if err != api.OK {
			t.Fatalf("Weaken of %v: %v", x, err)
		}
		p := m.oneMore(x.p, api.UsOnce)
		if got := resultsOf(p, x.params, x.goal, pf); !same(got, allResults{Check: api.ErrRefused, Uses: used}) {
			t.Fatalf("%v with a linear rule more: %v", x, got)
		}
	}
	if linear < 1500 || affine < 100 {
		t.Errorf("too few are used: %v, %v", linear, affine)
	}
}

// P8.3: one lasting or affine rule more at the end does no harm.
func TestWeakening(t *testing.T) {
	t.Parallel()
	m := newMaker(t, 12)
	for x := range m.claims(1500) {
		n := len(x.p.Rules)
		pf, err := kernel.Weaken(x.pf, n, 1)
		if err != api.OK {
			t.Fatalf("Weaken of %v: %v", x, err)
		}
		for _, use := range []int{api.UsLast, api.UsMost} {
			p := m.oneMore(x.p, use)
			if err := kernel.Check(p, x.params, x.goal, pf); err != api.OK {
				t.Fatalf("%v with a rule more: %v", textOf(p, x.goal, pf), err)
			}
		}
	}
}

// P8.4: terms in the places of parameters.
func TestSubstitution(t *testing.T) {
	t.Parallel()
	m := newMaker(t, 13)
	changed, contracted := 0, 0
	for x := range m.claims(4000) {
		if len(x.params) == 0 {
			continue
		}
		first := 1 + m.Intn(len(x.params))
		var params []api.Type
		for range m.Intn(3) {
			params = append(params, pick(m, i, o, ii, ioi))
		}
		by := len(params)
		params = append(params, x.params[first:]...)
		var l []api.Term
		for _, ty := range x.params[:first] {
			y := m.term(ty, params, nil, 2)
			if term.Check(x.p, params, nil, y, ty) != api.OK {
				t.Fatalf("no term for %v", ty)
			}
			l = append(l, y)
		}
		g, err := kernel.Replace(x.goal, l, by)
		pf, e := kernel.Instance(x.pf, l, by)
		if err != api.OK || e != api.OK {
			t.Fatalf("%v by %v: %v, %v", x, l, err, e)
		}
		if !isPlain(x.p, g, pf) {
			continue
		}
		if err := kernel.Check(x.p, params, g, pf); err != api.OK {
			t.Fatalf("%v by %v becomes %v: %v", x, l, textOf(x.p, g, pf), err)
		}
		if !formula.Same(g, x.goal) {
			changed++
			if slices.ContainsFunc(l, func(y api.Term) bool { return y.Kind == api.TmLam }) {
				contracted++
			}
		}
	}
	if changed < 250 || contracted < 50 {
		t.Errorf("too few are changed: %v, %v", changed, contracted)
	}
}

// P8.5: proofs are put together.
func TestComposition(t *testing.T) {
	t.Parallel()
	m := newMaker(t, 14)
	counts := map[string]int{}
	for x := range m.claims(1500) {
		a, b := m.parted(roomOf(x.p, x.params))
		if m.Intn(2) == 0 {
			b = a
		}
		f, u := m.plain(a, 2)
		g, v := m.plain(b, 2)
		if m.Intn(5) == 0 {
			u = m.damaged(u)
		}
		used, err := kernel.Used(x.p, x.params, f, u)
		other, e := kernel.Used(x.p, x.params, g, v)
		call := func(kind string, wanted bool, uses []int, f api.Form, pf api.Proof) {
			t.Helper()
			got, err := kernel.Used(x.p, x.params, f, pf)
			if (err == api.OK) != wanted || wanted && !slices.Equal(got, uses) {
				t.Fatalf("%v: %v, %v, not %v, %v", textOf(x.p, f, pf), got, err, uses, wanted)
			}
			if wanted {
				counts[kind]++
			}
		}
		both := slices.Compact(slices.Sorted(slices.Values(slices.Concat(used, other))))
		apart := len(both) == len(used)+len(other)
		isOK := err == api.OK && e == api.OK
		call("tensor", isOK && apart, both, of(api.FoTensor, f, g), part(api.PfTensor, u, v))
		if isOK && slices.Equal(used, other) {
			call("with", true, used, of(api.FoWith, f, g), part(api.PfWith, u, v))
		}
		call("left", err == api.OK, used, of(api.FoPlus, f, g), part(api.PfLeft, u))
		call("right", err == api.OK, used, of(api.FoPlus, g, f), part(api.PfRight, u))
		call("bang", err == api.OK && len(used) == 0, nil, of(api.FoBang, f), part(api.PfBang, u))
	}
	for _, kind := range []string{"tensor", "with", "left", "right", "bang"} {
		if counts[kind] < 150 {
			t.Errorf("too few of %v: %v", kind, counts)
		}
	}
}

// P8.6: an implication is proved exactly if what is behind it is, with what is in front of it as a hypothesis.
func TestCut(t *testing.T) {
	t.Parallel()
	m := newMaker(t, 15)
	counts := map[[2]int]int{}
	check := func(s api.Sequent, pf api.Proof) {
		n := len(s.Program.Rules) + len(s.Givens)
		use := api.UsOnce
		if s.Goal.Kind == api.FoImp {
			use = api.UsLast
		}
		below := s
		below.Givens = append(slices.Clip(s.Givens), api.Given{Form: s.Goal.L[0], Use: use})
		below.Goal = s.Goal.L[1]
		used, err := kernel.Under(s, pf)
		other, e := kernel.Under(below, pf.L[0])
		is := e == api.OK && (use == api.UsLast || slices.Contains(other, n))
		without := slices.DeleteFunc(slices.Clone(other), func(x int) bool { return x == n })
		if (err == api.OK) != is || is && !slices.Equal(used, without) {
			t.Fatalf("%v: %v, %v, but %v, %v for its part", textOf(s.Program, s.Goal, pf), used, err, other, e)
		}
		counts[[2]int{s.Goal.Kind, int(err)}]++
	}
	for x := range m.claims(1500) {
		w := roomOf(x.p, x.params)
		s := api.Sequent{Program: x.p, Params: x.params}
		for range m.Intn(3) {
			y := api.Given{Form: m.someAtom(w, pick(m, api.PrBack, api.PrFact, api.PrLast)), Use: pick(m, api.UsLast, api.UsOnce, api.UsMost)}
			s.Givens, w.hyps = append(s.Givens, y), append(w.hyps, y)
		}
		w = w.has(nil, nil)
		for n, h := range w.hyps {
			if h.Use == api.UsOnce && m.Intn(2) == 0 {
				w.linear = append(w.linear, n)
			}
		}
		g, pf := m.introduced(w, 2, pick(m, m.plain, m.plain, m.monadic))
		s.Goal = g
		for n := range 4 {
			y := pf
			if n > 0 {
				y = m.damaged(pf)
			}
			if n == 3 { // so that the hypothesis is not used
				y.L = []api.Proof{pick(m, ones, tops(), tops(m.Intn(12)), hyp(m.Intn(12)))}
			}
			if kernel.Formed(y) == api.OK && (y.Kind == api.PfLolli || y.Kind == api.PfImp) && (y.Kind == api.PfLolli) == (g.Kind == api.FoLolli) {
				check(s, y)
			}
		}
	}
	for _, kind := range []int{api.FoLolli, api.FoImp} {
		if counts[[2]int{kind, 0}] < 200 || counts[[2]int{kind, 80}] < 200 {
			t.Errorf("too few of a kind: %v", counts)
		}
	}
}

// P8.7: what is refused is blamed, at a proof within it; what is accepted is not.
func TestBlamed(t *testing.T) {
	t.Parallel()
	m := newMaker(t, 16)
	lengths := map[int]int{}
	for x := range m.claims(2000) {
		if m.Intn(10) > 0 {
			x.pf = m.damaged(x.pf)
		}
		err := kernel.Check(x.p, x.params, x.goal, x.pf)
		path, e := kernel.Blame(x.p, x.params, x.goal, x.pf)
		if formed := kernel.Formed(x.pf); formed != api.OK {
			if err != formed || e != formed {
				t.Fatalf("%v: %v, %v", x, err, e)
			}
			continue
		}
		if (err == api.ErrRefused) != (e == api.OK) || (err == api.OK) != (e == api.ErrNone) || err != api.OK && err != api.ErrRefused {
			t.Fatalf("%v: %v, but it is blamed with %v, %v", x, err, path, e)
		}
		y := x.pf
		for _, n := range path {
			switch {
			case n >= 0 && n < len(y.L):
				y = y.L[n]
			case n < 0 && -1-n < len(y.Spine) && len(y.Spine[-1-n].L) == 1:
				y = y.Spine[-1-n].L[0]
			default:
				t.Fatalf("%v: the path %v leads nowhere", x, path)
			}
		}
		if e == api.OK {
			lengths[len(path)]++
		}
	}
	for n := range 5 {
		if lengths[n] < 20 {
			t.Errorf("too few paths of a length: %v", lengths)
		}
	}
}

// renamed returns a formula with other Names of quantifiers.
func (m maker) renamed(f api.Form) api.Form {
	f = copied(f)
	if f.Kind == api.FoAll || f.Kind == api.FoEx {
		f.Name = pick(m, "x", "Y", "zz", "c", "p", "a@b")
	}
	for n := range f.L {
		f.L[n] = m.renamed(f.L[n])
	}
	return f
}

// P8.8: Names of quantifiers tell nothing.
func TestQuantifierNames(t *testing.T) {
	t.Parallel()
	m := newMaker(t, 17)
	changed := 0
	for x := range m.claims(1500) {
		if m.Intn(2) == 0 {
			x.pf = m.damaged(x.pf)
		}
		p, g := copied(x.p), m.renamed(x.goal)
		for n := range p.Rules {
			p.Rules[n].Form = m.renamed(p.Rules[n].Form)
		}
		if got, want := resultsOf(p, x.params, g, x.pf), resultsOf(x.p, x.params, x.goal, x.pf); !same(got, want) {
			t.Fatalf("%v with other names: %v, not %v", x, got, want)
		}
		if !same(p, x.p) || !same(g, x.goal) {
			changed++
		}
	}
	if changed < 1200 {
		t.Errorf("too few changes: %v", changed)
	}
}

// P8.9: a proof is not deeper than it has nodes; parameters for parameters, and other numbers, change neither.
func TestSizesStay(t *testing.T) {
	t.Parallel()
	m := newMaker(t, 18)
	for x := range m.claims(1500) {
		pf := x.pf
		if m.Intn(2) == 0 {
			pf = m.damaged(pf)
		}
		if kernel.Formed(pf) != api.OK {
			continue
		}
		size, depth := kernel.Size(pf), kernel.Depth(pf)
		if depth > size {
			t.Fatalf("%v: %v nodes, depth %v", text(pf), size, depth)
		}
		other, err := kernel.Weaken(pf, m.Intn(8), m.Intn(8))
		if err != api.OK || kernel.Size(other) != size || kernel.Depth(other) != depth {
			t.Fatalf("Weaken of %v: %v, %v, %v", text(pf), err, kernel.Size(other), kernel.Depth(other))
		}
		l := []api.Term{par(m.Intn(4)), par(m.Intn(4)), par(m.Intn(4))}[:m.Intn(4)]
		other, err = kernel.Instance(pf, l, m.Intn(5))
		if err == api.ErrForm || err == api.ErrLong {
			continue // there was a variable, or what is no term
		}
		if err != api.OK || kernel.Size(other) != size || kernel.Depth(other) != depth {
			t.Fatalf("Instance of %v: %v, %v, %v", text(pf), err, kernel.Size(other), kernel.Depth(other))
		}
	}
}

// P8.10: numbers that are named are those of hypotheses; a lasting rule that is not named can be left out.
func TestNamed(t *testing.T) {
	t.Parallel()
	m := newMaker(t, 19)
	without := 0
	for x := range m.claims(1500) {
		names := kernel.Hyps(x.pf)
		if slices.ContainsFunc(names, func(n int) bool { return n < 0 || n >= 400 }) {
			t.Fatalf("%v names %v", x, names)
		}
		for _, n := range numbersOf(x.p, api.UsLast) {
			if slices.Contains(names, n) {
				continue
			}
			p := copied(x.p)
			p.Rules = slices.Delete(p.Rules, n, n+1)
			pf := copied(x.pf)
			refNumbers(&pf, true, func(k *int) {
				if *k > n {
					*k--
				}
			})
			if err := kernel.Check(p, x.params, x.goal, pf); err != api.OK {
				t.Fatalf("%v without the rule %v: %v", x, n, err)
			}
			without++
		}
	}
	if without < 1800 {
		t.Errorf("too few rules are left out: %v", without)
	}
}
