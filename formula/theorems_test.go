package formula_test

import (
	"fmt"
	"slices"
	"testing"

	"peculium/api"
	"peculium/formula"
	"peculium/syntax"
	"peculium/term"
	"peculium/types"
)

// eta is Eta of a head, which has to have none of its errors.
func eta(t *testing.T, head api.Term, ty api.Type) api.Term {
	t.Helper()
	x, err := term.Eta(head, ty)
	if err != api.OK {
		t.Fatalf("Eta = %v", err)
	}
	return x
}

// TestOpenedAndBound is P6.2.
func TestOpenedAndBound(t *testing.T) {
	t.Parallel()
	m := newMaker(t, 21, 10)
	met := 0
	for range 10000 {
		e := env{vars: []api.Type{i, ii}, pars: []api.Type{i, pick(m, i, o, ii, ioi, higher), ii}}
		f := m.form("any", e, 1+m.Intn(5))
		for number, ty := range e.pars {
			kind := pick(m, api.FoAll, api.FoEx)
			g, err := formula.Bind(f, kind, number, api.Named{Name: "x", Type: ty})
			if err != api.OK {
				t.Fatalf("Bind of %v = %v", formula.Text(f), err)
			}
			if slices.Contains(formula.Pars(g), number) {
				t.Fatalf("Bind of %v by %v = %v", formula.Text(f), number, formula.Text(g))
			}
			h, err := formula.Open(g, eta(t, par(number), ty))
			if err != api.OK || !formula.Same(f, h) || !same(f, h) {
				t.Fatalf("Open of Bind of %v by %v = %v, %v", formula.Text(f), number, formula.Text(h), err)
			}
			if slices.Contains(formula.Pars(f), number) {
				met++
			}
		}
	}
	if met < 2500 {
		t.Errorf("too few parameters: %v", met)
	}
}

// TestTypesStay is P6.3.
func TestTypesStay(t *testing.T) {
	t.Parallel()
	m := newMaker(t, 22, 20)
	counts := map[string]int{}
	for range 24000 {
		e := m.scope(3, 3)
		e.left = m.Intn(3) == 0
		kind := pick(m, api.FoAll, api.FoEx)
		if e.left {
			e.vars, kind = nil, api.FoAll
		} else if kind == api.FoAll {
			e.vars = nil
		}
		word := "plain"
		if e.left {
			word = pick(m, "clause", "rule")
		}
		b := binder{m.someType(), (kind == api.FoAll) == e.left}
		f := api.Form{Kind: kind, Name: "x", Type: b.ty, L: []api.Form{m.form(word, e.within(b), 1+m.Intn(4))}}
		next, call := par(len(e.pars)), "Clause"
		s := api.Scope{Vars: e.vars, Pars: e.pars}
		judge := func(s api.Scope, f api.Form) api.Errno { return formula.Clause(m.p, s.Pars, f) }
		more := api.Scope{Vars: e.vars, Pars: append(slices.Clip(e.pars), b.ty)}
		if !e.left {
			judge, call = func(s api.Scope, f api.Form) api.Errno { return formula.Goal(m.p, s, f) }, "Goal of FoAll"
			if kind == api.FoEx {
				next, call = vari(len(e.vars)), "Goal of FoEx"
				more = api.Scope{Vars: append(slices.Clip(e.vars), b.ty), Pars: e.pars}
			}
		}
		if judge(s, f) != api.OK {
			continue
		}
		counts[call]++
		g, err := formula.Open(f, eta(t, next, b.ty))
		if err != api.OK || judge(more, g) != api.OK {
			t.Fatalf("%v takes %v, but not %v, %v: %v", call, formula.Text(f), formula.Text(g), err, judge(more, g))
		}
	}
	for _, call := range []string{"Clause", "Goal of FoAll", "Goal of FoEx"} {
		if counts[call] < 2000 {
			t.Errorf("too few of %v: %v", call, counts)
		}
	}
}

// TestKindsOfParts is P6.4.
func TestKindsOfParts(t *testing.T) {
	t.Parallel()
	m := newMaker(t, 23, 8)
	counts := map[string]int{}
	for range 10000 {
		e := m.scope(3, 3)
		f, g := m.form(pick(m, "clause", "clause", "any"), e, m.Intn(4)), m.form(pick(m, "clause", "clause", "any"), e, m.Intn(4))
		isF, isG := formula.Kind(m.p, f) == api.HyBack, formula.Kind(m.p, g) == api.HyBack
		if both := formula.Kind(m.p, of(api.FoWith, f, g)) == api.HyBack; both != (isF && isG) {
			t.Fatalf("FoWith of %v and %v is a clause: %v", formula.Text(f), formula.Text(g), both)
		}
		if is := formula.Kind(m.p, of(api.FoLolli, m.atom(api.PrBack, e), f)) == api.HyBack; is != isF {
			t.Fatalf("FoLolli of an atom and %v is a clause: %v", formula.Text(f), is)
		}
		if isF && isG {
			counts["clauses"]++
		} else {
			counts["others"]++
		}
		s := api.Scope{Vars: e.vars, Pars: e.pars}
		goal := m.form("plain", e, 2+m.Intn(4))
		switch goal.Kind {
		case api.FoTensor, api.FoWith, api.FoPlus, api.FoBang:
			if formula.Goal(m.p, s, goal) != api.OK {
				continue
			}
			counts["goals"]++
			for _, x := range goal.L {
				if err := formula.Goal(m.p, s, x); err != api.OK {
					t.Fatalf("Goal takes %v, but not %v: %v", formula.Text(goal), formula.Text(x), err)
				}
			}
		}
	}
	if counts["clauses"] < 1500 || counts["others"] < 1500 || counts["goals"] < 1500 {
		t.Errorf("too few of a kind: %v", counts)
	}
}

// TestOrder is P6.5.
func TestOrder(t *testing.T) {
	t.Parallel()
	m := newMaker(t, 24, 10)
	var list []api.Form
	for range 250 {
		f := m.raw(1+m.Intn(3), 0)
		list = append(list, f, m.neighbour(f))
	}
	var keys []string
	for _, f := range list {
		keys = append(keys, fmt.Sprintf("%+v", unnamed(f)))
	}
	equal := 0
	for n, f := range list {
		for k, g := range list {
			x, y := formula.Compare(f, g), formula.Compare(g, f)
			isSame := formula.Same(f, g)
			if x != -y || x != sign(refCompare(f, g)) || isSame != (x == 0) || isSame != (keys[n] == keys[k]) {
				t.Fatalf("Compare of %v and %v = %v, %v; Same = %v", formula.Text(f), formula.Text(g), x, y, isSame)
			}
			if x == 0 {
				equal++
			}
		}
	}
	for range 100000 {
		f, g, h := pick(m, list...), pick(m, list...), pick(m, list...)
		if formula.Compare(f, g) <= 0 && formula.Compare(g, h) <= 0 && formula.Compare(f, h) > 0 {
			t.Fatalf("Compare is no order of %v, %v, %v", formula.Text(f), formula.Text(g), formula.Text(h))
		}
	}
	if equal < len(list)+100 {
		t.Errorf("too few are equal: %v", equal)
	}
}

// neighbour is a raw formula that differs little, or only by a name.
func (m maker) neighbour(f api.Form) api.Form {
	f = copied(f)
	x := &f
	for len(x.L) > 0 && m.Intn(3) > 0 {
		x = &x.L[m.Intn(len(x.L))]
	}
	switch {
	case x.Kind == api.FoAll || x.Kind == api.FoEx:
		x.Name = "other"
		if m.Intn(2) == 0 {
			x.Type = pick(m, i, ii, fn(i, ii))
		}
	case x.Kind >= api.FoTensor && x.Kind <= api.FoImp:
		x.Kind = api.FoTensor + m.Intn(5)
	case len(x.Args) > 0:
		y := &x.Args[len(x.Args)-1]
		for len(y.Args) > 0 && m.Intn(2) == 0 {
			y = &y.Args[0]
		}
		if y.Kind != api.TmCon && y.Kind != api.TmLam {
			y.N = m.Intn(3)
		} else {
			*y = m.rawTerm(1, 0)
		}
	}
	return f
}

// TestTexts is P6.6: what is read of the text is the formula.
func TestTexts(t *testing.T) {
	t.Parallel()
	m := newMaker(t, 25, 10)
	met := map[string]api.Form{}
	again := 0
	for n := range 20000 {
		f := m.raw(1+m.Intn(4), 0)
		if n%3 == 0 {
			f = m.form("any", env{vars: []api.Type{i, ii}, pars: []api.Type{ioi, i}}, 1+m.Intn(5))
		}
		for _, x := range []api.Form{f, m.neighbour(f)} {
			text := formula.Text(x)
			if text == "" || !formula.Same(form(text), x) {
				t.Fatalf("Text of %+v = %q", x, text)
			}
			if y, ok := met[text]; ok {
				again++
				if !formula.Same(x, y) {
					t.Fatalf("two formulas have the text %q", text)
				}
			}
			met[text] = x
		}
		other := m.neighbour(f)
		if (formula.Text(f) == formula.Text(other)) != formula.Same(f, other) {
			t.Fatalf("the texts of %q and %q, and Same = %v", formula.Text(f), formula.Text(other), formula.Same(f, other))
		}
	}
	if again < 2000 {
		t.Errorf("too few texts twice: %v", again)
	}
}

// program makes a valid program, of the rules and queries of which many are wrong.
func (m maker) program(n int) api.Program {
	p := copied(m.p)
	for k := range n {
		r := api.Rule{Name: "r" + name(k), Use: pick(m, api.UsLast, api.UsLast, api.UsOnce, api.UsMost)}
		r.Form = m.form(pick(m, "clause", "rule", "fact", "last", "any"), env{left: true}, 1+m.Intn(4))
		q := api.Query{Name: "q" + name(k)}
		e := env{}
		for v := range m.Intn(3) {
			ty := pick(m, i, o, ii)
			q.Vars = append(q.Vars, api.Named{Name: "V" + name(v), Type: ty})
			e.vars = append(e.vars, ty)
		}
		q.Form = m.form(pick(m, "plain", "monadic", "any"), e, 1+m.Intn(4))
		p.Rules, p.Queries = append(p.Rules, r), append(p.Queries, q)
	}
	return p
}

// TestBlamed is P6.7.
func TestBlamed(t *testing.T) {
	t.Parallel()
	m := newMaker(t, 26, 40)
	counts := map[string]int{}
	for range 3000 {
		p := m.program(1 + m.Intn(4))
		rules, queries, err := formula.Blames(p)
		if want := types.Check(p); err != want {
			t.Fatalf("Blames = %v, want %v", err, want)
		}
		if err != api.OK {
			continue
		}
		want := api.OK
		if len(queries) > 0 {
			want = api.ErrGoal
			counts["queries"]++
		}
		if len(rules) > 0 {
			want = api.ErrClause
			counts["rules"]++
		}
		if got := formula.Check(p); got != want {
			t.Fatalf("Check = %v, Blames = %v, %v", got, rules, queries)
		}
		for n, r := range p.Rules {
			admitted := map[int][]int{api.UsLast: {1, 3, 4}, api.UsOnce: {1, 2}, api.UsMost: {1}}[r.Use]
			if slices.Contains(rules, n) == slices.Contains(admitted, refKind(p, r.Form)) {
				t.Fatalf("Blames = %v with the Use %v of %v", rules, r.Use, formula.Text(r.Form))
			}
		}
		for n, q := range p.Queries {
			if slices.Contains(queries, n) == refGoal(p, q.Form) {
				t.Fatalf("Blames = %v with %v", queries, formula.Text(q.Form))
			}
			if err := formula.Query(api.Program{Types: p.Types, Consts: p.Consts, Preds: p.Preds}, q); err != map[bool]api.Errno{true: api.ErrGoal}[slices.Contains(queries, n)] {
				t.Fatalf("Query of %v = %v", formula.Text(q.Form), err)
			}
		}
		sound := p
		sound.Rules, sound.Queries = without(p.Rules, rules), without(p.Queries, queries)
		if err := formula.Check(sound); err != api.OK {
			t.Fatalf("Check without what Blames tells = %v", err)
		}
		if !slices.IsSorted(rules) || !slices.IsSorted(queries) {
			t.Fatalf("Blames = %v, %v", rules, queries)
		}
		counts["valid"]++
	}
	if counts["valid"] < 1000 || counts["rules"] < 500 || counts["queries"] < 300 {
		t.Errorf("too few of a kind: %v", counts)
	}
}

// without is a list without the elements with some indices.
func without[T any](list []T, indices []int) []T {
	var out []T
	for n, x := range list {
		if !slices.Contains(indices, n) {
			out = append(out, x)
		}
	}
	return out
}

// TestInferred is P6.8.
func TestInferred(t *testing.T) {
	t.Parallel()
	m := newMaker(t, 27, 40)
	rules := 0
	check := func(p api.Program) {
		if err := types.Check(p); err != api.OK {
			t.Fatalf("Check of what Infer returns = %v", err)
		}
		if err := formula.Check(p); err != api.OK && err != api.ErrClause && err != api.ErrGoal {
			t.Fatalf("Check = %v", err)
		}
		n, err := types.Show(p)
		if err != api.OK {
			return
		}
		q, blames, err := types.Infer(n)
		if err != api.OK || len(p.Rules) != len(q.Rules) {
			t.Fatalf("Infer of Show = %v, %v", blames, err)
		}
		for k, r := range p.Rules {
			rules++
			if x, y := formula.Text(r.Form), formula.Text(q.Rules[k].Form); x != y || x == "" {
				t.Fatalf("Text of a rule = %q, of the rule that is inferred %q", x, y)
			}
		}
	}
	check(inferred(t, declared+`rule r: p (f X) o- q X. rule s: p (lam F) o- all x. p (F x). rule u: h F <= h (\x. f (F x)). once v: a c. rule w: all X. a X -o {ex Y. b Y * a X * !l c}.
query x: h X. query y: ex F. all x: i. p (F x). query z: a c -o {a X}.`))
	for range 1500 {
		p := m.program(2)
		p.Queries = nil
		n, err := types.Show(p)
		if err != api.OK {
			continue
		}
		text, err := syntax.Print(n)
		if err != api.OK {
			continue
		}
		n, _, _ = syntax.Parse(text)
		if p, _, err = types.Infer(n); err == api.OK {
			check(p)
		}
	}
	if rules < 800 {
		t.Errorf("too few rules: %v", rules)
	}
}

// TestOrderOfSubstitutions is P6.9.
func TestOrderOfSubstitutions(t *testing.T) {
	t.Parallel()
	m := newMaker(t, 28, 10)
	changes := 0
	for range 16000 {
		e := env{vars: []api.Type{i, ii, o}, pars: []api.Type{i, o, ii}}
		f := m.form("any", e, 1+m.Intn(5))
		nothing, err := formula.Put(f, nil)
		if err != api.OK || !same(nothing, f) {
			t.Fatalf("Put of no terms in %v = %v, %v", formula.Text(f), formula.Text(nothing), err)
		}
		unlifted, err := formula.Lift(f, 0, m.Intn(4))
		if err != api.OK || !same(unlifted, f) {
			t.Fatalf("Lift by 0 of %v = %v, %v", formula.Text(f), formula.Text(unlifted), err)
		}
		by, from := m.Intn(5), m.Intn(4)
		var l, lifted []api.Term
		for _, ty := range e.vars[:m.Intn(4)] {
			x := m.term(ty, env{vars: e.vars, pars: e.pars}, 2)
			y, err := term.Lift(x, by, from)
			if err != api.OK {
				t.Fatalf("Lift = %v", err)
			}
			l, lifted = append(l, x), append(lifted, y)
		}
		x, err := formula.Put(f, l)
		if err != api.OK {
			continue
		}
		x, err = formula.Lift(x, by, from)
		y, err2 := formula.Lift(f, by, from)
		if err != api.OK || err2 != api.OK {
			t.Fatalf("Lift = %v, %v", err, err2)
		}
		y, err = formula.Put(y, lifted)
		if err != api.OK || !same(x, y) {
			t.Fatalf("of %v: %v, and %v, %v", formula.Text(f), formula.Text(x), formula.Text(y), err)
		}
		if !same(x, f) {
			changes++
		}
	}
	if changes < 2000 {
		t.Errorf("too few changes: %v", changes)
	}
}

// TestApart is P6.10.
func TestApart(t *testing.T) {
	t.Parallel()
	m := newMaker(t, 29, 50)
	count := 0
	for range 12000 {
		e := env{left: true, pars: []api.Type{i, ii}}
		f := m.form("rule", e, 3+m.Intn(5))
		if formula.Kind(m.p, f) != api.HyRule {
			continue
		}
		r, err := formula.Rule(m.p, f)
		if err != api.OK {
			t.Fatalf("Rule of %v = %v", formula.Text(f), err)
		}
		left := f
		var vars []api.Type
		for left.Kind == api.FoAll {
			vars = append(vars, left.Type)
			if left, err = formula.Open(left, eta(t, vari(len(vars)-1), left.Type)); err != api.OK {
				t.Fatalf("Open = %v", err)
			}
		}
		again := of(api.FoMonad, r.Then)
		for _, x := range slices.Backward(r.Ante) {
			kind := api.FoLolli
			if x.Last {
				kind = api.FoImp
			}
			again = of(kind, atom(x.Fact.Name, x.Fact.Args...), again)
			if slices.ContainsFunc(x.Fact.Args, func(t api.Term) bool { return !term.Closed(t) }) {
				t.Fatalf("a free bound variable in %v", r)
			}
		}
		if !same(again, left) || !same(vars, r.Vars) || !term.Closed(encoded(r.Then)) {
			t.Fatalf("Rule of %v = %v", formula.Text(f), r)
		}
		count++
	}
	if count < 2500 {
		t.Errorf("too few forward rules: %v", count)
	}
}
