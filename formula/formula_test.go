package formula_test

import (
	"strings"
	"testing"

	"peculium/api"
	"peculium/formula"
	"peculium/term"
)

// endless are formulas without end.
func endless() map[string]api.Form {
	l := make([]api.Form, 1)
	l[0] = of(api.FoBang)
	l[0].L = l
	two := make([]api.Form, 2)
	two[0], two[1] = of(api.FoTensor), of(api.FoWith)
	two[0].L, two[1].L = two, two
	return map[string]api.Form{
		"of FoBang": l[0], "of FoTensor": two[0],
		"an atom with a term": atom("p", endlessTerm()), "an atom with two terms": atom("p", endlessTerm(), endlessTerm()),
	}
}

func endlessTerm() api.Term {
	args := make([]api.Term, 1)
	args[0] = con("f")
	args[0].Args = args
	return args[0]
}

func endlessType() api.Type {
	args := make([]api.Type, 2)
	args[0], args[1] = i, base("->")
	args[1].Args = args
	return args[1]
}

// wide is an atom of n nodes.
func wide(n int) api.Form { return atom("p", ofSize(n-1)) }

func name(n int) string { return strings.Repeat("a", n) }

func TestRaw(t *testing.T) {
	deepType := i
	for range 100 {
		deepType = fn(deepType, i)
	}
	for text, c := range map[string]struct {
		f    api.Form
		want api.Errno
	}{
		"the zero formula":                  {api.Form{}, api.ErrForm},
		"a kind below":                      {of(-1), api.ErrForm},
		"a kind above":                      {of(13), api.ErrForm},
		"a huge kind":                       {of(1<<62, one), api.ErrForm},
		"an atom":                           {atom("p"), api.OK},
		"an atom with nine Args":            {atom("p", ofSize(1), ofSize(1), ofSize(1), ofSize(1), ofSize(1), ofSize(1), ofSize(1), ofSize(1), ofSize(1)), api.ErrForm},
		"an atom with eight Args":           {atom("p", ofSize(1), ofSize(1), ofSize(1), ofSize(1), ofSize(1), ofSize(1), ofSize(1), ofSize(1)), api.OK},
		"an atom with a linked name":        {atom("p@m"), api.OK},
		"an atom with a name of 40 bytes":   {atom(name(40)), api.OK},
		"an atom with a name of 41 bytes":   {atom(name(41)), api.ErrForm},
		"an atom without a name":            {atom(""), api.ErrForm},
		"an atom with a capital name":       {atom("P"), api.ErrForm},
		"an atom with a keyword":            {atom("one"), api.ErrForm},
		"an atom with a formula":            {api.Form{Kind: api.FoAtom, Name: "p", L: []api.Form{one}}, api.ErrForm},
		"an atom with a type":               {api.Form{Kind: api.FoAtom, Name: "p", Type: i}, api.ErrForm},
		"an atom with no raw term":          {atom("p", con("c"), con("C")), api.ErrForm},
		"an atom with an N above MaxIndex":  {atom("p", bound(100001)), api.ErrForm},
		"an atom with an N of MaxIndex":     {atom("p", bound(100000)), api.OK},
		"an atom with a negative N":         {atom("p", par(-1)), api.ErrForm},
		"a quantifier":                      {ex(i, atom("p", bound(0))), api.OK},
		"a small name of a binder":          {all(i, one), api.OK},
		"a binder's name of 40 bytes":       {api.Form{Kind: api.FoAll, Name: "X" + name(39), Type: i, L: []api.Form{one}}, api.OK},
		"a binder's name of 41 bytes":       {api.Form{Kind: api.FoAll, Name: "X" + name(40), Type: i, L: []api.Form{one}}, api.ErrForm},
		"a binder without a name":           {api.Form{Kind: api.FoEx, Type: i, L: []api.Form{one}}, api.ErrForm},
		"a keyword as a binder's name":      {api.Form{Kind: api.FoEx, Name: "all", Type: i, L: []api.Form{one}}, api.ErrForm},
		"a type that no program has":        {all(fn(base("?"), base("")), one), api.OK},
		"an arrow with one argument":        {all(api.Type{Name: "->", Args: []api.Type{i}}, one), api.ErrForm},
		"a base type with an argument":      {ex(api.Type{Name: "i", Args: []api.Type{i}}, one), api.ErrForm},
		"a type of 100 levels":              {all(deepType.Args[0], one), api.OK},
		"a type of 101 levels":              {all(deepType, one), api.ErrForm},
		"a type without end":                {all(endlessType(), one), api.ErrForm},
		"a quantifier with a term":          {api.Form{Kind: api.FoAll, Name: "x", Type: i, Args: []api.Term{con("c")}, L: []api.Form{one}}, api.ErrForm},
		"a quantifier of two formulas":      {api.Form{Kind: api.FoAll, Name: "x", Type: i, L: []api.Form{one, one}}, api.ErrForm},
		"a quantifier of none":              {api.Form{Kind: api.FoEx, Name: "x", Type: i}, api.ErrForm},
		"one with a name":                   {api.Form{Kind: api.FoOne, Name: "x"}, api.ErrForm},
		"top with a type":                   {api.Form{Kind: api.FoTop, Type: i}, api.ErrForm},
		"top with Args of a type":           {api.Form{Kind: api.FoTop, Type: api.Type{Args: []api.Type{i}}}, api.ErrForm},
		"top with a formula":                {of(api.FoTop, one), api.ErrForm},
		"one with a term":                   {api.Form{Kind: api.FoOne, Args: []api.Term{con("c")}}, api.ErrForm},
		"one with a long term":              {api.Form{Kind: api.FoOne, Args: []api.Term{ofSize(5000)}}, api.ErrForm},
		"one with many terms":               {api.Form{Kind: api.FoOne, Args: make([]api.Term, 100000)}, api.ErrForm},
		"one with a deep term":              {api.Form{Kind: api.FoOne, Args: []api.Term{ofDepth(99)}}, api.ErrForm},
		"one with a too deep term":          {api.Form{Kind: api.FoOne, Args: []api.Term{con("c"), ofDepth(100)}}, api.ErrDeep},
		"one with a term without end":       {api.Form{Kind: api.FoOne, Args: []api.Term{endlessTerm()}}, api.ErrDeep},
		"a pair with a name":                {api.Form{Kind: api.FoPlus, Name: "x", L: []api.Form{one, one}}, api.ErrForm},
		"a bang with a type":                {api.Form{Kind: api.FoBang, Type: i, L: []api.Form{one}}, api.ErrForm},
		"a monad with a term":               {api.Form{Kind: api.FoMonad, Args: []api.Term{con("c")}, L: []api.Form{one}}, api.ErrForm},
		"something that is no raw one in L": {of(api.FoLolli, one, of(api.FoBang, of(0))), api.ErrForm},
	} {
		if got := formula.Raw(c.f); got != c.want {
			t.Errorf("Raw of %v = %v, want %v", text, got, c.want)
		}
	}
}

// TestElements gives formulas of each kind none to three elements of L.
func TestElements(t *testing.T) {
	for kind := api.FoOne; kind <= api.FoMonad; kind++ {
		for n := range 4 {
			f := of(kind, []api.Form{one, top, one}[:n]...)
			if kind == api.FoAll || kind == api.FoEx {
				f.Name, f.Type = "x", i
			}
			if got, want := formula.Raw(f) == api.OK, n == elements[kind]; got != want {
				t.Errorf("Raw of the kind %v with %v elements of L: %v", kind, n, got)
			}
		}
	}
}

// TestSizes tells of the limits of nodes and of depth, and one beyond them.
func TestSizes(t *testing.T) {
	pair := func(f, g api.Form) api.Form { return of(api.FoTensor, f, g) }
	for text, c := range map[string]struct {
		f    api.Form
		size int
		want api.Errno
	}{
		"one":                              {one, 1, api.OK},
		"two atoms":                        {pair(atom("p", con("f", con("c"))), atom("q", con("c"))), 6, api.OK},
		"quantifiers, whose types are not": {all(fn(i, o, i), ex(ii, one)), 3, api.OK},
		"an atom of 4000 nodes":            {wide(4000), 4000, api.OK},
		"an atom of 4001 nodes":            {wide(4001), 4001, api.ErrLong},
		"an atom of 5000 nodes":            {wide(5000), 4001, api.ErrLong},
		"two atoms of 4000 nodes":          {pair(wide(2000), wide(1999)), 4000, api.OK},
		"two atoms of 4001 nodes":          {pair(wide(2000), wide(2000)), 4001, api.ErrLong},
		"two long atoms":                   {pair(wide(4000), wide(4000)), 4001, api.ErrLong},
		"100 levels":                       {banged(99, one), 100, api.OK},
		"101 levels":                       {banged(100, one), 101, api.ErrDeep},
		"4000 levels":                      {banged(3999, one), 4000, api.ErrDeep},
		"4001 levels":                      {banged(4000, one), 4001, api.ErrLong},
		"a term of 99 levels":              {atom("p", con("c"), ofDepth(99)), 101, api.OK},
		"a term of 100 levels":             {atom("p", con("c"), ofDepth(100)), 102, api.ErrDeep},
		"a term, all in all 100 levels":    {banged(50, atom("p", ofDepth(49))), 100, api.OK},
		"a term, all in all 101 levels":    {banged(50, atom("p", ofDepth(50))), 101, api.ErrDeep},
		"a term of 3999 levels":            {atom("p", ofDepth(3999)), 4000, api.ErrDeep},
		"a term of 4000 levels":            {atom("p", ofDepth(4000)), 4001, api.ErrLong},
		"levels in the second place":       {pair(one, banged(99, one)), 102, api.ErrDeep},
		"deep and no raw one":              {banged(100, of(99)), 101, api.ErrDeep},
		"long and no raw one":              {of(-5, banged(3998, of(99)), one), 4001, api.ErrLong},
		"an atom with a formula":           {api.Form{Kind: api.FoAtom, L: []api.Form{one, wide(7)}}, 9, api.ErrForm},
		"what is no atom, with terms":      {api.Form{Kind: api.FoBang, Args: []api.Term{ofSize(9)}, L: []api.Form{one}}, 2, api.ErrForm},
	} {
		if got := formula.Size(c.f); got != c.size {
			t.Errorf("Size of %v = %v, want %v", text, got, c.size)
		}
		if got := formula.Raw(c.f); got != c.want {
			t.Errorf("Raw of %v = %v, want %v", text, got, c.want)
		}
	}
	for text, f := range endless() {
		if size, err := formula.Size(f), formula.Raw(f); size != 4001 || err != api.ErrLong {
			t.Errorf("%v without end: Size = %v, Raw = %v", text, size, err)
		}
	}
	if got := formula.Size(of(api.FoTensor, make([]api.Form, 1000000)...)); got != 4001 {
		t.Errorf("Size of a million formulas = %v", got)
	}
}

// TestRawRandom holds Raw and Size against the second way.
func TestRawRandom(t *testing.T) {
	m := newMaker(t, 1, 10)
	counts := map[api.Errno]int{}
	for range 30000 {
		f := m.raw(m.Intn(6), 0)
		if m.Intn(2) == 0 {
			f = m.damaged(f)
		}
		err, size := formula.Raw(f), formula.Size(f)
		counts[err]++
		if nodes, _ := refSize(f); err != refRaw(f) || size != nodes {
			t.Fatalf("Raw, Size of %+v = %v, %v, want %v, %v", f, err, size, refRaw(f), nodes)
		}
	}
	if counts[api.OK] < 10000 || counts[api.ErrForm] < 8000 {
		t.Errorf("too few of a kind: %v", counts)
	}
}

// TestNotRaw gives each function formulas that are not raw: each one has Raw's error, ahead of all others, or finds nothing.
func TestNotRaw(t *testing.T) {
	p := inferred(t, declared)
	list := endless()
	list["too deep"], list["of no kind"], list["too long"] = banged(100, one), of(0), wide(4001)
	badStore := api.Store{Vals: []api.Val{{Level: -1}}}
	for text, f := range list {
		want := formula.Raw(f)
		_, opened := formula.Open(f, api.Term{})
		_, bound := formula.Bind(f, 0, -1, api.Named{})
		_, lifted := formula.Lift(f, -1, -1)
		_, put := formula.Put(f, make([]api.Term, 2001))
		_, value := formula.Value(badStore, f)
		_, rule := formula.Rule(p, f)
		clause := formula.Clause(p, make([]api.Type, 61), f)
		goal := formula.Goal(p, api.Scope{Bound: []api.Type{i}}, f)
		for call, got := range map[string]api.Errno{"Open": opened, "Bind": bound, "Lift": lifted, "Put": put, "Value": value, "Rule": rule, "Clause": clause, "Goal": goal} {
			if want == api.OK || got != want {
				t.Errorf("%v of a formula %v = %v, want %v", call, text, got, want)
			}
		}
		if formula.Kind(p, f) != api.HyNone || formula.Monadic(p, f) || formula.Heads(f) != nil || formula.Calls(f, true) != nil || formula.Calls(f, false) != nil || formula.Vars(f) != nil || formula.Pars(f) != nil || formula.Text(f) != "" {
			t.Errorf("something is found in a formula %v", text)
		}
		if formula.Same(f, f) || formula.Same(f, one) || formula.Same(one, f) || formula.Compare(f, f) != 0 || formula.Compare(f, one) != -1 || formula.Compare(one, f) != 1 || formula.Compare(f, of(77)) != 0 {
			t.Errorf("a formula %v is compared as a raw one", text)
		}
	}
}

// TestErrorOfTerms: behind the formula's error comes the first one of its terms, and then the others.
func TestErrorOfTerms(t *testing.T) {
	notRaw, tooDeep := con("C"), ofDepth(101)
	for text, c := range map[string]struct {
		t    api.Term
		want api.Errno
	}{"no raw term": {notRaw, api.ErrForm}, "a term that is too deep": {tooDeep, api.ErrDeep}, "a term that is too long": {ofSize(4001), api.ErrLong}, "a term without end": {endlessTerm(), term.Raw(endlessTerm())}} {
		if f, err := formula.Open(one, c.t); err != c.want || !same(f, api.Form{}) {
			t.Errorf("Open of one by %v = %v, %v", text, f, err)
		}
		if f, err := formula.Open(all(i, one), c.t); err != c.want || !same(f, api.Form{}) {
			t.Errorf("Open by %v = %v, %v", text, f, err)
		}
		if f, err := formula.Put(one, []api.Term{con("c"), c.t, notRaw}); err != c.want || !same(f, api.Form{}) {
			t.Errorf("Put of %v = %v, %v", text, f, err)
		}
	}
	if _, err := formula.Put(one, []api.Term{tooDeep, notRaw}); err != api.ErrDeep {
		t.Errorf("Put of two wrong terms = %v", err)
	}
	if _, err := formula.Put(one, []api.Term{notRaw, tooDeep}); err != api.ErrForm {
		t.Errorf("Put of two wrong terms = %v", err)
	}
}
