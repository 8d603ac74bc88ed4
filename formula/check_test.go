package formula_test

import (
	"slices"
	"testing"

	"peculium/api"
	"peculium/formula"
	"peculium/types"
)

// TestAdmitted gives rules of each kind each Use.
func TestAdmitted(t *testing.T) {
	p := inferred(t, declared)
	forms := []string{"{ one }", "p c", "a c", "l c", "( a c -o { one } )"}
	admitted := map[int][]int{api.UsLast: {api.HyBack, api.HyLast, api.HyRule}, api.UsOnce: {api.HyBack, api.HyFact}, api.UsMost: {api.HyBack}}
	for use, kinds := range admitted {
		for kind, text := range forms {
			p.Rules = []api.Rule{{Name: "r", Form: form(text), Use: use}}
			want, blamed := api.OK, []int(nil)
			if !slices.Contains(kinds, kind) {
				want, blamed = api.ErrClause, []int{0}
			}
			rules, queries, err := formula.Blames(p)
			if got := formula.Check(p); got != want || !same(rules, blamed) || len(queries) > 0 || err != api.OK {
				t.Errorf("Check of %v with the Use %v = %v, Blames = %v, %v, %v", text, use, got, rules, queries, err)
			}
		}
	}
}

func TestBlames(t *testing.T) {
	text := declared + "rule r: p c. rule s: {one}. once o: a c. once n: l c. most m: a c -o {one}. query u: p X. query v: {a c} * one. query w: l c -o one. query x: {a X}."
	p := inferred(t, text)
	rules, queries, err := formula.Blames(p)
	if !same(rules, []int{1, 3, 4}) || !same(queries, []int{1, 2}) || err != api.OK {
		t.Errorf("Blames = %v, %v, %v", rules, queries, err)
	}
	if err := formula.Check(p); err != api.ErrClause {
		t.Errorf("Check = %v", err)
	}
	all := p.Rules
	p.Rules = []api.Rule{all[0], all[2]}
	if err := formula.Check(p); err != api.ErrGoal {
		t.Errorf("Check without the rules = %v", err)
	}
	p.Queries = []api.Query{p.Queries[0], p.Queries[3]}
	rules, queries, err = formula.Blames(p)
	if got := formula.Check(p); got != api.OK || len(rules) > 0 || len(queries) > 0 || err != api.OK {
		t.Errorf("Check = %v, Blames = %v, %v, %v", got, rules, queries, err)
	}
	if rules, queries, err := formula.Blames(api.Program{}); len(rules) > 0 || len(queries) > 0 || err != api.OK || formula.Check(api.Program{}) != api.OK {
		t.Errorf("Blames of no program = %v, %v, %v", rules, queries, err)
	}
}

// wrongPrograms have errors of types.Check, ahead of rules that are not admitted.
func wrongPrograms(t *testing.T) map[api.Errno]api.Program {
	p := inferred(t, declared+"rule r: {one}. query q: {one} * one.")
	wrong, long, deep := copied(p), copied(p), copied(p)
	wrong.Types[0] = "1"
	long.Types = make([]string, 41)
	deep.Rules[0].Form = banged(100, one)
	return map[api.Errno]api.Program{api.ErrProgram: wrong, api.ErrLong: long, api.ErrDeep: deep}
}

// TestWrongPrograms: the error of types.Check is ahead of all others.
func TestWrongPrograms(t *testing.T) {
	for want, p := range wrongPrograms(t) {
		rules, queries, blames := formula.Blames(p)
		for call, got := range map[string]api.Errno{
			"types.Check": types.Check(p), "Check": formula.Check(p), "Blames": blames, "Query": formula.Query(p, api.Query{}),
			"Clause": formula.Clause(p, make([]api.Type, 61), banged(100, wide(5000))), "Goal": formula.Goal(p, api.Scope{Bound: []api.Type{i}}, of(0)),
		} {
			if got != want {
				t.Errorf("%v = %v, want %v", call, got, want)
			}
		}
		if rules != nil || queries != nil {
			t.Errorf("Blames = %v, %v with an error", rules, queries)
		}
	}
}

func TestQuery(t *testing.T) {
	sound := inferred(t, declared+"rule r: p c. query q: p X.")
	query := func(f string, vars ...api.Named) api.Query { return api.Query{Name: "q", Vars: vars, Form: form(f)} }
	x := api.Named{Name: "X", Type: i}
	many := api.Query{Name: "q", Form: form("p V0")}
	for n := range 9 {
		many.Vars = append(many.Vars, api.Named{Name: "X" + name(n), Type: i})
	}
	for text, c := range map[string]struct {
		q    api.Query
		want api.Errno
	}{
		"one with a taken name":         {query("p V0", x), api.OK},
		"a monadic one":                 {query("{ a V0 }", x), api.OK},
		"one with eight variables":      {api.Query{Name: "q", Form: form("p V0"), Vars: many.Vars[:8]}, api.OK},
		"one with nine variables":       {many, api.ErrLong},
		"one without a name":            {api.Query{Form: one}, api.ErrProgram},
		"no formula":                    {api.Query{Name: "q"}, api.ErrProgram},
		"a variable that is not there":  {query("p V1", x), api.ErrProgram},
		"a parameter":                   {query("p P0", x), api.ErrProgram},
		"two variables with one name":   {query("p V1", x, x), api.ErrProgram},
		"a type that is not there":      {query("one", api.Named{Name: "X", Type: base("u")}), api.ErrProgram},
		"one that breaks pattern rules": {query("p ( V0 c )", api.Named{Name: "X", Type: ii}), api.ErrProgram},
		"one that is too deep":          {api.Query{Name: "q", Form: banged(100, one)}, api.ErrDeep},
		"one that is too long":          {api.Query{Name: "q", Form: wide(4001)}, api.ErrLong},
		"one without end":               {api.Query{Name: "q", Form: endless()["of FoBang"]}, api.ErrLong},
		"a monad in a tensor":           {query("( p V0 * { one } )", x), api.ErrGoal},
		"a variable that is introduced": {query("( a V0 -o { a V0 } )", x), api.ErrGoal},
		"no goal, and not well-typed":   {query("( p d * { one } )"), api.ErrProgram},
	} {
		if got := formula.Query(sound, c.q); got != c.want {
			t.Errorf("Query of %v = %v, want %v", text, got, c.want)
		}
	}
	unsound := copied(sound)
	unsound.Rules[0].Form = form("{ one }")
	if err := formula.Query(unsound, many); err != api.ErrClause {
		t.Errorf("Query with a rule that is none = %v", err)
	}
	unsound = copied(sound)
	unsound.Queries[0].Form = form("( p V0 * { one } )")
	if err := formula.Query(unsound, many); err != api.ErrGoal {
		t.Errorf("Query with a query that is none = %v", err)
	}
	before := copied(sound)
	if formula.Query(sound, query("one")); !same(before, sound) {
		t.Errorf("Query changes the program")
	}
}

// judged is a formula, with types of variables and parameters, and what Clause and Goal say of it (-1: not asked).
type judged struct {
	text         string
	vars, pars   []api.Type
	clause, goal api.Errno
}

// TestTyped has formulas that are well-typed, or not, and which keep the pattern rule on one side, on both or on none.
func TestTyped(t *testing.T) {
	p := inferred(t, declared)
	types := func(l ...api.Type) []api.Type { return l }
	const ok, bad, clause, goal = api.OK, api.ErrForm, api.ErrClause, api.ErrGoal
	for _, c := range []judged{
		// The chapter's examples.
		{`h ( \ . V0 B0 )`, types(ii), nil, bad, ok}, {"p ( V0 c )", types(ii), nil, bad, bad}, {"all : i . p ( f B0 )", nil, nil, ok, ok}, {"{ one }", nil, nil, clause, ok},
		// Atoms and types.
		{"p c", nil, nil, ok, ok}, {"p d", nil, nil, bad, bad}, {"p", nil, nil, bad, bad}, {"p c c", nil, nil, bad, bad}, {"z", nil, nil, ok, ok}, {"z c", nil, nil, bad, bad}, {"none", nil, nil, bad, bad}, {"r c d", nil, nil, ok, ok}, {"r d c", nil, nil, bad, bad},
		{"h f", nil, nil, bad, bad}, {`h ( \ . f B0 )`, nil, nil, ok, ok}, {`h ( \ . c )`, nil, nil, ok, ok}, {"p f", nil, nil, bad, bad}, {"p nope", nil, nil, bad, bad}, {`k ( \ . \ . g B1 B0 )`, nil, nil, ok, ok}, {`k ( \ . \ . g B0 B1 )`, nil, nil, bad, bad},
		{"all : u . z", nil, nil, bad, bad}, {"ex : ( u -> i ) . z", nil, nil, bad, bad}, {"( all : u . one -o z )", nil, nil, bad, bad}, {"( one * all : o . p B0 )", nil, nil, bad, bad}, {"all : i . all : o . ( p B1 & r B1 B0 )", nil, nil, ok, ok}, {"all : i . all : o . p B0", nil, nil, bad, bad},
		{"p B0", nil, nil, bad, bad}, {"all : i . ( p B0 * p B1 )", nil, nil, bad, bad}, {"( all : i . p B0 & p B0 )", nil, nil, bad, bad}, {`h ( \ . B1 )`, nil, nil, bad, bad},
		// Parameters and variables.
		{"p P0", nil, types(i), ok, ok}, {"p P0", nil, types(o), bad, bad}, {"p P1", nil, types(i), bad, bad}, {"r P1 P0", nil, types(o, i), ok, ok}, {"p ( P0 c )", nil, types(ii), ok, ok}, {`p ( P0 ( \ . B0 ) )`, nil, types(higher), ok, ok}, {"p P0", nil, types(ii), bad, bad}, {"p P0", nil, nil, bad, bad},
		{"p V0", types(i), nil, bad, ok}, {"p V1", types(i), nil, bad, bad}, {"p V1", types(o, i), nil, bad, ok}, {"p V0", types(o, i), nil, bad, bad}, {"p V0", nil, nil, bad, bad}, {"p V0", nil, types(i), bad, bad},
		// The pattern rule for variables: Args are fixed, all different, parameters or bound.
		{"p V0", types(higher), nil, bad, bad}, {`p ( V0 ( \ . B0 ) )`, types(higher), nil, bad, bad}, {"one", types(higher), types(higher), clause, ok}, {"p V1", types(higher, i), nil, bad, ok},
		{"p ( V0 P0 )", types(ii), types(i), bad, ok}, {"p ( V0 P0 )", types(ii), types(o), bad, bad}, {"p ( V0 P0 P1 )", types(ioi), types(i, o), bad, ok}, {"p ( V0 P0 P0 )", types(fn(i, i, i)), types(i), bad, bad}, {"p ( V0 P1 P0 )", types(fn(i, i, i)), types(i, i), bad, ok}, {"p ( V0 ( P0 c ) )", types(ii), types(ii), bad, bad}, {"p ( V0 V1 )", types(ii, i), nil, bad, bad},
		{"all : i . p ( V0 B0 )", types(ii), nil, bad, ok}, {"ex : i . p ( V0 B0 )", types(ii), nil, bad, bad}, {"all : i . all : i . p ( V0 B0 B1 )", types(fn(i, i, i)), nil, bad, ok}, {"all : i . p ( V0 B0 B0 )", types(fn(i, i, i)), nil, bad, bad}, {"all : i . p ( V0 B0 P0 )", types(fn(i, i, i)), types(i), bad, ok},
		{"( all : i . p ( V0 B0 ) -o z )", types(ii), nil, bad, bad}, {"( ( ex : i . p ( V0 B0 ) -o z ) -o z )", types(ii), nil, bad, bad}, {"( all : i . ( p B0 -o z ) => all : i . ( p B0 => p ( V0 B0 ) ) )", types(ii), nil, bad, ok}, {`h ( \ . V0 B0 B0 )`, types(fn(i, i, i)), nil, bad, bad}, {`all : i . h ( \ . V0 B0 B1 )`, types(fn(i, i, i)), nil, bad, ok},
		{`all : ( i -> i ) . p ( V0 ( B0 c ) )`, types(ii), nil, bad, bad}, {`all : ( i -> i ) . h ( \ . V0 ( B1 B0 ) )`, types(ii), nil, bad, bad}, {`h ( \ . f ( lam ( \ . V0 B1 B0 ) ) )`, types(fn(i, i, i)), nil, bad, ok}, {`h ( \ . lam ( \ . V0 B1 c ) )`, types(fn(i, i, i)), nil, bad, bad},
		{"( p ( V0 P0 ) -o z )", types(ii), types(i), bad, ok},
		// The pattern rule for quantifiers: what is chosen on the one side is fixed on the other one.
		{"all : ( i -> i ) . p ( B0 c )", nil, nil, bad, ok}, {`all : ( i -> i ) . h ( \ . B1 B0 )`, nil, nil, ok, ok}, {"( ex : ( i -> i ) . p ( B0 c ) -o z )", nil, nil, bad, goal}, {"( all : ( i -> i ) . p ( B0 c ) -o z )", nil, nil, ok, bad}, {"( all : ( i -> i ) . p ( B0 c ) => z )", nil, nil, ok, bad},
		{"ex : ( i -> i ) . p ( B0 c )", nil, nil, clause, bad}, {"{ ex : ( i -> i ) . b ( \\ . B1 B0 ) }", nil, nil, clause, ok}, {"{ ex : ( i -> i ) . a ( B0 c ) }", nil, nil, clause, bad}, {"( e -o { ex : ( i -> i ) . a ( B0 c ) } )", nil, nil, ok, bad}, {"( e -o { all : ( i -> i ) . a ( B0 c ) } )", nil, nil, bad, goal},
		{"all : ( ( i -> i ) -> i ) . z", nil, nil, bad, ok}, {"ex : ( ( i -> i ) -> i ) . z", nil, nil, clause, bad}, {"( ex : ( ( i -> i ) -> i ) . z -o z )", nil, nil, bad, goal}, {"( all : ( ( i -> i ) -> i ) . z -o z )", nil, nil, ok, bad}, {`( all : ( ( i -> i ) -> i ) . p ( B0 ( \ . B0 ) ) -o z )`, nil, nil, ok, bad},
		{"all : ( i -> i ) . all : i . p ( B1 B0 )", nil, nil, bad, ok}, {"( all : i . ex : ( i -> i ) . p ( B0 B1 ) -o z )", nil, nil, bad, goal}, {"( ex : ( i -> i ) . all : i . p ( B1 B0 ) -o z )", nil, nil, ok, goal}, {"( all : i . ex : ( i -> i ) . p ( B0 B1 ) => z )", nil, nil, bad, goal},
		{"ex : ( i -> i ) . all : i . p ( B1 B0 )", nil, nil, clause, ok}, {"all : i . ex : ( i -> i ) . p ( B0 B1 )", nil, nil, clause, bad}, {`ex : ( i -> i ) . h ( \ . B1 B0 )`, nil, nil, clause, ok}, {`ex : ( i -> i ) . ex : i . p ( B1 B0 )`, nil, nil, clause, bad}, {`ex : ( i -> ( i -> i ) ) . all : i . p ( B1 B0 B0 )`, nil, nil, clause, bad}, {`ex : ( i -> ( i -> i ) ) . all : i . all : i . p ( B2 B0 B1 )`, nil, nil, clause, ok}, {`ex : ( i -> ( i -> i ) ) . all : i . h ( \ . B2 B0 B1 )`, nil, nil, clause, ok}, {`all : i . ex : ( i -> ( i -> i ) ) . h ( \ . B1 B0 B2 )`, nil, nil, clause, bad},
		{"all : ( i -> i ) . p ( B0 P0 )", nil, types(i), bad, ok}, {"ex : ( i -> i ) . p ( B0 P0 )", nil, types(i), clause, bad}, {"all : i . p ( P0 B0 )", nil, types(ii), ok, ok}, {`h ( \ . P0 ( P0 B0 ) )`, nil, types(ii), ok, ok}, {`ex : ( i -> i ) . h ( \ . B1 V0 )`, types(i), nil, bad, bad}, {`ex : i . h ( \ . V0 B1 )`, types(ii), nil, bad, bad},
		{`ex : ( i -> i ) . h ( \ . B1 ( f B0 ) )`, nil, nil, clause, bad}, {`ex : ( i -> i ) . p ( f ( lam ( \ . f ( B1 B0 ) ) ) )`, nil, nil, clause, ok}, {`ex : ( i -> i ) . p ( f ( lam ( \ . f ( B1 c ) ) ) )`, nil, nil, clause, bad}, {`ex : ( i -> i ) . h ( \ . lam ( \ . B2 B1 ) )`, nil, nil, clause, ok}, {`ex : ( i -> i ) . h ( \ . lam ( \ . B2 ( B2 B1 ) ) )`, nil, nil, clause, bad},
		// Goals and clauses.
		{"( a c -o { a c } )", nil, nil, ok, ok}, {"all : i . ( a B0 -o { a B0 } )", nil, nil, ok, ok}, {"( a V0 -o { a V0 } )", types(i), nil, bad, goal}, {"( p c * { one } )", nil, nil, clause, goal}, {"( a c -o a c )", nil, nil, clause, ok}, {"l c", nil, nil, ok, ok}, {"all : i . l B0", nil, nil, clause, ok},
	} {
		f := form(c.text)
		if got := formula.Clause(p, c.pars, f); got != c.clause {
			t.Errorf("Clause of %v with %v = %v, want %v", c.text, c.pars, got, c.clause)
		}
		if got := formula.Goal(p, api.Scope{Vars: c.vars, Pars: c.pars}, f); got != c.goal {
			t.Errorf("Goal of %v with %v, %v = %v, want %v", c.text, c.vars, c.pars, got, c.goal)
		}
	}
}

// TestVariableTypes: a chosen variable has at most MaxArgs arguments.
func TestVariableTypes(t *testing.T) {
	p := inferred(t, declared)
	eight := fn(i, i, i, i, i, i, i, i, i)
	for _, c := range []struct {
		ty   api.Type
		want api.Errno
	}{{eight, api.OK}, {fn(i, eight), api.ErrForm}} {
		if err := formula.Clause(p, nil, all(c.ty, atom("z"))); err != c.want {
			t.Errorf("Clause of FoAll = %v, want %v", err, c.want)
		}
		if err := formula.Goal(p, api.Scope{}, ex(c.ty, atom("z"))); err != c.want {
			t.Errorf("Goal of FoEx = %v, want %v", err, c.want)
		}
		if err := formula.Goal(p, api.Scope{Vars: []api.Type{c.ty}}, atom("z")); err != api.OK {
			t.Errorf("Goal without the variable = %v", err)
		}
		if err := formula.Goal(p, api.Scope{}, all(c.ty, atom("z"))); err != api.OK {
			t.Errorf("Goal of FoAll = %v", err)
		}
	}
	args := form(`all : i . all : i . all : i . all : i . all : i . all : i . all : i . all : i . p ( V0 B0 B1 B2 B3 B4 B5 B6 B7 )`)
	if err := formula.Goal(p, api.Scope{Vars: []api.Type{eight}}, args); err != api.OK {
		t.Errorf("Goal of a variable with eight Args = %v", err)
	}
}

// TestScopes tells of the limits of scopes.
func TestScopes(t *testing.T) {
	p := inferred(t, declared)
	many := func(n int, ty api.Type) []api.Type { return slices.Repeat([]api.Type{ty}, n) }
	with := func(l []api.Type, at int, ty api.Type) []api.Type {
		l[at] = ty
		return l
	}
	f, noType, notTyped := form("p P59"), base("u"), form("p d")
	for text, c := range map[string]struct {
		s    api.Scope
		f    api.Form
		want api.Errno
	}{
		"60 parameters":                    {api.Scope{Pars: many(60, i)}, f, api.OK},
		"61 parameters":                    {api.Scope{Pars: many(61, i)}, f, api.ErrArg},
		"a parameter of a foreign type":    {api.Scope{Pars: with(many(60, i), 30, noType)}, f, api.ErrArg},
		"a parameter without a type":       {api.Scope{Pars: with(many(60, i), 59, api.Type{})}, f, api.ErrArg},
		"a parameter of an endless type":   {api.Scope{Pars: with(many(60, i), 0, endlessType())}, f, api.ErrArg},
		"too many, and not well-typed":     {api.Scope{Pars: many(61, i)}, notTyped, api.ErrArg},
		"a foreign type, not well-typed":   {api.Scope{Pars: many(1, noType)}, notTyped, api.ErrArg},
		"neither well-typed nor a shape":   {api.Scope{}, form("( { one } * p d )"), api.ErrForm},
		"types no longer than needed":      {api.Scope{Pars: many(59, i)}, f, api.ErrForm},
		"a parameter of another base type": {api.Scope{Pars: with(many(60, i), 59, o)}, f, api.ErrForm},
	} {
		if got := formula.Clause(p, c.s.Pars, c.f); got != c.want {
			t.Errorf("Clause with %v = %v, want %v", text, got, c.want)
		}
		if got := formula.Goal(p, c.s, c.f); got != c.want {
			t.Errorf("Goal with %v = %v, want %v", text, got, c.want)
		}
	}
	f = form("( p V1999 * p V0 )")
	for text, c := range map[string]struct {
		s    api.Scope
		f    api.Form
		want api.Errno
	}{
		"2000 variables":                {api.Scope{Vars: many(2000, i)}, f, api.OK},
		"2001 variables":                {api.Scope{Vars: many(2001, i)}, f, api.ErrArg},
		"a variable of a foreign type":  {api.Scope{Vars: with(many(2000, i), 1000, noType)}, f, api.ErrArg},
		"a variable of no formed type":  {api.Scope{Vars: with(many(2000, i), 1000, base("->"))}, f, api.ErrArg},
		"a last variable of o":          {api.Scope{Vars: with(many(2000, i), 1999, o)}, f, api.ErrForm},
		"a first variable of o":         {api.Scope{Vars: with(many(2000, i), 0, o)}, f, api.ErrForm},
		"1999 variables":                {api.Scope{Vars: many(1999, i)}, f, api.ErrForm},
		"a bound variable":              {api.Scope{Vars: many(2000, i), Bound: many(1, i)}, f, api.ErrArg},
		"a bound variable, and no goal": {api.Scope{Bound: many(1, i)}, form("{ p d }"), api.ErrArg},
		"a bound variable in its place": {api.Scope{Bound: many(1, i)}, form("p B0"), api.ErrArg},
	} {
		if got := formula.Goal(p, c.s, c.f); got != c.want {
			t.Errorf("Goal with %v = %v, want %v", text, got, c.want)
		}
	}
	nothing := api.Program{Preds: []api.Pred{{Name: "z", Kind: api.PrBack}}}
	if err := formula.Clause(nothing, nil, atom("z")); err != api.OK {
		t.Errorf("Clause without types = %v", err)
	}
	if err := formula.Goal(nothing, api.Scope{}, all(i, atom("z"))); err != api.ErrForm {
		t.Errorf("Goal of a quantifier without types = %v", err)
	}
}

// TestCallersMemory: what a scope has room for is not written.
func TestCallersMemory(t *testing.T) {
	p := inferred(t, declared)
	room := make([]api.Type, 9)
	s := api.Scope{Vars: room[:0], Pars: room[:0], Bound: room[:0]}
	f := all(i, all(o, form("r B1 B0")))
	if err := formula.Goal(p, s, f); err != api.OK || !same(room, make([]api.Type, 9)) {
		t.Errorf("Goal = %v, and has written %v", err, room)
	}
	if err := formula.Clause(p, room[:0], f); err != api.OK || !same(room, make([]api.Type, 9)) {
		t.Errorf("Clause = %v, and has written %v", err, room)
	}
}

// TestTypedRandom holds Clause and Goal against layer 3, for formulas most of which are well-typed, and many of which keep the pattern rule.
func TestTypedRandom(t *testing.T) {
	t.Parallel()
	m := newMaker(t, 3, 4)
	counts := map[bool]int{}
	for n := range 12000 {
		left := n%2 == 0
		e := m.scope(3, 3)
		e.left = left
		word := pick(m, "any", "plain", "monadic")
		if left {
			e.vars = nil
			word = pick(m, "any", "clause", "rule")
		}
		f := m.form(word, e, 1+m.Intn(5))
		if m.Intn(8) == 0 {
			f = m.strange(f)
		}
		typed, want := refTyped(m.p, e.vars, e.pars, f, left), api.OK
		var got api.Errno
		if left {
			got = formula.Clause(m.p, e.pars, f)
			if !typed {
				want = api.ErrForm
			} else if refKind(m.p, f) == api.HyNone {
				want = api.ErrClause
			}
		} else {
			got = formula.Goal(m.p, api.Scope{Vars: e.vars, Pars: e.pars}, f)
			if !typed {
				want = api.ErrForm
			} else if !refGoal(m.p, f) {
				want = api.ErrGoal
			}
		}
		counts[typed]++
		if got != want {
			t.Fatalf("%v, on the left: %v, with %v, %v: %v, want %v", formula.Text(f), left, e.vars, e.pars, got, want)
		}
	}
	if counts[true] < 5000 || counts[false] < 2000 {
		t.Errorf("too few of a kind: %v", counts)
	}
}

// strange is a raw formula in which something of a term, or of a type, is another one.
func (m maker) strange(f api.Form) api.Form {
	f = copied(f)
	x := &f
	for len(x.L) > 0 {
		if x.Type.Name != "" && m.Intn(3) == 0 {
			x.Type = pick(m, i, o, ii, base("u"), higher)
			return f
		}
		x = &x.L[m.Intn(len(x.L))]
	}
	if len(x.Args) == 0 {
		x.Name = pick(m, "z", "p", "e", "none")
		return f
	}
	y := &x.Args[m.Intn(len(x.Args))]
	for len(y.Args) > 0 && m.Intn(2) > 0 {
		y = &y.Args[m.Intn(len(y.Args))]
	}
	*y = pick(m, con("c"), con("d"), con("f"), bound(0), bound(1), bound(2), par(0), par(1), par(3), vari(0), vari(1), vari(2), vari(5), lams(1, bound(0)), lams(1, con("c")))
	return f
}
