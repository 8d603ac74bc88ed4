package formula_test

import (
	"slices"
	"testing"

	"peculium/api"
	"peculium/formula"
)

func TestRule(t *testing.T) {
	p := inferred(t, declared)
	for _, c := range []struct {
		f    string
		vars []api.Type
		ante []string // with ! in front, if it lasts
		then string
	}{
		{"all : i . ( a B0 -o { a ( f B0 ) } )", []api.Type{i}, []string{"a V0"}, "a ( f V0 )"},
		{"( e -o { one } )", nil, []string{"e"}, "one"},
		{"( a ( f c ) -o { a ( f ( f c ) ) } )", nil, []string{"a ( f c )"}, "a ( f ( f c ) )"},
		{"all : i . ( a B0 -o ( l B0 => { ( a ( f B0 ) * ! l B0 ) } ) )", []api.Type{i}, []string{"a V0", "! l V0"}, "( a ( f V0 ) * ! l V0 )"},
		{"all : o . all : i . ( m B1 B0 => ( e -o ( a B0 -o { ex : i . ( a B0 * a B1 ) } ) ) )", []api.Type{o, i}, []string{"! m V0 V1", "e", "a V1"}, "ex : i . ( a B0 * a V1 )"},
		{`all : ( i -> i ) . ( b ( \ . B1 B0 ) -o { b ( \ . B1 ( B1 B0 ) ) } )`, []api.Type{ii}, []string{`b ( \ . V0 B0 )`}, `b ( \ . V0 ( V0 B0 ) )`},
		{`all : i . all : ( i -> ( o -> i ) ) . ( a ( B0 B1 d ) -o { ! n } )`, []api.Type{i, ioi}, []string{"a ( V1 V0 d )"}, "! n"},
		{`all : ( ( i -> i ) -> i ) . ( a ( B0 ( \ . B0 ) ) -o { one } )`, []api.Type{higher}, []string{`a ( V0 ( \ . B0 ) )`}, "one"},
		{"all : i . ( a P7 -o ( a B0 -o { a V9 } ) )", []api.Type{i}, []string{"a P7", "a V0"}, "a V9"},
		{"all : i . ( a B0 -o ( a B3 -o { a B1 } ) )", []api.Type{i}, []string{"a V0", "a B2"}, "a B0"},
	} {
		f := form(c.f)
		got, err := formula.Rule(p, f)
		want := api.Forward{Vars: c.vars, Then: form(c.then)}
		for _, text := range c.ante {
			x := form(text)
			isLast := x.Kind == api.FoBang
			if isLast {
				x = x.L[0]
			}
			want.Ante = append(want.Ante, api.Premise{Last: isLast, Fact: api.Fact{Name: x.Name, Args: x.Args}})
		}
		if err != api.OK || !same(got, want) {
			t.Errorf("Rule of %v = %v, %v", c.f, got, err)
		}
		ownMemory(t, "Rule", got, f)
	}
	for _, text := range []string{"p c", "a c", "l c", "one", "{ one }", "all : i . ( e -o { one } )", "( e -o { top } )", "( p c -o { one } )", "ex : i . ( a B0 -o { one } )"} {
		if got, err := formula.Rule(p, form(text)); err != api.ErrRule || !same(got, api.Forward{}) {
			t.Errorf("Rule of %v = %v, %v", text, got, err)
		}
	}
	if got, err := formula.Rule(api.Program{}, form("( e -o { one } )")); err != api.ErrRule || !same(got, api.Forward{}) {
		t.Errorf("Rule without predicates = %v, %v", got, err)
	}
}

// TestRuleErrors has rules that become too large when they are taken apart.
func TestRuleErrors(t *testing.T) {
	p := inferred(t, declared)
	nine := fn(i, i, i, i, i, i, i, i, i, i)
	left := func(levels int) api.Type { // Eta of it has twice as many levels
		ty := i
		for range levels - 1 {
			ty = fn(ty, i)
		}
		return ty
	}
	// For each type, from the outermost one on, a variable, and an antecedent with it; one has further Args.
	rule := func(x api.Term, types ...api.Type) api.Form {
		f := of(api.FoLolli, atom("a", x), of(api.FoMonad, one))
		for n := range types {
			f = of(api.FoLolli, atom("e", bound(n)), f)
		}
		for _, ty := range slices.Backward(types) {
			f = all(ty, f)
		}
		return f
	}
	deep := func(levels int, x api.Term) api.Term {
		for range levels - 1 {
			x = con("f", x)
		}
		return x
	}
	eight := func(x api.Term) api.Term { return con("f", x, x, x, x, x, x, x, x) }
	tree := func(x api.Term) api.Term { return con("f", eight(eight(eight(x))), eight(eight(eight(x)))) } // x 1024 times
	for text, c := range map[string]struct {
		f    api.Form
		want api.Errno
	}{
		"a type with nine arguments":         {rule(con("c"), nine), api.ErrLong},
		"a type with eight arguments":        {rule(con("c"), nine.Args[1]), api.OK},
		"a type of 60 levels":                {rule(con("c"), left(60)), api.ErrDeep},
		"a type of 40 levels":                {rule(con("c"), left(40)), api.OK},
		"a variable without its argument":    {rule(bound(0), ii), api.OK},
		"a variable with too many arguments": {rule(bound(0, bound(0), bound(0)), ii), api.OK},
		"1024 variables of i":                {rule(tree(bound(0)), i), api.OK},
		"1024 variables of i -> i":           {rule(tree(bound(0)), ii), api.OK},
		"1024 variables of ( i -> i ) -> i":  {rule(tree(bound(0)), higher), api.ErrLong},
		"a variable of i at the end":         {rule(deep(96, bound(0)), i), api.OK},
		"a variable of i -> i at the end":    {rule(deep(96, bound(0)), ii), api.ErrDeep},
		"one two levels above":               {rule(deep(94, bound(0)), ii), api.OK},
		"one with 2048 contractions":         {rule(tree(bound(0, lams(1, con("c")))), higher), api.ErrFuel},
		"the first one too deep":             {rule(deep(94, bound(1)), ii, nine), api.ErrDeep},
		"the first one too long":             {rule(deep(94, bound(0)), nine, ii), api.ErrLong},
	} {
		if err := formula.Raw(c.f); err != api.OK || formula.Kind(p, c.f) != api.HyRule {
			t.Errorf("%v is no forward rule: %v", text, err)
		}
		if got, err := formula.Rule(p, c.f); err != c.want || err != api.OK && !same(got, api.Forward{}) {
			t.Errorf("Rule of %v = %v, want %v", text, err, c.want)
		}
	}
}

func TestHeads(t *testing.T) {
	for text, want := range map[string][]string{
		"all : i . ( p B0 & ( a c -o q B0 ) )": {"p B0", "q B0"},
		"p c":                                  {"p c"}, "none": {"none"}, "a V0 P1": {"a V0 P1"}, "p ( f ( f c ) )": {"p ( f ( f c ) )"},
		"( ( p c & q c ) & ( z & p d ) )": {"p c", "q c", "z", "p d"},
		"( p c & p c )":                   {"p c", "p c"},
		"( p c -o q c )":                  {"q c"}, "( p c => ( q c -o z ) )": {"z"},
		"all : i . all : o . r B1 B0":                  {"r B1 B0"},
		"( all : i . p B0 & all : i . ( q B0 => z ) )": {"p B0", "z"},
		"one": nil, "top": nil, "( p c * q c )": nil, "( p c + q c )": nil, "! p c": nil, "{ p c }": nil, "ex : i . p B0": nil,
		"( ( one & p c ) & ( q c -o ( z * z ) ) )": {"p c"},
	} {
		f := form(text)
		var l []api.Form
		for _, x := range want {
			l = append(l, form(x))
		}
		got := formula.Heads(f)
		if !same(got, l) {
			t.Errorf("Heads of %v = %v", text, got)
		}
		ownMemory(t, "Heads", got, f)
	}
}

func TestCalls(t *testing.T) {
	for text, want := range map[string][2][]string{ // if it stands on the left, on the right
		"( p c -o ( q c => p c ) )":         {{"p", "q"}, {"p"}},
		"p c":                               {nil, {"p"}},
		"one":                               {nil, nil},
		"( ( p c -o q c ) -o z )":           {{"q"}, {"p", "z"}},
		"( ( ( p c => q c ) -o z ) => e )":  {{"p", "z"}, {"q", "e"}},
		"{ ( p c * ! ( q c + z ) ) }":       {nil, {"p", "q", "z"}},
		"( p c -o { ex : i . q B0 } )":      {{"p"}, {"q"}},
		"all : i . ( q B0 & ( z & p B0 ) )": {nil, {"q", "z", "p"}},
		"( z -o ( q c -o ( z -o p c ) ) )":  {{"z", "q"}, {"p"}},
		"( z * ( p c * z ) )":               {nil, {"z", "p"}},
		"( { none } -o top )":               {{"none"}, nil},
	} {
		f := form(text)
		for n, left := range []bool{true, false} {
			if got := formula.Calls(f, left); !same(got, want[n]) {
				t.Errorf("Calls of %v, on the left: %v = %v", text, left, got)
			}
		}
	}
}

func TestVarsPars(t *testing.T) {
	for text, want := range map[string][2][]int{
		"( p V3 P1 * all : i . ( q ( V1 V3 ( P4 B0 ) ) V3 -o { a V0 P1 P0 } ) )": {{3, 1, 0}, {1, 4, 0}},
		`h ( \ . V2 ( \ . P2 B1 V100000 ) )`:                                     {{2, 100000}, {2}},
		"one":                                                                    {nil, nil},
		"p B0 B1":                                                                {nil, nil},
	} {
		f := form(text)
		if vars, pars := formula.Vars(f), formula.Pars(f); !slices.Equal(vars, want[0]) || !slices.Equal(pars, want[1]) {
			t.Errorf("Vars, Pars of %v = %v, %v", text, vars, pars)
		}
	}
	m := newMaker(t, 6, 10)
	for range 5000 {
		f := m.raw(1+m.Intn(5), 0)
		if vars, pars := formula.Vars(f), formula.Pars(f); !slices.Equal(vars, refNumbers(f, api.TmVar)) || !slices.Equal(pars, refNumbers(f, api.TmPar)) {
			t.Fatalf("Vars, Pars of %v = %v, %v", formula.Text(f), vars, pars)
		}
	}
}
