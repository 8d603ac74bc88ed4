package unify_test

import (
	"slices"
	"testing"

	"peculium/api"
	"peculium/unify"
)

// P5.1: solutions, told by what Least says of the variables there were: parameters from 10 on stand for what is left open.
func TestUnify(t *testing.T) {
	for what, x := range map[string]struct {
		s          api.Store
		a, b, want string
	}{
		"constants":                          {store(), "c", "c", ""},
		"other constants":                    {store(), "c", "d", "none"},
		"parts":                              {store(), "f ( g c P3 )", "f ( g c P3 )", ""},
		"other parts":                        {store(), "f ( g c P3 )", "f ( g c P4 )", "none"},
		"an Arg more":                        {store(), "f c", "f c c", "none"},
		"no Args":                            {store(), "f", "f c", "none"},
		"lambdas":                            {store(), `\ . f B0`, `\ . f B0`, ""},
		"a lambda and none":                  {store(), `\ . c`, "c", "none"},
		"a lambda more":                      {store(), `\ . \ . c`, `\ . c`, "none"},
		"other bound variables":              {store(), `\ . \ . B0`, `\ . \ . B1`, "none"},
		"a bound variable and a parameter":   {store(), `\ . B0`, `\ . P0`, "none"},
		"heads with Args":                    {store(), `\ . B0 ( P1 c )`, `\ . B0 ( P1 c )`, ""},
		"a value":                            {store(open(0, "i")), "V0", "f c", "f c"},
		"a value that is there":              {store(known(0, "f c")), "V0", "f c", "f c"},
		"another value than what is there":   {store(known(0, "f c")), "V0", "f d", "none"},
		"a lambda":                           {store(open(0, "i")), "V0", `\ . c`, "none"},
		"a lambda within":                    {store(open(0, "i")), "V0", `f ( \ . B0 )`, `f ( \ . B0 )`},
		"a lambda of an Arg":                 {store(open(0, "i")), "f V0", `f ( \ . c )`, "none"},
		"two values":                         {store(open(0, "i")), "f V0 V0", "f c d", "none"},
		"one value twice":                    {store(open(0, "i"), open(0, "i")), "g V0 V0", "g V1 ( f c )", "f c, f c"},
		"by way of another one":              {store(open(0, "i"), open(0, "i")), "g V0 ( g V1 V1 )", "g V1 ( g c V0 )", "c, c"},
		"a parameter below the Level":        {store(open(4, "i")), "V0", "g P3 P0", "g P3 P0"},
		"a parameter at the Level":           {store(open(4, "i")), "V0", "g P0 P4", "none"},
		"a parameter behind the Level":       {store(open(4, "i")), "V0", "P5", "none"},
		"a parameter as an Arg":              {store(open(4, "i i")), "V0 P4", "g P3 P4", `\ . g P3 B0`},
		"another one than the Arg":           {store(open(4, "i i")), "V0 P4", "g P4 P5", "none"},
		"a parameter with Args":              {store(open(0, "i i")), "V0 P4", `P4 ( \ . P4 B0 )`, `\ . B0 ( \ . B1 B0 )`},
		"a bound variable with Args":         {store(open(0, "i i")), `\ . V0 B0`, `\ . B0 ( f B0 )`, `\ . B0 ( f B0 )`},
		"a bound variable that is no Arg":    {store(open(0, "i i")), `\ . \ . V0 B0`, `\ . \ . f B1`, "none"},
		"a bound variable of the value":      {store(open(0, "i i")), `\ . \ . V0 B1`, `\ . \ . f ( \ . g B2 B0 )`, `\ . f ( \ . g B1 B0 )`},
		"Args in another order":              {store(open(0, "i i i")), `\ . \ . V0 B0 B1`, `\ . \ . g B1 B0`, `\ . \ . g B0 B1`},
		"itself within":                      {store(open(0, "i")), "V0", "f V0", "none"},
		"itself within, applied":             {store(open(0, "i i")), `\ . \ . V0 B0`, `\ . \ . f ( V0 B1 )`, "none"},
		"itself by way of a value":           {store(open(0, "i"), known(0, "f V0")), "V0", "V1", "none"},
		"itself by way of values":            {store(open(0, "i"), known(0, "V0"), known(0, "g V1 c"), known(0, "V2")), "V0", "V3", "none"},
		"itself by way of what was found":    {store(open(0, "i"), open(0, "i")), "g V0 V1", "g ( f V1 ) ( f V0 )", "none"},
		"itself by way of itself":            {store(open(0, "i"), known(0, "V0")), "V0", "V1", "P10, P10"},
		"an Arg that it does not see":        {store(open(0, "i i"), known(0, `\ . f B0`)), `\ . \ . V0 B0`, `\ . \ . V1 B1`, "none"},
		"one that is not there in the value": {store(open(0, "i i"), known(0, `\ . f c`)), `\ . \ . V0 B0`, `\ . \ . V1 B1`, `\ . f c, \ . f c`},
		"the same variable":                  {store(open(0, "i i i")), `\ . \ . V0 B1 B0`, `\ . \ . V0 B1 B0`, `\ . \ . P10 B0 B1`},
		"with other Args":                    {store(open(0, "i i i")), `\ . \ . \ . V0 B2 B1`, `\ . \ . \ . V0 B2 B0`, `\ . \ . P10 B1`},
		"with other parameters":              {store(open(1, "i i i")), `\ . V0 B0 P1`, `\ . V0 B0 P2`, `\ . \ . P10 B1`},
		"with the other ones":                {store(open(0, "i i i i")), `\ . \ . \ . V0 B2 B1 B0`, `\ . \ . \ . V0 B1 B2 B0`, `\ . \ . \ . P10 B0`},
		"it has a value, and other Args":     {store(known(0, `\ . \ . g ( V1 B1 ) c`), open(0, "i i")), `\ . \ . V0 B1 B0`, `\ . \ . V0 B0 B1`, `\ . \ . g P10 c, \ . P10`},
		"an argument that is no one":         {store(known(0, `\ . f B0`)), `\ . \ . V0 B1`, `\ . \ . V0 B0`, "none"},
		"two variables":                      {store(open(0, "i i i"), open(0, "i i i")), `\ . \ . V0 B1 B0`, `\ . \ . V1 B0 B1`, `\ . \ . P10 B0 B1, \ . \ . P10 B1 B0`},
		"with one Arg in common":             {store(open(0, "i i i"), open(0, "i i i")), `\ . \ . \ . V0 B2 B1`, `\ . \ . \ . V1 B1 B0`, `\ . \ . P10 B0, \ . \ . P10 B1`},
		"with none in common":                {store(open(0, "i i"), open(0, "i i")), `\ . \ . V0 B1`, `\ . \ . V1 B0`, `\ . P10, \ . P10`},
		"within a term":                      {store(open(0, "i i"), open(0, "i i i")), `\ . \ . V0 B1`, `\ . \ . f ( V1 B0 B1 )`, `\ . f ( P10 B0 ), \ . \ . P10 B0`},
		"below a lambda":                     {store(open(0, "i i"), open(0, "i i i")), `\ . \ . V0 B1`, `\ . \ . f ( \ . V1 B0 B1 )`, `\ . f ( \ . P10 B0 ), \ . \ . P10 B1`},
		"twice within a term":                {store(open(0, "i i"), open(0, "i i i")), `\ . \ . V0 B1`, `\ . \ . g ( V1 B0 B1 ) ( V1 B1 B0 )`, `\ . g P10 P10, \ . \ . P10`},
		"a value sees it":                    {store(open(0, "i i"), known(0, `\ . \ . g B0 ( V2 B1 B0 )`), open(0, "i i i")), `\ . \ . V0 B1`, `\ . \ . V1 B0 B1`, `\ . g B0 ( P10 B0 ), \ . \ . g B0 ( P10 B0 ), \ . \ . P10 B0`},
		"lower Levels":                       {store(open(1, "i"), open(3, "i")), "f V0 P1", "f V1 V1", "none"},
		"lower Levels that suffice":          {store(open(1, "i"), open(3, "i")), "f V0 P0", "f V1 V1", "P0, P0"},
		"lower Levels within":                {store(open(1, "i"), open(3, "i")), "g V0 P1", "g ( f V1 ) V1", "none"},
		"lower Levels within a value":        {store(open(1, "i"), known(3, "f V2"), open(2, "i")), "g V0 P1", "g V1 V2", "none"},
		"a parameter within a value":         {store(open(1, "i"), known(3, "f P1")), "V0", "V1", "none"},
		"one that is low enough":             {store(open(1, "i"), known(3, "f P0")), "V0", "V1", "f P0, f P0"},
		"a parameter becomes an argument":    {store(open(0, "i i"), open(2, "i")), "V0 P0", "f V1", `\ . f ( P10 B0 ), P10 P0`},
		"so does it behind another one":      {store(open(0, "i i"), open(2, "i i")), `\ . V0 P0`, `\ . f ( V1 B0 )`, `\ . f ( P10 B0 ), \ . P10 P0`},
		"so does it from the other side":     {store(open(2, "i"), open(0, "i i")), "V0", "V1 P1", `P10 P1, \ . P10 B0`},
		"so do some":                         {store(open(0, "i i i i"), open(2, "i")), "V0 P3 P1 P0", "V1", `\ . \ . \ . P10 B0 B1, P10 P0 P1`},
		"so do those of both":                {store(open(1, "i i i i"), open(2, "i i i")), `V0 P1 P2 P3`, `V1 P3 P4`, `\ . \ . \ . P10 B0 B2, \ . \ . P10 B1 P1`},
		"so does it within a value":          {store(open(0, "i i"), known(2, "f P0 V2"), open(2, "i")), "V0 P0", "g V1", `\ . g ( f B0 ( P10 B0 ) ), f P0 ( P10 P0 ), P10 P0`},
		"not so within a value":              {store(open(0, "i i"), known(2, "f P1 V2"), open(2, "i")), "V0 P0", "g V1", "none"},
		"so within a value of a lower Level": {store(open(1, "i i"), known(4, "f P0 V2 V3"), open(1, "i"), open(3, "i")), "V0 P1", "g V1", `\ . g ( f P0 P10 ( P11 B0 ) ), f P0 P10 ( P11 P1 ), P10, P11 P1`},
		"values twice":                       {store(open(0, "i"), known(2, "f V2"), open(2, "i"), open(0, "i i")), "g V0 ( V3 P0 )", "g ( f V1 ) ( f V1 )", `f ( f P10 ), f P10, P10, \ . f ( f P10 )`},
	} {
		for _, y := range [][2]string{{x.a, x.b}, {x.b, x.a}} {
			r, is := solved(t, x.s, read(y[0]), read(y[1]))
			got := "none"
			if is {
				l, _, e := unify.Least(r, 10, etas(x.s, len(x.s.Vals)))
				if e != api.OK {
					t.Fatalf("%v: Least: %v", what, e)
				}
				got = texts(l)
			}
			if got != x.want {
				t.Errorf("%v: Unify(%v, %v): %v; expected %v", what, y[0], y[1], got, x.want)
			}
		}
	}
}

// U4: variables are made only where they are needed, and of two variables the later one gets the value if either can.
func TestNewVariables(t *testing.T) {
	for what, x := range map[string]struct {
		s    api.Store
		a, b string
		news int
		is   []bool
	}{
		"a value":                     {store(open(0, "i")), "V0", "c", 0, []bool{true}},
		"two variables":               {store(open(0, "i"), open(0, "i")), "V0", "V1", 0, []bool{false, true}},
		"of two Levels":               {store(open(2, "i"), open(1, "i")), "V0", "V1", 0, []bool{true, false}},
		"of the other Levels":         {store(open(1, "i"), open(2, "i")), "V0", "V1", 0, []bool{false, true}},
		"with an Arg that goes":       {store(open(0, "i i i"), open(0, "i i")), `\ . \ . V1 B1`, `\ . \ . V0 B0 B1`, 0, []bool{true, false}},
		"with the other one":          {store(open(0, "i i"), open(0, "i i i")), `\ . \ . V0 B1`, `\ . \ . V1 B0 B1`, 0, []bool{false, true}},
		"with an Arg of both":         {store(open(0, "i i"), open(0, "i i")), `\ . \ . V0 B1`, `\ . \ . V1 B0`, 1, []bool{true, true}},
		"with other Args":             {store(open(0, "i i")), `\ . \ . V0 B1`, `\ . \ . V0 B0`, 1, []bool{true}},
		"within a term":               {store(open(1, "i"), open(1, "i i")), `\ . V0`, `\ . f ( V1 B0 )`, 1, []bool{true, true}},
		"a lower Level within a term": {store(open(1, "i"), open(2, "i"), open(3, "i i")), "V0", "f V1 ( V2 P3 )", 1, []bool{true, false, true}},
	} {
		r, is := solved(t, x.s, read(x.a), read(x.b))
		if !is || len(r.Vals) != len(x.s.Vals)+x.news {
			t.Errorf("%v: %v, %v", what, is, r)
			continue
		}
		for v, want := range x.is {
			if r.Vals[v].Is != want {
				t.Errorf("%v: the variable %v: %v", what, v, r.Vals[v])
			}
		}
	}
}

// P5.1: what is larger than allowed.
func TestUnifyErrors(t *testing.T) {
	many := func(n int) api.Store {
		return store(append(slices.Repeat([]api.Val{open(0, "i")}, n-1), open(0, "i i i"))...)
	}
	swap := func(n int) (api.Term, api.Term) {
		x := api.Term{Kind: api.TmVar, N: n - 1, Args: reads("P0", "P1")}
		y := api.Term{Kind: api.TmVar, N: n - 1, Args: reads("P1", "P0")}
		return x, y
	}
	a, b := swap(2000)
	if s, is, e := unify.Unify(many(2000), a, b); e != api.ErrLong || is || len(s.Vals) > 0 {
		t.Errorf("the variable 2000: %v, %v", is, e)
	}
	a, b = swap(1999)
	if s, is, e := unify.Unify(many(1999), a, b); e != api.OK || !is || len(s.Vals) != 2000 {
		t.Errorf("the variable 1999: %v, %v", is, e)
	}
	// Variables that are found and get a value in the same call need no place.
	three := store(append(many(1998).Vals, open(0, "i"))...)
	a, b = swap(1998)
	if s, is, e := unify.Unify(three, con("g", a, a), con("g", b, con("c"))); e != api.OK || !is || len(s.Vals) != 1999 {
		t.Errorf("a new variable with a value: %v, %v", is, e)
	}
	for n, want := range map[int]api.Errno{5: api.OK, 6: api.OK, 7: api.ErrLong, 8: api.ErrLong} {
		s := store(open(0, "i i i"), api.Val{Level: 2, Type: manyArgs(n)})
		x := eta(s, 1)
		r, is, e := unify.Unify(s, read("V0 P0 P1"), con("f", x))
		if e != want || is != (e == api.OK) {
			t.Errorf("an argument more than %v and one: %v, %v", n, is, e)
		}
		if is {
			checkSolution(t, s, r, read("V0 P0 P1"), con("f", x))
		}
		// A new variable can lose arguments in the same call.
		first, last := bodyOf(x), bodyOf(x)
		last.Args = slices.Clone(last.Args)
		last.Args[0], last.Args[1] = last.Args[1], last.Args[0]
		_, is = solved(t, s, con("g", read("V0 P0 P1"), lams(n, first)), con("g", con("f", x), lams(n, last)))
		if !is {
			t.Errorf("%v arguments and two, of which two go again: nothing", n)
		}
	}
}

func bodyOf(t api.Term) api.Term {
	for t.Kind == api.TmLam {
		t = t.Args[0]
	}
	return t
}

// P5.1: parts and levels of what is found.
func TestUnifyLarge(t *testing.T) {
	s := values(4000)
	s.Vals = append(s.Vals, open(0, "i"))
	for what, x := range map[string]struct {
		s    api.Store
		a, b api.Term
		is   bool
		e    api.Errno
	}{
		"no place for a value":              {s, read("V0"), con("c"), false, api.ErrLong},
		"no place needed":                   {s, read("V0"), read("V0"), true, api.OK},
		"what differs needs none":           {s, read("V1"), con("c"), false, api.OK},
		"a value with 4000 parts":           {store(open(0, "i"), open(0, "i")), read("V0"), ofSize(4000), true, api.OK},
		"two with 4001":                     {store(open(0, "i"), open(0, "i")), read("f V0 V1"), con("f", ofSize(1999), ofSize(2000)), true, api.OK},
		"two with 4002":                     {store(open(0, "i"), is(ofSize(2001))), read("V0"), ofSize(2000), false, api.ErrLong},
		"one by another one":                {store(open(0, "i"), is(ofSize(3999))), read("V0"), read("V1"), true, api.OK},
		"100 levels":                        {store(open(0, "i")), read("V0"), ofDepth(100), true, api.OK},
		"200 levels by way of another one":  {store(open(0, "i"), is(ofDepth(100))), read("V0"), grown(99, read("V1")), true, api.OK},
		"101 levels as one":                 {store(open(0, "i"), deeper(1, 50, "V2"), open(1, "i")), read("V0"), grown(50, read("V1")), false, api.ErrDeep},
		"100 levels as one":                 {store(open(0, "i"), deeper(1, 50, "V2"), open(1, "i")), read("V0"), grown(49, read("V1")), true, api.OK},
		"values that double":                {twoChains(500), read("V500"), read("V1001"), true, api.OK},
		"values that double, apart":         {ending(twoChains(500), "c", "d"), read("V500"), read("V1001"), false, api.OK},
		"values that double, and something": {twoChains(500), con("g", read("V500"), con("c")), con("g", read("V1001"), con("d")), false, api.OK},
		"a value within one that doubles":   {chain(1000), read("V0"), read("V1000"), false, api.OK},
		"one value of many":                 {aliases(1999), read("V1999"), con("c"), true, api.OK},
		"one value within many":             {tower(1999, 1), read("V1999"), read("V1998"), false, api.OK},
		"lower Levels of many values":       {lowered(600), read("V601"), con("f", read("V600")), false, api.ErrDeep},
		"many levels":                       {tower(1999, 1), read("V1999"), read("s ( s V1997 )"), true, api.OK},
	} {
		r, is, e := unify.Unify(x.s, x.a, x.b)
		if is != x.is || e != x.e || unify.Check(r) != api.OK {
			t.Errorf("%v: %v, %v", what, is, e)
		}
		if e != api.OK && len(r.Vals) > 0 || e == api.OK && !is && !sameStore(r, x.s) {
			t.Errorf("%v: %v, %v with the store %v", what, is, e, r)
		}
		back, is, e := unify.Unify(x.s, x.b, x.a)
		if is != x.is || e != x.e || unify.Check(back) != api.OK {
			t.Errorf("%v: %v, %v the other way", what, is, e)
		}
	}
}

// P5.1: what would take too long ends.
func TestUnifyEnds(t *testing.T) {
	s := mixing(70)
	r, is, e := unify.Unify(s, eta(s, 70), eta(s, 141))
	if e != api.ErrLong || is || len(r.Vals) > 0 {
		t.Errorf("values that double, in all orders: %v, %v", is, e)
	}
	s = mixing(6)
	if _, is = solved(t, s, eta(s, 6), eta(s, 13)); !is {
		t.Error("values that double a few times, in all orders: nothing")
	}
}

// mixing is a store like two chains, in which variables are applied to their arguments in other orders.
func mixing(n int) api.Store {
	var s api.Store
	for range 2 {
		first := len(s.Vals)
		s.Vals = append(s.Vals, api.Val{Type: manyArgs(8)})
		for k := first; k < first+n; k++ {
			x := bodyOf(eta(s, k))
			turned, swapped := slices.Clone(x.Args), slices.Clone(x.Args)
			turned = append(turned[1:], turned[0])
			swapped[0], swapped[1] = swapped[1], swapped[0]
			a, b := x, x
			a.Args, b.Args = turned, swapped
			s.Vals = append(s.Vals, api.Val{Type: manyArgs(8), Is: true, T: lams(8, con("g", a, b))})
		}
	}
	return s
}

// grown is a term below so many levels.
func grown(levels int, t api.Term) api.Term {
	for range levels {
		t = con("s", t)
	}
	return t
}

// deeper is a variable of a Level with a value that has a term below so many levels.
func deeper(level, levels int, text string) api.Val {
	return api.Val{Level: level, Type: vt("i"), Is: true, T: grown(levels, read(text))}
}

// lowered is a store like tower, of the Level 1, with a variable of the Level 0 behind it.
func lowered(n int) api.Store {
	s := tower(n, 1)
	for v := range s.Vals {
		s.Vals[v].Level = 1
	}
	s.Vals = append(s.Vals, open(0, "i"))
	return s
}

// twoChains are two stores like chain, with n values each, one behind the other.
func twoChains(n int) api.Store {
	s := chain(n)
	for _, v := range chain(n).Vals {
		v.T = moved(v.T, numbers(n+1, 2*n+2))
		s.Vals = append(s.Vals, v)
	}
	return s
}

func numbers(from, to int) []int {
	var list []int
	for n := from; n < to; n++ {
		list = append(list, n)
	}
	return list
}

// ending is such a store in which the first variables of both have values.
func ending(s api.Store, a, b string) api.Store {
	s.Vals[0], s.Vals[len(s.Vals)/2] = known(0, a), known(0, b)
	return s
}

// P5.1: where the values are not large there is no error, also if there are many parts as long as variables are applied to many arguments.
func TestUnifyManyArgs(t *testing.T) {
	wide := func(n int) api.Term { return spread(n, bodyOf(eta(store(api.Val{Type: manyArgs(8)}), 0))) }
	s := store(
		api.Val{Type: manyArgs(8), Is: true, T: lams(8, con("c"))},
		api.Val{Type: manyArgs(8), Is: true, T: lams(8, wide(400))},
		api.Val{Type: manyArgs(8)}, api.Val{Type: manyArgs(8)},
	)
	a, b := eta(s, 2), lams(8, wide(50))
	if e, f := unify.Fits(s, a), unify.Fits(s, b); e != api.OK || f != api.OK {
		t.Fatal(e, f)
	}
	r, is, e := unify.Unify(s, a, b)
	if !is || e != api.OK || unify.Check(r) != api.OK || !extendsIt(s, r) || !solvesIt(r, a, b) {
		t.Errorf("Unify: %v, %v, %v", is, e, unify.Check(r))
	}
	for v := range s.Vals {
		if x, e := unify.Value(r, eta(r, v)); e != api.OK || !sameTerm(x, r.Vals[v].T) && v != 3 {
			t.Errorf("Value of %v: %v", v, e)
		}
	}
}

// spread is a term of constants in which a term stands n times.
func spread(n int, t api.Term) api.Term {
	if n == 1 {
		return t
	}
	out := con("f")
	for left := min(n, 8); left > 0; left-- {
		part := (n + left - 1) / left
		out.Args = append(out.Args, spread(part, t))
		n -= part
	}
	return out
}

// grouped is a term of constants in which some terms stand, one behind the other.
func grouped(list []api.Term) api.Term {
	if len(list) <= 8 {
		return con("h", list...)
	}
	return con("h", append(list[:7:7], grouped(list[7:]))...)
}

// P5.2, U4: solutions with a few hundred parts are found without an error.
func TestUnifyMiddle(t *testing.T) {
	count, most := 0, 0
	testAll(t, 21, 1500, func(t *testing.T, m maker) {
		found := map[int]api.Term{}
		s := m.valued(m.store(24))
		var parts [2][]api.Term
		for range 1 + m.Intn(150) {
			x := m.term(api.Store{}, pars, around, 7)
			for k := range parts {
				parts[k] = append(parts[k], m.disguise(s, x, found, pars, around, 3))
			}
		}
		s = m.given(s, found)
		a, b := lams(2, grouped(parts[0])), lams(2, grouped(parts[1]))
		by := with(s, found)
		if errorOf(by) != api.OK || !solvesIt(by, a, b) {
			t.Fatalf("no solution: %v", by)
		}
		r, is := solved(t, s, a, b)
		if !is || !isLess(t, r, by, len(s.Vals)) {
			t.Fatalf("Unify(%v, %v, %v) = %v, %v; expected %v", s, a, b, r, is, by)
		}
		n, _ := partsOf(a)
		most = max(most, n)
		for _, v := range r.Vals {
			n, _ := partsOf(v.T)
			count += n
		}
	})
	if count < 40000 || most < 300 {
		t.Errorf("only %v parts, at most %v", count, most)
	}
}
