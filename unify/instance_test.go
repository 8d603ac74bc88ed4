package unify_test

import (
	"slices"
	"testing"

	"peculium/api"
	"peculium/unify"
)

// P5.1: which terms come of others.
func TestInstance(t *testing.T) {
	for _, x := range []struct {
		pars int
		l, m []string
		want bool
	}{
		{0, nil, nil, true},
		{0, []string{"c"}, []string{"c"}, true},
		{0, []string{"c"}, []string{"d"}, false},
		{0, []string{"f c"}, []string{"f"}, false},
		{0, []string{`\ . f B0`}, []string{`\ . f B0`}, true},
		{0, []string{`\ . c`}, []string{"c"}, false},
		{0, []string{"P0"}, []string{"f c ( g P7 )"}, true},
		{0, []string{"P0"}, []string{"P0"}, true},
		{1, []string{"P0"}, []string{"P0"}, true},
		{1, []string{"P0"}, []string{"c"}, false},
		{1, []string{"P0 P0"}, []string{"P0 c"}, false},
		{1, []string{"P0 P1"}, []string{"P0 c"}, true},
		{60, []string{"P59"}, []string{"P59"}, true},
		{60, []string{"P59"}, []string{"c"}, false},
		{59, []string{"P59"}, []string{"c"}, true},
		{0, []string{"P0"}, []string{`\ . c`}, false},
		{0, []string{"P0"}, []string{`f ( \ . B0 )`}, true},
		{0, []string{`\ . P0`}, []string{`\ . B0`}, false},
		{0, []string{`\ . P0`}, []string{`\ . f ( \ . B0 )`}, true},
		{0, []string{`\ . P0`}, []string{`\ . f ( \ . B1 )`}, false},
		{0, []string{`\ . P0 B0`}, []string{`\ . f B0`}, true},
		{0, []string{`\ . P0 B0`}, []string{`\ . c`}, true},
		{0, []string{`\ . P0 B0`}, []string{`\ . f ( \ . g B1 B0 )`}, true},
		{0, []string{`\ . \ . P0 B0`}, []string{`\ . \ . g B0 B1`}, false},
		{0, []string{`\ . P0 B0`}, []string{`\ . B0 ( f B0 )`}, true},
		{0, []string{`\ . P0 B0`}, []string{`\ . \ . c`}, false},
		{0, []string{"g P0 P0"}, []string{"g c c"}, true},
		{0, []string{"g P0 P0"}, []string{"g c d"}, false},
		{0, []string{"P0", "P0"}, []string{"c", "d"}, false},
		{0, []string{"P0", "P1"}, []string{"c", "d"}, true},
		{0, []string{"P0", "P1"}, []string{"P1", "P1"}, true},
		{0, []string{`\ . \ . g ( P0 B0 ) ( P0 B1 )`}, []string{`\ . \ . g ( f B0 ) ( f B1 )`}, true},
		{0, []string{`\ . \ . g ( P0 B0 ) ( P0 B1 )`}, []string{`\ . \ . g ( f B0 ) ( f B0 )`}, false},
		{0, []string{`\ . \ . g ( P0 B0 ) ( P0 B1 )`}, []string{`\ . \ . g c c`}, true},
		{0, []string{`\ . g ( P0 B0 ) ( \ . P0 B1 )`}, []string{`\ . g ( f B0 ) ( \ . f B1 )`}, true},
		{0, []string{`\ . g ( P0 B0 ) ( \ . P0 B1 )`}, []string{`\ . g ( f B0 ) ( \ . f B0 )`}, false},
		{0, []string{`\ . \ . g ( P0 B0 B1 ) ( P0 B1 B0 )`}, []string{`\ . \ . g ( f B0 ) ( f B1 )`}, true},
		{0, []string{`\ . \ . g ( P0 B0 B1 ) ( P0 B1 B0 )`}, []string{`\ . \ . g ( f B0 B1 ) ( f B0 B1 )`}, false},
		{2, []string{"P2 P0"}, []string{"f P0 P1"}, true},
		{2, []string{"g ( P2 P0 ) ( P2 P1 )"}, []string{"g ( f P0 ) ( f P1 )"}, true},
		{2, []string{"g ( P2 P0 ) ( P2 P1 )"}, []string{"g ( f P0 ) ( f P0 )"}, false},
		{2, []string{"g ( P2 P0 ) ( P2 P1 )"}, []string{"g ( f P1 ) ( f P1 )"}, false},
		{2, []string{"g ( P2 P0 ) ( P2 P1 )"}, []string{"g ( f P5 ) ( f P5 )"}, true},
		{2, []string{`g ( P2 P0 ) ( \ . P2 B0 )`}, []string{`g ( P0 c ) ( \ . B0 c )`}, true},
		{2, []string{`g ( P2 P0 ) ( \ . P2 B0 )`}, []string{`g ( P0 c ) ( \ . P0 c )`}, false},
		{2, []string{`g ( \ . P2 B0 ) ( P2 P0 )`}, []string{`g ( \ . P0 c ) ( P0 c )`}, false},
	} {
		is, e := unify.Instance(x.pars, reads(x.l...), reads(x.m...))
		if e != api.OK || is != x.want || isInstance(x.pars, reads(x.l...), reads(x.m...)) != x.want {
			t.Errorf("Instance(%v; %v; %v) = %v, %v", x.pars, x.l, x.m, is, e)
		}
	}
}

// P5.1: what Instance does not take.
func TestInstanceErrors(t *testing.T) {
	c := con("c")
	for what, x := range map[string]struct {
		pars int
		l, m []api.Term
		e    api.Errno
	}{
		"40 terms":                          {0, slices.Repeat([]api.Term{c}, 40), slices.Repeat([]api.Term{c}, 40), api.OK},
		"41 terms":                          {0, slices.Repeat([]api.Term{c}, 41), slices.Repeat([]api.Term{c}, 41), api.ErrArg},
		"a term more":                       {0, reads("c"), reads("c", "c"), api.ErrArg},
		"a term less":                       {0, reads("c"), nil, api.ErrArg},
		"-1":                                {-1, nil, nil, api.ErrArg},
		"60":                                {60, nil, nil, api.OK},
		"61":                                {61, nil, nil, api.ErrArg},
		"a huge number":                     {-1 << 63, reads("c"), reads("c"), api.ErrArg},
		"the number ahead of terms":         {61, []api.Term{{}}, []api.Term{ofSize(4001)}, api.ErrArg},
		"a variable":                        {0, reads("V0"), reads("c"), api.ErrForm},
		"a variable in what comes of it":    {0, reads("P0"), reads("V0"), api.ErrForm},
		"a bound variable that is free":     {0, reads("B0"), reads("B0"), api.ErrForm},
		"one in what comes of it":           {0, reads("P0"), reads("B0"), api.ErrForm},
		"the parameter 60":                  {0, reads("c"), reads("P60"), api.ErrForm},
		"what is no term":                   {0, []api.Term{{}}, reads("c"), api.ErrForm},
		"4000 parts":                        {0, []api.Term{ofSize(4000)}, []api.Term{ofSize(4000)}, api.OK},
		"4001 parts":                        {0, []api.Term{ofSize(4001)}, []api.Term{ofSize(4001)}, api.ErrLong},
		"4001 parts of what comes of it":    {0, reads("P0"), []api.Term{ofSize(4001)}, api.ErrLong},
		"101 levels":                        {0, []api.Term{ofDepth(101)}, []api.Term{ofSize(4001)}, api.ErrDeep},
		"101 levels of what comes of it":    {0, reads("P0"), []api.Term{ofDepth(101)}, api.ErrDeep},
		"a term without end":                {0, reads("P0"), []api.Term{endless(3)}, api.ErrLong},
		"an Arg that is no variable":        {0, reads("P0 c"), reads("c"), api.ErrForm},
		"one that has Args":                 {0, reads(`\ . P0 ( B0 c )`), reads(`\ . c`), api.ErrForm},
		"a lambda":                          {0, reads(`P0 ( \ . B0 )`), reads("c"), api.ErrForm},
		"the same Args":                     {0, reads(`\ . P0 B0 B0`), reads(`\ . c`), api.ErrForm},
		"the same parameters":               {1, reads("P1 P0 P0"), reads("c"), api.ErrForm},
		"a parameter from pars on":          {0, reads("P0 P1"), reads("c"), api.ErrForm},
		"itself":                            {0, reads("P0 P0"), reads("c"), api.ErrForm},
		"a parameter below pars":            {2, reads("P2 P1"), reads("c"), api.OK},
		"one with any Args":                 {1, reads("P0 c c"), reads("c"), api.OK},
		"other numbers of Args":             {0, reads(`\ . g P0 ( P0 B0 )`), reads(`\ . c`), api.ErrForm},
		"other numbers of Args, in another": {0, reads("P0", `\ . P0 B0`), reads("c", `\ . c`), api.ErrForm},
		"any Args in what comes of it":      {0, reads("c"), reads("g ( P0 c ) ( P0 P0 P0 )"), api.OK},
		"where nothing else is equal":       {0, reads("f ( P0 c )"), reads("c"), api.ErrForm},
	} {
		is, e := unify.Instance(x.pars, x.l, x.m)
		if e != x.e || e != api.OK && is {
			t.Errorf("%v: %v, %v; expected %v", what, is, e, x.e)
		}
	}
}

// P5.1: what comes of terms by random values, and what does not.
func TestInstances(t *testing.T) {
	kinds := [2]int{}
	testAll(t, 31, 20000, func(t *testing.T, m maker) {
		s, found := m.store(3), map[int]api.Term{}
		var l []api.Term
		for range 1 + m.Intn(3) {
			x := m.term(api.Store{}, pars, around, 3)
			l = append(l, lams(2, m.disguise(s, x, found, pars, around, 2)))
		}
		other := map[int]api.Term{}
		for v := range s.Vals {
			other[v] = lams(arity(s.Vals[v].Type), m.term(api.Store{}, s.Vals[v].Level, argTypes(s.Vals[v]), 1))
		}
		from, _, _ := unify.Least(s, pars, l)
		for _, by := range []map[int]api.Term{found, other} {
			to, _, e := unify.Least(with(s, by), pars, l)
			if e != api.OK {
				t.Fatal(e)
			}
			if m.Intn(2) == 0 {
				i := m.Intn(len(to))
				if x := m.damaged(to[i]); fault(store(), x, 0, 60) == "" {
					to[i] = x
				}
			}
			want := isInstance(pars, from, to)
			is, e := unify.Instance(pars, from, to)
			if e != api.OK || is != want {
				t.Fatalf("Instance(%v; %v) = %v, %v; expected %v", texts(from), texts(to), is, e, want)
			}
			if want {
				kinds[0]++
			} else {
				kinds[1]++
			}
		}
	})
	if kinds[0] < 10000 || kinds[1] < 2000 {
		t.Errorf("too few of a kind: %v", kinds)
	}
}
