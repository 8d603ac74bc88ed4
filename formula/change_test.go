package formula_test

import (
	"testing"

	"peculium/api"
	"peculium/formula"
	"peculium/term"
	"peculium/unify"
)

// changed fails unless a call has returned this formula, or this error and none.
func changed(t *testing.T, call string, got api.Form, err api.Errno, want string, wantErr api.Errno) {
	t.Helper()
	f := api.Form{}
	if wantErr == api.OK {
		f = form(want)
	}
	isSame := formula.Same(got, f)
	if wantErr != api.OK {
		isSame = same(got, f)
	}
	if err != wantErr || !isSame {
		t.Errorf("%v = %v, %v, want %v, %v", call, formula.Text(got), err, want, wantErr)
	}
}

func TestOpen(t *testing.T) {
	for _, c := range []struct{ f, t, want string }{
		{"ex : i . ( p B0 * all : i . q B0 )", "f P0", "( p ( f P0 ) * all : i . q B0 )"},
		{"ex : i . ( p B0 * all : i . q B1 )", "f P0", "( p ( f P0 ) * all : i . q ( f P0 ) )"},
		{"all : i . one", "c", "one"},
		{"all : i . p B0 B1 B2", "c", "p c B0 B1"},
		{"all : i . p B0 B1 B2", "f B0", "p ( f B0 ) B0 B1"},
		{"all : i . all : i . ex : i . p B0 B1 B2 B3 B4", "B7", "all : i . ex : i . p B0 B1 B9 B2 B3"},
		{"all : i . ( all : i . p B1 & ( ex : i . all : i . p B2 -o p B0 ) )", "g B0 B2 P1 V1", "( all : i . p ( g B1 B3 P1 V1 ) & ( ex : i . all : i . p ( g B2 B4 P1 V1 ) -o p ( g B0 B2 P1 V1 ) ) )"},
		{`all : i . all : i . p ( \ . B2 B1 B0 ) B0`, `\ . \ . f B1 B0 B2`, `all : i . p ( \ . f B1 B0 B2 ) B0`},
		{`all : ( i -> i ) . { ! p ( B0 ( B0 c ) ) }`, `\ . f B0`, "{ ! p ( f ( f c ) ) }"},
		{`all : ( i -> i ) . { ! p ( B0 ( B0 c ) ) }`, `P3`, "{ ! p ( P3 ( P3 c ) ) }"},
		{`ex : i . h ( \ . B1 ) P0 V0`, `B0`, `h ( \ . B1 ) P0 V0`},
		{"all : i . p B100000", "c", "p B99999"},
	} {
		f := form(c.f)
		got, err := formula.Open(f, tm(c.t))
		changed(t, "Open of "+c.f+" by "+c.t, got, err, c.want, api.OK)
		ownMemory(t, "Open", got, f)
	}
}

func TestNoQuantifier(t *testing.T) {
	for _, text := range []string{"one", "top", "p c", "( all : i . one * one )", "( one & one )", "( one + one )", "( one -o one )", "( one => one )", "! all : i . one", "{ ex : i . one }"} {
		got, err := formula.Open(form(text), con("c"))
		changed(t, "Open of "+text, got, err, "", api.ErrQuant)
	}
}

func TestBind(t *testing.T) {
	x := api.Named{Name: "x", Type: ii}
	for _, c := range []struct{ f, want string }{
		{"p ( f P0 )", "p ( f B0 )"},
		{"one", "one"},
		{"p P0 P1 P2 V0", "p B0 P1 P2 V0"},
		{"p B0 B1 P0", "p B1 B2 B0"},
		{"all : i . ( p B0 B1 P0 & ex : i . p B0 B1 B2 P0 )", "all : i . ( p B0 B2 B1 & ex : i . p B0 B1 B3 B2 )"},
		{`p ( \ . P0 B0 B1 ) ( P0 ( P0 c ) )`, `p ( \ . B1 B0 B2 ) ( B0 ( B0 c ) )`},
		{`all : i . p ( \ . \ . P0 ( \ . P0 B0 B3 B4 ) )`, `all : i . p ( \ . \ . B3 ( \ . B4 B0 B3 B5 ) )`},
		{`( p P0 -o { ! p P0 } )`, `( p B0 -o { ! p B0 } )`},
		{"p B99999", "p B100000"},
	} {
		for _, kind := range []int{api.FoAll, api.FoEx} {
			f := form(c.f)
			before := copied(f)
			got, err := formula.Bind(f, kind, 0, x)
			want := api.Form{Kind: kind, Name: "x", Type: ii, L: []api.Form{form(c.want)}}
			if err != api.OK || !same(unnamed(got), unnamed(want)) || got.Name != "x" || !same(f, before) {
				t.Errorf("Bind of %v = %v, %v, want %v", c.f, formula.Text(got), err, c.want)
			}
			ownMemory(t, "Bind", got, f, x)
		}
	}
	got, err := formula.Bind(form("p P100000"), api.FoEx, 100000, api.Named{Name: "Xx", Type: base("")})
	if want := (api.Form{Kind: api.FoEx, Name: "Xx", L: []api.Form{form("p B0")}}); err != api.OK || !same(got, want) {
		t.Errorf("Bind of the parameter MaxIndex = %v, %v", got, err)
	}
}

// unnamed is a formula whose binders have no names.
func unnamed(f api.Form) api.Form {
	f = copied(f)
	if f.Kind == api.FoAll || f.Kind == api.FoEx {
		f.Name = ""
	}
	for n, x := range f.L {
		f.L[n] = unnamed(x)
	}
	return f
}

func TestBindErrors(t *testing.T) {
	x := api.Named{Name: "x", Type: i}
	typed := func(ty api.Type) api.Named { return api.Named{Name: "x", Type: ty} }
	named := func(s string) api.Named { return api.Named{Name: s, Type: i} }
	for text, c := range map[string]struct {
		f         api.Form
		kind, par int
		x         api.Named
		want      api.Errno
	}{
		"no kind":                    {one, 0, 0, x, api.ErrArg},
		"another kind":               {one, api.FoMonad, 0, x, api.ErrArg},
		"a huge kind":                {one, 1 << 60, 0, x, api.ErrArg},
		"a negative kind":            {one, -api.FoAll, 0, x, api.ErrArg},
		"a negative parameter":       {one, api.FoAll, -1, x, api.ErrArg},
		"a parameter above MaxIndex": {one, api.FoAll, 100001, x, api.ErrArg},
		"the parameter MaxIndex":     {one, api.FoAll, 100000, x, api.OK},
		"no name":                    {one, api.FoEx, 0, named(""), api.ErrArg},
		"a keyword":                  {one, api.FoEx, 0, named("ex"), api.ErrArg},
		"a name of 40 bytes":         {one, api.FoEx, 0, named(name(40)), api.OK},
		"a name of 41 bytes":         {one, api.FoEx, 0, named(name(41)), api.ErrArg},
		"a capital name":             {one, api.FoEx, 0, named("X'"), api.OK},
		"a linked name":              {one, api.FoEx, 0, named("x@m"), api.OK},
		"a sign":                     {one, api.FoEx, 0, named("->"), api.ErrArg},
		"an arrow of one":            {one, api.FoEx, 0, typed(api.Type{Name: "->", Args: []api.Type{i}}), api.ErrArg},
		"a base type with Args":      {one, api.FoEx, 0, typed(api.Type{Name: "i", Args: []api.Type{i, i}}), api.ErrArg},
		"a type without end":         {one, api.FoEx, 0, typed(endlessType()), api.ErrArg},
		"any base type":              {one, api.FoEx, 0, typed(base("?!")), api.OK},
		"an N above MaxIndex":        {form("( p B0 * all : i . p B100000 )"), api.FoEx, 0, x, api.ErrLong},
		"an N of MaxIndex":           {form("( p B0 * all : i . p B99999 )"), api.FoEx, 0, x, api.OK},
		"wrong, and an N above it":   {form("p B100000"), api.FoEx, -1, x, api.ErrArg},
		"no raw formula":             {of(0), api.FoEx, -1, x, api.ErrForm},
		"3999 nodes":                 {wide(3999), api.FoEx, 0, x, api.OK},
		"4000 nodes":                 {wide(4000), api.FoEx, 0, x, api.ErrLong},
		"99 levels":                  {banged(98, one), api.FoAll, 0, x, api.OK},
		"100 levels":                 {banged(99, one), api.FoAll, 0, x, api.ErrDeep},
		"long and deep":              {of(api.FoTensor, wide(4000-101), banged(97, one)), api.FoAll, 0, x, api.OK},
		"too long and too deep":      {of(api.FoTensor, wide(4000-100), banged(98, one)), api.FoAll, 0, x, api.ErrLong},
		"deep terms":                 {atom("p", ofDepth(99)), api.FoAll, 0, x, api.ErrDeep},
		"terms that are not as deep": {atom("p", ofDepth(98)), api.FoAll, 0, x, api.OK},
	} {
		got, err := formula.Bind(c.f, c.kind, c.par, c.x)
		if err != c.want || err != api.OK && !same(got, api.Form{}) || err == api.OK && formula.Raw(got) != api.OK {
			t.Errorf("Bind with %v = %v, %v, want %v", text, formula.Text(got), err, c.want)
		}
	}
}

func TestLift(t *testing.T) {
	f := form(`all : i . ( p P0 P1 ( \ . P2 ( P5 B1 ) ) -o { ex : i . a ( f P100 V3 ) } )`)
	got, err := formula.Lift(f, 3, 2)
	changed(t, "Lift", got, err, `all : i . ( p P0 P1 ( \ . P5 ( P8 B1 ) ) -o { ex : i . a ( f P103 V3 ) } )`, api.OK)
	ownMemory(t, "Lift", got, f)
	for _, c := range []struct {
		by, from int
		f        string
		want     api.Errno
	}{
		{0, 0, "p P100000", api.OK}, {100000, 0, "p P0", api.OK}, {100000, 100000, "p P99999", api.OK}, {1, 0, "all : i . p P99999", api.OK},
		{1, 0, "p P100000", api.ErrLong}, {1, 100000, "all : i . p P100000", api.ErrLong}, {2, 0, "( one * p c P99999 )", api.ErrLong}, {100000, 0, "p P1", api.ErrLong},
		{-1, 0, "one", api.ErrArg}, {0, -1, "one", api.ErrArg}, {100001, 0, "one", api.ErrArg}, {0, 100001, "one", api.ErrArg}, {1 << 60, 1 << 60, "one", api.ErrArg}, {-1, 0, "p P0", api.ErrArg}, {100000, 100000, "one", api.OK},
	} {
		got, err := formula.Lift(form(c.f), c.by, c.from)
		if err != c.want || err != api.OK && !same(got, api.Form{}) {
			t.Errorf("Lift of %v by %v from %v = %v, %v, want %v", c.f, c.by, c.from, got, err, c.want)
		}
	}
}

func TestPut(t *testing.T) {
	for _, c := range []struct {
		f    string
		l    []string
		want string
	}{
		{"p V0", []string{"c"}, "p c"},
		{"p V0 V1 V2", []string{"V1", "V0"}, "p V1 V0 V2"},
		{"( p V0 * all : i . q V0 B0 )", []string{"g B0 B1 P2"}, "( p ( g B0 B1 P2 ) * all : i . q ( g B1 B2 P2 ) B0 )"},
		{`all : i . ex : i . h ( \ . V0 B0 B2 )`, []string{`\ . \ . f B1 ( \ . B1 B3 )`}, `all : i . ex : i . h ( \ . f B0 ( \ . B3 B4 ) )`},
		{`all : i . p ( V1 B0 )`, []string{"c", `\ . V0 B0`}, `all : i . p ( V0 B0 )`},
		{"{ ! p V3 }", []string{"c", "c"}, "{ ! p V3 }"},
		{"one", nil, "one"},
		{"p V0", nil, "p V0"},
	} {
		var l []api.Term
		for _, x := range c.l {
			l = append(l, tm(x))
		}
		f := form(c.f)
		got, err := formula.Put(f, l)
		changed(t, "Put of "+c.f, got, err, c.want, api.OK)
		ownMemory(t, "Put", got, f, l)
	}
	l := make([]api.Term, 2001)
	for n := range l {
		l[n] = con("c")
	}
	l[1999] = con("d")
	got, err := formula.Put(form("p V1999 V2000 V0"), l[:2000])
	changed(t, "Put of 2000 terms", got, err, "p d V2000 c", api.OK)
	for _, f := range []api.Form{one, form("p V0")} {
		got, err = formula.Put(f, l)
		changed(t, "Put of 2001 terms", got, err, "", api.ErrLong)
		l[0] = api.Term{}
		got, err = formula.Put(f, l)
		changed(t, "Put of 2001 terms with a wrong one", got, err, "", api.ErrLong)
		got, err = formula.Put(f, l[:2000])
		changed(t, "Put of a wrong term", got, err, "", api.ErrForm)
		l[0] = con("c")
	}
	got, err = formula.Put(form("p V0"), []api.Term{con("c"), bound(100001)})
	changed(t, "Put of a wrong term for another variable", got, err, "", api.ErrForm)
}

func TestValue(t *testing.T) {
	val := func(ty api.Type, text string) api.Val { return api.Val{Type: ty, Is: true, T: tm(text)} }
	s := api.Store{Vals: []api.Val{val(i, "f V1"), {Type: i}, val(fn(i, i, i), `\ . \ . g B0 ( V3 B1 )`), val(ii, `\ . f B0`), val(i, "V0")}}
	for _, c := range []struct{ f, want string }{
		{"p V0", "p ( f V1 )"},
		{"( p V4 * all : i . { q ( V2 B0 P3 ) } )", "( p ( f V1 ) * all : i . { q ( g P3 ( f B0 ) ) } )"},
		{`all : i . ex : i . h ( \ . V2 B2 B0 ) V1`, `all : i . ex : i . h ( \ . g B0 ( f B2 ) ) V1`},
		{"one", "one"},
	} {
		f := form(c.f)
		got, err := formula.Value(s, f)
		changed(t, "Value of "+c.f, got, err, c.want, api.OK)
		ownMemory(t, "Value", got, f, s)
	}
	wrong := copied(s)
	wrong.Vals[1].Level = 61
	long := api.Store{Vals: make([]api.Val, 2001)}
	for text, c := range map[string]struct {
		s    api.Store
		f    string
		want api.Errno
	}{
		"a wrong store":                      {wrong, "p c", api.ErrStore},
		"a wrong store, and no term":         {wrong, "one", api.ErrStore},
		"a wrong store, and a wrong term":    {wrong, "p B0", api.ErrStore},
		"a store that is too long":           {long, "one", api.ErrLong},
		"a free bound variable":              {s, "all : i . p B1", api.ErrForm},
		"a variable that is not there":       {s, "( one * p V5 )", api.ErrForm},
		"a variable with a constant":         {s, "p ( V3 c )", api.ErrForm},
		"a variable without its arguments":   {s, "p V3", api.ErrForm},
		"the parameter 60":                   {s, "p P60", api.ErrForm},
		"the parameter 59":                   {s, "p P59", api.OK},
		"a term in the second place":         {s, "( p V0 * p B0 )", api.ErrForm},
		"a bound variable of its quantifier": {s, "all : i . p B0 ( V3 B0 )", api.OK},
	} {
		got, err := formula.Value(c.s, form(c.f))
		if err != c.want || err != api.OK && !same(got, api.Form{}) {
			t.Errorf("Value with %v = %v, %v, want %v", text, got, err, c.want)
		}
	}
}

// TestFirstError: operations are done from the left, and their first error is that of the call; only behind them the result is too long, or too deep.
func TestFirstError(t *testing.T) {
	deep := func(levels int) api.Term { // a variable applied to itself applied to .. a constant
		t := con("c")
		for range levels {
			t = bound(0, t)
		}
		return t
	}
	add := func(n int) api.Term { // makes what it is applied to deeper by n
		t := bound(0)
		for range n {
			t = con("f", t)
		}
		return lams(1, t)
	}
	eight := func(t api.Term) api.Term { return con("f", t, t, t, t, t, t, t, t) }
	wide := eight(eight(eight(bound(0, con("c"))))) // the variable 512 times
	grow := func(n int) api.Term { return lams(1, con("f", ofSize(n), bound(0))) }
	pair := func(f, g api.Form) api.Form { return of(api.FoTensor, f, g) }
	for text, c := range map[string]struct {
		f    api.Form
		t    api.Term
		want api.Errno
	}{
		"one that is applied to itself":       {atom("p", bound(0, bound(0))), lams(1, bound(0, bound(0))), api.ErrFuel},
		"100 levels":                          {banged(17, atom("p", deep(9))), add(9), api.OK},
		"101 levels":                          {banged(18, atom("p", deep(9))), add(9), api.ErrDeep},
		"a term of 101 levels":                {atom("p", deep(10)), add(10), api.ErrDeep},
		"3658 nodes":                          {atom("p", wide), grow(5), api.OK},
		"a term of 4169 nodes":                {atom("p", wide), grow(6), api.ErrLong},
		"two terms of 3657 nodes":             {pair(atom("p", wide), atom("q", wide)), grow(5), api.ErrLong},
		"too many Args":                       {atom("p", bound(0, con("c"))), con("f", con("c"), con("c"), con("c"), con("c"), con("c"), con("c"), con("c"), con("c")), api.ErrLong},
		"an N that becomes too great":         {all(i, atom("p", bound(1))), bound(100000), api.ErrLong},
		"an N that becomes as great as it is": {all(i, atom("p", bound(1))), bound(99999), api.OK},
	} {
		got, err := formula.Open(all(i, c.f), c.t)
		if err != c.want || err != api.OK && !same(got, api.Form{}) || err == api.OK && formula.Raw(got) != api.OK {
			t.Errorf("Open of %v = %v, want %v", text, err, c.want)
		}
	}
	// What is too long at the end is not so important as a later term's error, nor is what is too deep.
	loop := func(v int) api.Term { return vari(v, vari(v)) }
	l := []api.Term{lams(1, bound(0, bound(0))), ofSize(3900), ofDepth(97), ofDepth(100)}
	for text, c := range map[string]struct {
		f    api.Form
		want api.Errno
	}{
		"too long, then no fuel":     {pair(atom("p", vari(1)), atom("p", vari(1), loop(0))), api.ErrFuel},
		"no fuel, then too long":     {pair(atom("p", loop(0)), atom("p", vari(1), vari(1))), api.ErrFuel},
		"too deep, then no fuel":     {pair(banged(2, atom("p", vari(2))), atom("p", loop(0))), api.ErrFuel},
		"too long a term, no fuel":   {pair(atom("p", con("f", vari(1), vari(1))), atom("p", loop(0))), api.ErrLong},
		"too deep a term, no fuel":   {pair(all(i, atom("p", vari(3))), atom("p", loop(0))), api.ErrDeep},
		"too long":                   {pair(atom("p", vari(1)), atom("p", vari(1))), api.ErrLong},
		"too long and too deep":      {pair(banged(2, atom("p", vari(2), vari(1))), atom("p", vari(1))), api.ErrLong},
		"too deep":                   {pair(banged(2, atom("p", vari(2))), one), api.ErrDeep},
		"just as deep":               {pair(banged(1, atom("p", vari(2))), one), api.OK},
		"as deep, below quantifiers": {pair(one, ex(i, atom("p", vari(2)))), api.OK},
		"too deep below quantifiers": {pair(one, ex(i, ex(i, atom("p", vari(2))))), api.ErrDeep},
		"4000 nodes":                 {pair(atom("p", vari(1)), atom("p", ofSize(97))), api.OK},
		"4001 nodes":                 {pair(atom("p", vari(1)), atom("p", ofSize(98))), api.ErrLong},
		"many long ones":             {pair(atom("p", vari(1), vari(1), vari(1), vari(1), vari(1), vari(1), vari(1), vari(1)), one), api.ErrLong},
	} {
		got, err := formula.Put(c.f, l)
		if err != c.want || err != api.OK && !same(got, api.Form{}) || err == api.OK && formula.Raw(got) != api.OK {
			t.Errorf("Put of %v = %v, want %v", text, err, c.want)
		}
	}
}

// TestChangesRandom holds the functions that change terms in place against the same change of the whole formula as one term.
func TestChangesRandom(t *testing.T) {
	t.Parallel()
	m := newMaker(t, 4, 10)
	counts := map[string]int{}
	for range 12000 {
		f := m.raw(1+m.Intn(6), 0)
		x, l := m.rawTerm(2, 0), []api.Term{m.rawTerm(2, 0), lams(1, m.rawTerm(1, 1))}[:m.Intn(3)]
		by, from, number := m.Intn(4), m.Intn(3), m.Intn(3)
		before := copied(f)
		check := func(call string, got api.Form, err api.Errno, want api.Form, ok bool) {
			if !ok {
				return
			}
			counts[call]++
			if err != api.OK || !same(got, want) || !same(f, before) {
				t.Fatalf("%v of %v = %v, %v, want %v", call, formula.Text(f), formula.Text(got), err, formula.Text(want))
			}
			ownMemory(t, call, got, f, x, l)
		}
		if f.Kind == api.FoAll || f.Kind == api.FoEx {
			got, err := formula.Open(f, x)
			want, ok := refChanged(f.L[0], func(t api.Term) (api.Term, api.Errno) { return term.Subst(t, x) })
			check("Open", got, err, want, ok)
		}
		named := api.Named{Name: "y", Type: pick(m, i, ii)}
		got, err := formula.Bind(f, api.FoEx, number, named)
		want, ok := refBind(f, api.FoEx, number, named)
		check("Bind", got, err, want, ok)
		got, err = formula.Lift(f, by, from)
		want, ok = refChanged(f, func(t api.Term) (api.Term, api.Errno) { return term.Lift(t, by, from) })
		check("Lift", got, err, want, ok)
		got, err = formula.Put(f, l)
		want, ok = refChanged(f, func(t api.Term) (api.Term, api.Errno) { return term.Put(t, l) })
		check("Put", got, err, want, ok)
	}
	for call, least := range map[string]int{"Open": 2000, "Bind": 10000, "Lift": 10000, "Put": 10000} {
		if counts[call] < least {
			t.Errorf("too few of %v: %v", call, counts[call])
		}
	}
}

// TestValueRandom holds Value against that of the whole formula as one term.
func TestValueRandom(t *testing.T) {
	t.Parallel()
	m := newMaker(t, 5, 1000)
	changes := 0
	for range 12000 {
		e := env{vars: []api.Type{i, ii, fn(i, o, i), i}, pars: []api.Type{i, o}}
		f := m.form("any", e, 1+m.Intn(4))
		s := api.Store{}
		for n, ty := range e.vars {
			v := api.Val{Type: ty, Is: m.Intn(3) > 0}
			if v.Is {
				v.T = m.term(ty, env{vars: e.vars[:n]}, 2)
			}
			s.Vals = append(s.Vals, v)
		}
		if unify.Check(s) != api.OK {
			continue
		}
		got, err := formula.Value(s, f)
		want, ok := refChanged(f, func(t api.Term) (api.Term, api.Errno) { return unify.Value(s, t) })
		if ok && (err != api.OK || !same(got, want)) {
			t.Fatalf("Value of %v = %v, %v", formula.Text(f), formula.Text(got), err)
		}
		if ok && !same(got, f) {
			changes++
		}
	}
	if changes < 1500 {
		t.Errorf("too few changes: %v", changes)
	}
}
