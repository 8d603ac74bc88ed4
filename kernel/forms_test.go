package kernel_test

import (
	"slices"
	"testing"

	"peculium/api"
	"peculium/formula"
	"peculium/kernel"
	"peculium/term"
)

// expectOpen holds Open against that of package formula.
func expectOpen(t *testing.T, f api.Form, x api.Term) api.Errno {
	t.Helper()
	got, err := kernel.Open(f, x)
	want, e := formula.Open(f, x)
	if err != e || !same(got, want) {
		t.Fatalf("Open of %.300v with %.300v = %.300v, %v, not %.300v, %v", formula.Text(f), term.Text(x), formula.Text(got), err, formula.Text(want), e)
	}
	return err
}

// P8.1: Open returns what formula.Open returns, for formulas and terms of all kinds.
func TestOpenRandom(t *testing.T) {
	t.Parallel()
	m := newMaker(t, 3)
	found := map[api.Errno]int{}
	for range 8000 {
		f, x := m.rawForm(1+m.Intn(5), 0), m.rawTerm(m.Intn(4), 0)
		if m.Intn(4) > 0 {
			f = api.Form{Kind: pick(m, api.FoAll, api.FoEx), Name: "x", Type: i, L: []api.Form{m.rawForm(1+m.Intn(4), 1)}}
			x = pick(m, x, lam(m.rawTerm(2, 1)), tm(`\ . B0 B0`), tm(`\ . f B0 ( B0 B0 )`), tm(`\ . \ . B1 B0`), tm(`\ . c`), lam(con("f", ofSize(300), bound(0), bound(0))))
		}
		if m.Intn(8) == 0 {
			f = m.damagedForm(f)
		}
		if m.Intn(8) == 0 {
			x = m.damagedTerm(x)
		}
		found[expectOpen(t, f, x)]++
	}
	for err, least := range map[api.Errno]int{api.OK: 4000, api.ErrLong: 5, api.ErrFuel: 5, api.ErrDeep: 50, api.ErrForm: 500, api.ErrQuant: 800} {
		if found[err] < least {
			t.Errorf("too few with %v: %v", err, found)
		}
	}
}

// turns is a term in which the bound variable 0 stands n times with an Arg, 60 times one within the other at most.
func turns(n int) api.Term {
	var list []api.Term
	for n > 0 {
		x := c
		for range min(n, 60) {
			x = bound(0, x)
		}
		n -= 60
		list = append(list, x)
	}
	for len(list) > 1 {
		list = append(list[min(8, len(list)):], con("f", list[:min(8, len(list))]...))
	}
	return list[0]
}

// busy makes a term in which a bound variable, and the variables of lambdas, are applied to one another.
func (m maker) busy(levels, binders int) api.Term {
	x := bound(m.Intn(binders + 1))
	if m.Intn(3) == 0 {
		x = bound(binders - 1)
	}
	switch {
	case m.Intn(4) == 0:
		x = con("f")
	case levels <= 0:
		return x
	}
	for range m.Intn(4) {
		y := m.busy(levels-1, binders)
		if m.Intn(2) == 0 {
			y = lam(m.busy(levels-1, binders+1))
		}
		x.Args = append(x.Args, y)
	}
	return x
}

// P8.1: lambdas that are applied to lambdas, in which other ones stand for variables.
func TestOpenBusy(t *testing.T) {
	t.Parallel()
	m := newMaker(t, 10)
	found := map[api.Errno]int{}
	for range 8000 {
		x := pick(m, `\ . \ . B1`, `\ . \ . B0`, `\ . \ . B0 B1`, `\ . \ . B1 B0`, `\ . \ . \ . B2 B0 ( B1 B0 )`, `\ . \ . \ . B2 ( \ . B2 B0 ) B0`, `\ . \ . B1 ( \ . B1 B0 )`, `\ . B0 ( \ . B1 ) ( \ . B0 )`, `\ . \ . f B1 ( \ . B1 ) ( \ . \ . B2 B3 )`, `\ . \ . B1 ( \ . B1 ) ( \ . B2 )`, `\ . \ . \ . f ( B2 B1 ) ( B0 B3 ) B4`)
		f := all(i, atom("p", m.busy(4, 1)))
		if m.Intn(2) == 0 {
			f = all(i, all(ii, atom("p", m.busy(4, 2))))
		}
		found[expectOpen(t, f, tm(x))]++
	}
	if found[api.OK] < 5000 || found[api.ErrFuel]+found[api.ErrLong] < 20 {
		t.Errorf("too few of a kind: %v", found)
	}
	// What stands for a variable below another one, and then is contracted itself.
	for _, x := range [][2]string{
		{`B0 ( \ . B1 B0 ) c d`, `\ . \ . B1`}, {`B0 ( \ . B1 B0 ) B3 d`, `\ . \ . B1`}, {`B0 ( \ . B1 B0 ) B3 B4`, `\ . \ . B1 B0`}, {`B0 ( \ . B1 B0 B5 ) B3 B4`, `\ . \ . \ . B2 B0 B1`},
		{`B0 ( \ . \ . B2 ( f B0 B1 ) ) P0 P1 P2`, `\ . \ . \ . B2 B0 B1`}, {`B0 ( \ . B1 ( \ . f B0 B1 ) ) P0 P1 P2`, `\ . \ . B1 B0`},
	} {
		for _, f := range []api.Form{all(i, atom("p", tm(x[0]))), all(i, all(i, atom("p", lam(tm(x[0]))))), all(i, all(i, atom("p", con("f", tm("B1 B0"), lam(bound(2, tm(x[0])))))))} {
			expectOpen(t, f, tm(x[1]))
		}
	}
}

// P8.1: terms that grow, or are contracted thousands of times.
func TestOpenHeavy(t *testing.T) {
	t.Parallel()
	nestedIn := func(levels int, x api.Term) api.Term { // a variable applied to itself applied to .. a term
		for range levels {
			x = bound(0, x)
		}
		return x
	}
	around := func(n int) api.Term { // makes what it is applied to deeper by n
		x := bound(0)
		for range n {
			x = con("f", x)
		}
		return lam(x)
	}
	grow := func(n int) api.Term { return lam(con("f", ofSize(n), bound(0))) }
	eight := func(x api.Term) api.Term { return con("f", slices.Repeat([]api.Term{x}, 8)...) }
	wide := eight(eight(eight(bound(0, c))))
	numeral := bound(0)
	for range 60 {
		numeral = bound(1, numeral)
	}
	numeral = lam(lam(numeral))
	self := lam(bound(0, bound(0)))
	two := lam(bound(0, numeral, self)) // gives a term of two both of these
	step := lam(con("g", bound(0)))
	fc := con("f", c)
	for what, x := range map[string]struct {
		f    api.Form
		t    api.Term
		want api.Errno
	}{
		"itself":                                    {atom("p", bound(0, bound(0))), tm(`\ . B0 B0`), api.ErrFuel},
		"as deep as may be":                         {atom("p", nestedIn(9, c)), around(9), api.OK},
		"99 levels and an atom":                     {atom("p", nestedIn(1, ofDepth(90))), around(9), api.OK},
		"100 levels and an atom":                    {atom("p", nestedIn(1, ofDepth(91))), around(9), api.ErrDeep},
		"100 levels below a quantifier":             {all(i, atom("p", ofDepth(97))), c, api.OK},
		"3658 nodes":                                {atom("p", wide), grow(5), api.OK},
		"a term of 4169 nodes":                      {atom("p", wide), grow(6), api.ErrLong},
		"two terms of 3657 nodes":                   {of(api.FoTensor, atom("p", wide), atom("q", wide)), grow(5), api.ErrLong},
		"too long, then no fuel":                    {of(api.FoTensor, of(api.FoTensor, atom("p", wide), atom("q", wide)), atom("p", bound(0, lam(con("f"))))), grow(5), api.ErrLong},
		"too many Args":                             {atom("p", bound(0, c)), con("f", slices.Repeat([]api.Term{c}, 8)...), api.ErrLong},
		"an N that becomes too great":               {all(i, atom("p", bound(1))), bound(api.MaxIndex), api.ErrLong},
		"an N that becomes the greatest":            {all(i, atom("p", bound(1))), bound(api.MaxIndex - 1), api.OK},
		"an N that becomes less":                    {all(i, atom("p", bound(api.MaxIndex))), bound(api.MaxIndex - 1), api.OK},
		"what is dropped":                           {atom("p", bound(0, eight(eight(eight(bound(0, lam(c))))))), tm(`\ . c`), api.OK},
		"nothing to be contracted":                  {atom("p", numeral), lam(bound(0, bound(0))), api.OK},
		"60 times 60":                               {atom("p", bound(0, numeral)), lam(bound(0, con("f"), c)), api.OK},
		"2000 contractions":                         {atom("p", turns(2000)), lam(bound(0)), api.OK},
		"2001 contractions":                         {atom("p", turns(2001)), lam(bound(0)), api.ErrFuel},
		"2000 contractions in each of two terms":    {atom("p", turns(1000), turns(1000)), lam(bound(0)), api.OK},
		"2001 contractions in two terms":            {atom("p", turns(1000), turns(1001)), lam(bound(0)), api.OK},
		"2000 contractions, each below 3600 levels": {atom("p", bound(0, lam(lam(bound(0, lam(bound(2, bound(2, step), bound(0, bound(0))))))))), two, api.ErrFuel},
		"a numeral by a numeral":                    {atom("p", bound(0, bound(0))), numeral, api.ErrLong},
		"3600 levels":                               {atom("p", bound(0, bound(0, lam(con("g", bound(0)))), c)), numeral, api.ErrDeep},
		"4000 nodes":                                {of(api.FoTensor, atom("p", bound(0)), atom("p", ofSize(94))), ofSize(3903), api.OK},
		"4001 nodes":                                {of(api.FoTensor, atom("p", bound(0)), atom("p", ofSize(94))), ofSize(3904), api.ErrLong},
		"an Arg of a head below a lambda":           {atom("h", lam(bound(1, bound(0)))), con("f", bound(3)), api.OK},
		"a lambda below a lambda":                   {all(i, atom("h", lam(bound(2, bound(0), bound(1))))), tm(`\ . \ . f B0 B1 B2 B3`), api.OK},
		"bound ones that are far away":              {all(i, atom("h", lam(bound(2, bound(5), bound(1))))), tm(`\ . \ . f B0 B1 B2 ( \ . B3 B4 B0 )`), api.OK},
		"a lambda that is made by another":          {atom("p", bound(0, lam(bound(1, bound(0))), fc)), tm(`\ . \ . B1 ( \ . B1 )`), api.OK},
	} {
		if err := expectOpen(t, all(i, x.f), x.t); err != x.want {
			t.Errorf("%v: %v, not %v", what, err, x.want)
		}
	}
	// An Arg that is twice as large in each step, with its free variables raised.
	for _, end := range []string{"c", "P0", "B0", "B1", "B2", "B7", "B20", "B100"} {
		for steps := range 30 {
			body := end
			for range steps {
				body = `\ . f B1 ( \ . B2 ) ( B0 ( ` + body + ` ) )`
			}
			expectOpen(t, all(i, all(i, atom("p", bound(1, bound(1))))), tm(`\ . B0 ( `+body+` )`))
		}
	}
}

// below is a term of n levels with one node each, and below them 8 to the power of 4 and some more nodes on 5 levels.
func below(n int) api.Term {
	x := c
	for range 4 {
		x = con("f", slices.Repeat([]api.Term{x}, 8)...)
	}
	for range n {
		x = con("f", x)
	}
	return x
}

// wideType is a type of n + 1 levels, on which there are twice as many nodes each.
func wideType(n int) api.Type {
	ty := i
	for range n {
		ty = fn(ty, ty)
	}
	return ty
}

// P8.1: Open's errors, in their order.
func TestOpenErrors(t *testing.T) {
	deep, long := of(api.FoBang, one), all(i, atom("p", ofSize(3999)))
	for range 99 {
		deep = of(api.FoBang, deep)
	}
	for n, x := range []struct {
		f    api.Form
		t    api.Term
		want api.Errno
	}{
		{long, ofSize(4001), api.ErrLong},
		{all(i, atom("p", ofSize(3998))), c, api.OK},
		{all(i, one), below(100), api.ErrDeep},
		{all(i, one), below(96), api.ErrLong},
		{all(i, one), below(97), api.ErrDeep},
		{all(fn(slices.Repeat([]api.Type{i}, 100)...), one), c, api.OK},
		{all(fn(slices.Repeat([]api.Type{i}, 101)...), one), c, api.ErrForm},
		{all(wideType(10), one), c, api.OK},
		{all(wideType(11), one), c, api.ErrForm},
		{deep, ofSize(4001), api.ErrDeep},
		{of(api.FoTensor), ofSize(4001), api.ErrForm},
		{one, ofSize(4001), api.ErrLong},
		{one, ofDepth(101), api.ErrDeep},
		{one, api.Term{}, api.ErrForm},
		{one, c, api.ErrQuant},
		{atom("p", c), c, api.ErrQuant},
		{of(api.FoBang, all(i, one)), c, api.ErrQuant},
		{all(i, one), ofSize(4000), api.OK},
		{all(i, one), ofDepth(100), api.OK},
		{all(i, one), vari(3), api.OK},
		{all(base("unknown"), one), c, api.OK},
		{all(api.Type{}, one), c, api.OK},
		{all(base("->"), one), c, api.ErrForm},
		{all(endlessType(1), one), c, api.ErrForm},
		{all(endlessType(2), one), c, api.ErrForm},
		{api.Form{Kind: api.FoAll, Type: i, L: []api.Form{one}}, c, api.ErrForm},
		{endlessForm(api.FoAll, 1), c, api.ErrLong},
		{endlessForm(api.FoTensor, 2), c, api.ErrLong},
		{all(i, atom("p", endlessTerm(1))), c, api.ErrLong},
		{all(i, api.Form{Kind: api.FoOne, Args: []api.Term{endlessTerm(3)}}), c, api.ErrDeep},
		{all(i, api.Form{Kind: api.FoOne, Args: []api.Term{ofSize(5000)}}), c, api.ErrForm},
		{all(i, api.Form{Kind: api.FoOne, Args: []api.Term{ofDepth(98)}}), c, api.ErrForm},
		{all(i, api.Form{Kind: api.FoOne, Args: []api.Term{ofDepth(99)}}), c, api.ErrDeep},
		{all(i, one), endlessTerm(1), api.ErrDeep},
		{all(i, one), endlessTerm(2), api.ErrLong},
	} {
		f, err := kernel.Open(x.f, x.t)
		if err != x.want || err != api.OK && !same(f, api.Form{}) {
			t.Errorf("row %v: %v, not %v", n, err, x.want)
		}
		if _, err := formula.Open(x.f, x.t); err != x.want {
			t.Errorf("row %v: package formula tells %v, not %v", n, err, x.want)
		}
	}
}

// P8.1: names of all kinds, as package lex tells them.
func TestNames(t *testing.T) {
	for _, name := range []string{"", "a", "o", "A", "_", "'", "0", "a0_'Z", "aé", "a b", "a@b", "all@one", "one@x", "a@", "@a", "a@B", "a@b@c", "A@b", "a@b'", "type", "const", "pred", "fact", "lasting", "mode", "rule", "once", "most", "query", "module", "use", "export", "all", "ex", "one", "top", "tops", "Top", "a`", "a{", "a/", "a:", "a[", "z", "Z", "zz", "Zz'"} {
		for _, f := range []api.Form{{Kind: api.FoAll, Name: name, Type: i, L: []api.Form{one}}, all(i, atom(name)), all(i, atom("p", con(name)))} {
			_, err := kernel.Open(f, c)
			if _, want := formula.Open(f, c); err != want {
				t.Errorf("%q: %v, not %v", name, err, want)
			}
		}
	}
}

// P8.1: Typed tells what term.Check tells.
func TestTyped(t *testing.T) {
	t.Parallel()
	m := newMaker(t, 4)
	p := m.pool
	counts := map[bool]int{}
	for range 12000 {
		var pars []api.Type
		for range m.Intn(4) {
			pars = append(pars, pick(m, i, o, ii, ioi, higher, fn(ii, ii)))
		}
		ty := pick(m, i, o, ii, ioi, higher, fn(higher, o), fn(o, ii))
		x := m.term(ty, pars, nil, 3)
		switch m.Intn(8) {
		case 0:
			x = m.damagedTerm(x)
		case 1:
			ty = pick(m, i, o, ii, base("x"), base("->"), api.Type{}, api.Type{Name: "i", Args: []api.Type{i}}, endlessType(1), fn(i, endlessType(2)))
		case 2:
			if len(pars) > 0 {
				pars[m.Intn(len(pars))] = pick(m, i, o, ii, base("x"), base("->"), api.Type{}, endlessType(2))
			}
		case 3:
			x = m.rawTerm(2, 0)
		}
		is := kernel.Typed(p, pars, x, ty)
		if want := term.Check(p, pars, nil, x, ty) == api.OK; is != want {
			t.Fatalf("Typed of %v, %v with %v = %v", term.Text(x), ty, pars, is)
		}
		counts[is]++
	}
	if counts[true] < 6000 || counts[false] < 2000 {
		t.Errorf("too few of a kind: %v", counts)
	}
	for n, x := range []struct {
		pars []api.Type
		t    api.Term
		ty   api.Type
		want bool
	}{
		{nil, c, i, true}, {nil, c, o, false}, {nil, con("f"), i, false}, {nil, con("f"), ii, false}, {nil, con("f", c, c), i, false}, {nil, lam(con("f", bound(0))), ii, true},
		{nil, bound(0), i, false}, {nil, vari(0), i, false}, {nil, par(0), i, false}, {[]api.Type{i}, par(0), i, true}, {[]api.Type{i}, par(1), i, false}, {[]api.Type{ii}, par(0), ii, false},
		{[]api.Type{ii}, par(0, c), i, true}, {[]api.Type{higher}, par(0, lam(bound(0))), i, true}, {[]api.Type{higher}, par(0, c), i, false}, {nil, lam(lam(bound(1))), ii, false},
		{nil, lam(lam(bound(1))), fn(i, o, i), true}, {nil, lam(lam(bound(0))), fn(i, o, i), false}, {[]api.Type{base("x")}, c, i, false}, {nil, ofDepth(100), i, true}, {nil, ofDepth(101), i, false},
		{slices.Repeat([]api.Type{i}, 60), par(59), i, true}, {slices.Repeat([]api.Type{i}, 60), par(60), i, false}, {nil, endlessTerm(1), i, false}, {nil, con("x"), i, false},
		{nil, api.Term{Kind: api.TmCon, Name: "c", N: 1}, i, false}, {nil, api.Term{Kind: api.TmLam, Name: "c", Args: []api.Term{c}}, ii, false}, {nil, lam(c), i, false}, {nil, c, ii, false},
		{[]api.Type{fn(base("x"), i)}, c, i, false}, {[]api.Type{fn(i, base("x"))}, c, i, false}, {[]api.Type{fn(slices.Repeat([]api.Type{i}, 100)...)}, c, i, true}, {[]api.Type{fn(slices.Repeat([]api.Type{i}, 101)...)}, c, i, false},
		{[]api.Type{wideType(10)}, c, i, true}, {[]api.Type{wideType(11)}, c, i, false},
	} {
		if is := kernel.Typed(p, x.pars, x.t, x.ty); is != x.want {
			t.Errorf("row %v: %v", n, is)
		}
	}
	p = inferred(t, eights)
	for n := range 5 {
		x := lam(con("f", typedOf(3996+n)))
		if is := kernel.Typed(p, nil, x, ii); is != (term.Check(p, nil, nil, x, ii) == api.OK) || is != (n <= 2) {
			t.Errorf("%v nodes: %v", term.Size(x), is)
		}
	}
	if kernel.Typed(p, nil, con("g", c, c), i) || kernel.Typed(p, nil, con("g", slices.Repeat([]api.Term{c}, 9)...), i) {
		t.Errorf("a term with too few Args, or too many, is typed")
	}
}

// refReplaced returns what comes of a term when its first parameters are replaced.
func refReplaced(t api.Term, l []api.Term, by int) (api.Term, api.Errno) {
	t = copied(t)
	for _, x := range refNodes(&t) {
		if x.Kind == api.TmPar {
			x.Kind = api.TmVar
		}
	}
	t, err := term.Put(t, l)
	if err != api.OK {
		return api.Term{}, err
	}
	for _, x := range refNodes(&t) {
		if x.Kind == api.TmVar {
			x.Kind, x.N = api.TmPar, x.N-len(l)+by
		}
		if x.N > 100000 {
			return api.Term{}, api.ErrLong
		}
	}
	return t, api.OK
}

// refNodes are the nodes of a term.
func refNodes(t *api.Term) []*api.Term {
	list := []*api.Term{t}
	for n := range t.Args {
		list = append(list, refNodes(&t.Args[n])...)
	}
	return list
}

func hasVariable(t api.Term) bool {
	return slices.ContainsFunc(refNodes(&t), func(x *api.Term) bool { return x.Kind == api.TmVar })
}

// refAllowed returns the first error of what is put in.
func refAllowed(l []api.Term, by int) api.Errno {
	if by < 0 || by > 60 || len(l) > 60 {
		return api.ErrArg
	}
	for _, x := range l {
		if err := term.Raw(x); err != api.OK {
			return err
		}
	}
	return api.OK
}

// refReplace is Replace of a raw formula.
func refReplace(f api.Form, l []api.Term, by int) (api.Form, api.Errno) {
	if err := refAllowed(l, by); err != api.OK {
		return api.Form{}, err
	}
	if len(formula.Vars(f)) > 0 {
		return api.Form{}, api.ErrForm
	}
	f = copied(f)
	var failed api.Errno
	var change func(f *api.Form, below int)
	change = func(f *api.Form, below int) {
		for n, x := range f.Args {
			for range below {
				x = lam(x)
			}
			x, err := refReplaced(x, l, by)
			if err != api.OK {
				if failed == api.OK {
					failed = err
				}
				continue
			}
			for range below {
				x = x.Args[0]
			}
			f.Args[n] = x
		}
		if f.Kind == api.FoAll || f.Kind == api.FoEx {
			below++
		}
		for n := range f.L {
			change(&f.L[n], below)
		}
	}
	change(&f, 0)
	nodes, levels := refFormSize(f)
	switch {
	case failed != api.OK:
		return api.Form{}, failed
	case nodes > 4000:
		return api.Form{}, api.ErrLong
	case levels > 100:
		return api.Form{}, api.ErrDeep
	}
	return f, api.OK
}

// someTerms makes terms that may be put in for parameters.
func (m maker) someTerms() []api.Term {
	var l []api.Term
	for range m.Intn(4) {
		x := pick(m, m.rawTerm(2, 0), lam(m.rawTerm(2, 1)), par(m.Intn(4)), tm(`\ . B0 B0`), tm(`\ . f B0 P0`), tm(`\ . \ . B1 ( \ . B1 ) P2`))
		l = append(l, x)
	}
	return l
}

// P8.1: formulas with terms for their first parameters, held against the second way.
func TestReplaceRandom(t *testing.T) {
	t.Parallel()
	m := newMaker(t, 5)
	found := map[api.Errno]int{}
	for range 10000 {
		f := m.rawForm(1+m.Intn(5), 0)
		if m.Intn(10) > 0 { // without variables
			f = withoutVariables(f)
		}
		if m.Intn(20) == 0 {
			f = m.damagedForm(f)
		}
		l, by := m.someTerms(), m.Intn(4)
		if len(l) > 0 && m.Intn(30) == 0 {
			l[0] = m.damagedTerm(l[0])
		}
		if m.Intn(20) == 0 {
			by = pick(m, -1, 60, 61, 1<<62, -1<<63)
		}
		want, e := api.Form{}, formula.Raw(f)
		if e == api.OK {
			want, e = refReplace(f, l, by)
		}
		got, err := kernel.Replace(f, l, by)
		if err != e || !same(got, want) {
			t.Fatalf("Replace of %v = %v, %v, not %v, %v", formula.Text(f), formula.Text(got), err, formula.Text(want), e)
		}
		found[err]++
	}
	for err, least := range map[api.Errno]int{api.OK: 6000, api.ErrLong: 10, api.ErrFuel: 5, api.ErrForm: 300, api.ErrArg: 150, api.ErrDeep: 10} {
		if found[err] < least {
			t.Errorf("too few with %v: %v", err, found)
		}
	}
}

// withoutVariables returns a formula with parameters for its variables.
func withoutVariables(f api.Form) api.Form {
	f = copied(f)
	var change func(f *api.Form)
	change = func(f *api.Form) {
		for n := range f.Args {
			withParameters(&f.Args[n])
		}
		for n := range f.L {
			change(&f.L[n])
		}
	}
	change(&f)
	return f
}

func withParameters(t *api.Term) {
	for _, x := range refNodes(t) {
		if x.Kind == api.TmVar {
			x.Kind = api.TmPar
		}
	}
}

// refInstance is Instance of a proof that is formed.
func refInstance(pf api.Proof, l []api.Term, by int) (api.Proof, api.Errno) {
	if err := refAllowed(l, by); err != api.OK {
		return api.Proof{}, err
	}
	for _, x := range refTerms(pf) {
		if hasVariable(x) || x.Kind != 0 && term.Raw(x) == api.ErrForm {
			return api.Proof{}, api.ErrForm
		}
	}
	pf = copied(pf)
	var failed api.Errno
	replace := func(x *api.Term) {
		y, err := *x, api.OK
		if x.Kind != 0 {
			y, err = refReplaced(*x, l, by)
		}
		if *x = y; failed == api.OK {
			failed = err
		}
	}
	var change func(x *api.Proof)
	change = func(x *api.Proof) {
		replace(&x.Term)
		for k := range x.Spine {
			replace(&x.Spine[k].Term)
			for n := range x.Spine[k].L {
				change(&x.Spine[k].L[n])
			}
		}
		for k := range x.Moves {
			for n := range x.Moves[k].Terms {
				replace(&x.Moves[k].Terms[n])
			}
		}
		for n := range x.L {
			change(&x.L[n])
		}
	}
	change(&pf)
	if failed == api.OK && refSize(pf) > 20000 {
		failed = api.ErrLong
	}
	if failed != api.OK {
		return api.Proof{}, failed
	}
	return pf, api.OK
}

// P8.1: proofs with terms for their first parameters, held against the second way.
func TestInstanceRandom(t *testing.T) {
	t.Parallel()
	m := newMaker(t, 6)
	found := map[api.Errno]int{}
	for x := range m.claims(2500) {
		pf := x.pf
		if m.Intn(3) == 0 {
			pf = m.damaged(pf)
		}
		if m.Intn(2) == 0 {
			pf = m.withTerms(pf)
		}
		l, by := m.someTerms(), m.Intn(4)
		want, e := api.Proof{}, kernel.Formed(pf)
		if e == api.OK {
			want, e = refInstance(pf, l, by)
		}
		got, err := kernel.Instance(pf, l, by)
		if err != e || !same(got, want) {
			t.Fatalf("Instance of %v by %v = %v, %v, not %v, %v", text(pf), l, text(got), err, text(want), e)
		}
		found[err]++
	}
	for err, least := range map[api.Errno]int{api.OK: 1500, api.ErrLong: 1, api.ErrForm: 5} {
		if found[err] < least {
			t.Errorf("too few with %v: %v", err, found)
		}
	}
}

// withTerms returns a proof with any Terms, mostly without variables.
func (m maker) withTerms(pf api.Proof) api.Proof {
	pf = copied(pf)
	set := func(x *api.Term) {
		if *x = m.rawTerm(2, 0); m.Intn(30) > 0 {
			withParameters(x)
		}
	}
	for _, x := range spots(&pf) {
		if x.Kind == api.PfAtom && m.Intn(2) == 0 {
			x.Spine = append(x.Spine, at(c))
		}
		if x.Kind == api.PfEx {
			set(&x.Term)
		}
		for k := range x.Spine {
			if x.Spine[k].Kind == api.TuAll {
				set(&x.Spine[k].Term)
			}
		}
		for k := range x.Moves {
			for n := range x.Moves[k].Terms {
				set(&x.Moves[k].Terms[n])
			}
		}
	}
	return pf
}

// P8.1: what replaces parameters, its limits, and its errors in their order.
func TestReplaceRows(t *testing.T) {
	texts := func(list ...string) []api.Term {
		var l []api.Term
		for _, x := range list {
			l = append(l, tm(x))
		}
		return l
	}
	for n, x := range []struct {
		t    string
		l    []api.Term
		by   int
		want string
		err  api.Errno
	}{
		{"P0", texts("c"), 0, "c", api.OK},
		{"f P0 P1 P2", texts("c"), 0, "f c P0 P1", api.OK},
		{"f P0 P1 P2", texts("c"), 3, "f c P3 P4", api.OK},
		{"f P0 P1 P2", nil, 0, "f P0 P1 P2", api.OK},
		{"f P0 P1 P2", nil, 60, "f P60 P61 P62", api.OK},
		{"f P0 P1 P2", texts("P1", "P0"), 2, "f P1 P0 P2", api.OK},
		{"f P0 P1", texts("P5", "f P9"), 1, "f P5 ( f P9 )", api.OK},
		{"f P0 P1", texts("P1", "c"), 0, "f P1 c", api.OK},
		{"P0 c", texts(`\ . f B0 B0`), 0, "f c c", api.OK},
		{"P0 ( P0 c )", texts(`\ . f B0 P7`), 0, "f ( f c P7 ) P7", api.OK},
		{`\ . P0 B0`, texts(`\ . f B0 B1`), 0, `\ . f B0 B1`, api.OK},
		{`\ . \ . f P0 B0 B1`, texts("B0"), 0, `\ . \ . f B2 B0 B1`, api.OK},
		{"P0 c", texts("P4"), 0, "P4 c", api.OK},
		{"P0 c", texts("f"), 0, "f c", api.OK},
		// What is put in may have variables: those that are left become parameters.
		{"f P0 P1", texts("V3"), 1, "f P3 P1", api.OK},
		{"f P0 P1", texts("V1"), 0, "f P0 P0", api.OK},
		{"P100000", nil, 0, "P100000", api.OK},
		{"P100000", nil, 1, "", api.ErrLong},
		{"P100000", texts("c"), 1, "P100000", api.OK},
		{"P100000", texts("c"), 2, "", api.ErrLong},
		{"P99940", nil, 60, "P100000", api.OK},
		{"P99941", nil, 60, "", api.ErrLong},
		{"P0 c", texts(`\ . f B0 B99999`), 0, `f c B99998`, api.OK},
		{`\ . P0`, texts("B100000"), 0, "", api.ErrLong},
		{"P0 P0", texts(`\ . B0 B0`), 0, "", api.ErrFuel},
		{"P0 c", texts("f c c c c c c c c"), 0, "", api.ErrLong},
		{"P0", slices.Repeat([]api.Term{c}, 60), 0, "c", api.OK},
		{"P60", slices.Repeat([]api.Term{c}, 60), 60, "P60", api.OK},
		{"P59", slices.Repeat([]api.Term{c}, 60), 60, "c", api.OK},
		{"P0", slices.Repeat([]api.Term{c}, 61), 0, "", api.ErrArg},
		{"P0", slices.Repeat([]api.Term{{}}, 61), 0, "", api.ErrArg},
		{"P0", texts("c"), 61, "", api.ErrArg},
		{"P0", texts("c"), -1, "", api.ErrArg},
		{"V0", texts("c"), -1, "", api.ErrArg},
		{"V0", []api.Term{{}}, 0, "", api.ErrForm},
		{"V0", []api.Term{ofSize(4001)}, 0, "", api.ErrLong},
		{"V0", []api.Term{ofDepth(101)}, 0, "", api.ErrDeep},
		{"V0", []api.Term{ofDepth(101), ofSize(4001)}, 0, "", api.ErrDeep},
		{"V0", texts("c"), 0, "", api.ErrForm},
		{"f ( \\ . g V9 )", texts("c"), 0, "", api.ErrForm},
	} {
		want := api.Form{}
		if x.err == api.OK {
			want = atom("p", tm(x.want))
		}
		if got, err := kernel.Replace(atom("p", tm(x.t)), x.l, x.by); err != x.err || !same(got, want) {
			t.Errorf("row %v: Replace = %v, %v, not %v, %v", n, formula.Text(got), err, x.want, x.err)
		}
		for _, make := range []func(t api.Term) api.Proof{
			func(t api.Term) api.Proof { return some(t, ones) },
			func(t api.Term) api.Proof { return hyp(3, at(t)) },
			func(t api.Term) api.Proof { return given(hyp(3, imp(does(tops(1, 2), move(0, []api.Term{c, t}, 2))))) },
		} {
			want := api.Proof{}
			if x.err == api.OK {
				want = make(tm(x.want))
			}
			if got, err := kernel.Instance(make(tm(x.t)), x.l, x.by); err != x.err || !same(got, want) {
				t.Errorf("row %v: Instance = %v, %v, not %v, %v", n, text(got), err, x.want, x.err)
			}
		}
	}
	// The first error is that of the call; what is too long at the end is told behind it.
	l := []api.Term{tm(`\ . B0 B0`), ofSize(3900), ofDepth(97), ofDepth(100), ofSize(4000)}
	loop, big := par(0, par(0)), par(1)
	pairOf := func(f, g api.Form) api.Form { return of(api.FoTensor, f, g) }
	for what, x := range map[string]struct {
		f    api.Form
		want api.Errno
	}{
		"too long, then no fuel":   {pairOf(atom("p", big), atom("p", big, loop)), api.ErrFuel},
		"no fuel, then too long":   {pairOf(atom("p", loop), atom("p", con("f", big, big))), api.ErrFuel},
		"too long a term, no fuel": {pairOf(atom("p", con("f", big, big)), atom("p", loop)), api.ErrLong},
		"too deep a term, no fuel": {pairOf(all(i, atom("p", par(3))), atom("p", loop)), api.ErrDeep},
		"too long":                 {pairOf(atom("p", big), atom("p", big)), api.ErrLong},
		"too deep":                 {pairOf(of(api.FoBang, of(api.FoBang, atom("p", par(2)))), one), api.ErrDeep},
		"just as deep":             {pairOf(of(api.FoBang, atom("p", par(2))), one), api.OK},
		"4000 nodes":               {pairOf(atom("p", big), atom("p", ofSize(97))), api.OK},
		"4001 nodes":               {pairOf(atom("p", big), atom("p", ofSize(98))), api.ErrLong},
		"no raw formula":           {pairOf(atom("p", vari(0)), of(api.FoBang)), api.ErrForm},
		"many long ones":           {pairOf(atom("p", slices.Repeat([]api.Term{big}, 8)...), atom("q", slices.Repeat([]api.Term{big}, 8)...)), api.ErrLong},
	} {
		if got, err := kernel.Replace(x.f, l, 5); err != x.want || err != api.OK && !same(got, api.Form{}) {
			t.Errorf("%v: %v, not %v", what, err, x.want)
		}
	}
	many := func(n int, terms ...api.Term) api.Proof { // a proof with n times a term of 3900 nodes, and further ones
		return does(ones, move(0, append(slices.Repeat([]api.Term{big}, n), terms...)))
	}
	for what, x := range map[string]struct {
		pf   api.Proof
		want api.Errno
	}{
		"20000 nodes":                {many(5, ofSize(497)), api.OK},
		"20000 nodes of terms":       {does(ones, move(0, slices.Repeat([]api.Term{par(4)}, 5))), api.ErrLong},
		"20001 nodes":                {many(5, ofSize(498)), api.ErrLong},
		"too long, then no fuel":     {many(6, loop), api.ErrFuel},
		"far too long":               {many(2000, c), api.ErrLong},
		"far too long, and no fuel":  {many(2000, loop), api.ErrFuel},
		"no fuel, and a variable":    {pair(some(loop, ones), some(vari(0), ones)), api.ErrForm},
		"no fuel, and no raw one":    {pair(some(loop, ones), some(con("X"), ones)), api.ErrForm},
		"no fuel, and no kind":       {pair(some(loop, ones), some(api.Term{Name: "X"}, ones)), api.ErrFuel},
		"a variable without a kind":  {pair(some(loop, ones), some(api.Term{Args: []api.Term{vari(0)}}, ones)), api.ErrForm},
		"4001 nodes":                 {some(ofSize(4001), ones), api.ErrLong},
		"4001 nodes behind no fuel":  {pair(some(loop, ones), some(ofSize(4001), ones)), api.ErrFuel},
		"4001 nodes that are wrong":  {some(con("f", ofSize(4000), con("X")), ones), api.ErrForm},
		"4000 nodes":                 {some(ofSize(4000), ones), api.OK},
		"a term first":               {api.Proof{Kind: api.PfEx, Term: con("f", big, big), L: []api.Proof{some(loop, ones)}}, api.ErrLong},
		"turns in order":             {hyp(0, at(con("f", big, big)), at(loop)), api.ErrLong},
		"turns and proofs in order":  {hyp(0, by(some(con("f", big, big), ones)), at(loop)), api.ErrLong},
		"proofs and turns in order":  {hyp(0, at(loop), by(some(con("f", big, big), ones))), api.ErrFuel},
		"moves first":                {does(some(loop, ones), move(0, []api.Term{con("f", big, big)})), api.ErrLong},
		"parts in order":             {pair(some(loop, ones), some(con("f", big, big), ones)), api.ErrFuel},
		"a proof that is not formed": {part(api.PfTensor, some(vari(0), ones)), api.ErrRefused},
		"a term that is too deep":    {some(ofDepth(101), ones), api.ErrDeep},
	} {
		if got, err := kernel.Instance(x.pf, l, 5); err != x.want || err != api.OK && !same(got, api.Proof{}) {
			t.Errorf("%v: %v, not %v", what, err, x.want)
		}
	}
	// Terms without a kind stay.
	odd := pair(some(api.Term{}, ones), some(api.Term{N: 3, Name: "x", Args: []api.Term{par(0)}}, hyp(1, at(api.Term{N: 1}))))
	if got, err := kernel.Instance(odd, texts("c"), 0); err != api.OK || !same(got, odd) {
		t.Errorf("terms without a kind: %v, %v", text(got), err)
	}
}
