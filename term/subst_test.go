package term_test

import (
	"reflect"
	"slices"
	"testing"

	"peculium/api"
	"peculium/term"
)

// expect holds a result against the text of a term, or an error.
func expect(t *testing.T, what string, x api.Term, e api.Errno, want string, err api.Errno) {
	t.Helper()
	switch {
	case e != err || e != api.OK && !reflect.DeepEqual(x, api.Term{}):
		t.Errorf("%v = %.60v, %v; expected %.60v, %v", what, x, e, want, err)
	case e == api.OK && textOf(x) != want:
		t.Errorf("%v = %.200v; expected %.200v", what, textOf(x), want)
	}
}

// P4.1: every row of the chapter's examples.
func TestExamples(t *testing.T) {
	p := program()
	x := con("lam", lam(con("s", bound(0))))
	if got := term.Text(x); got != `lam ( \ . s B0 )` {
		t.Errorf("Text = %v", got)
	}
	if e := term.Check(p, nil, nil, x, nat); e != api.OK {
		t.Errorf("Check = %v", e)
	}
	if e := term.Check(p, nil, nil, con("lam", con("s")), nat); e != api.ErrTyped {
		t.Errorf("Check of a constant for a lambda = %v", e)
	}
	for _, x := range []struct {
		t, s, want string
		e          api.Errno
	}{
		{`B0 z`, `\ . s B0`, `s z`, api.OK},
		{`B0 ( B0 B1 )`, `\ . s ( s B0 )`, `s ( s ( s ( s B0 ) ) )`, api.OK},
		{`\ . B1 B0`, `\ . s B0`, `\ . s B0`, api.OK},
		{`B0 B0`, `\ . B0 B0`, ``, api.ErrFuel},
	} {
		y, e := term.Subst(read(t, x.t), read(t, x.s))
		expect(t, "Subst of "+x.t, y, e, x.want, x.e)
	}
	y, e := term.Eta(par(0), fn(fn(nat, nat), nat))
	expect(t, "Eta", y, e, `\ . P0 ( \ . B1 B0 )`, api.OK)
	y, e = term.Put(read(t, "s ( V0 z )"), []api.Term{read(t, `\ . s B0`)})
	expect(t, "Put", y, e, "s ( s z )", api.OK)
	y, e = term.Shift(read(t, `\ . B0 B1`), 2, 0)
	expect(t, "Shift", y, e, `\ . B0 B3`, api.OK)
}

// P4.1: a term in place of the innermost bound variable.
func TestSubst(t *testing.T) {
	for _, x := range []struct {
		t, s, want string
		e          api.Errno
	}{
		{"B0", "f B0 B7", "f B0 B7", api.OK},
		{"f B0 B1 B2", "z", "f z B0 B1", api.OK},
		{"z", `\ . B0 B0`, "z", api.OK},
		{`\ . f B0 B1 B2`, "B5", `\ . f B0 B6 B1`, api.OK},
		{`\ . \ . f B0 B1 B2 B3`, "g B0", `\ . \ . f B0 B1 ( g B2 ) B2`, api.OK},
		{`\ . \ . B2 B1 B0`, `\ . B1 B0`, `\ . \ . B2 B1 B0`, api.OK},
		{`f ( \ . B1 ) ( \ . B2 )`, `\ . B1`, `f ( \ . \ . B2 ) ( \ . B1 )`, api.OK},
		{"B0 P1 V2", "s z", "s z P1 V2", api.OK},
		{"B0 B1", "B4 B3", "B4 B3 B0", api.OK},
		{"B1 B0", "z", "B0 z", api.OK},
		{"B0 P0 P1", `\ . \ . f B0 B1`, "f P1 P0", api.OK},
		{"B0 P0 P1", `\ . f B0`, "f P0 P1", api.OK},
		{"B0 P0", `\ . \ . f B0 B1 B2`, `\ . f B0 P0 B1`, api.OK},
		{"B0 ( B0 ( B0 P0 ) )", `\ . s B0`, "s ( s ( s P0 ) )", api.OK},
		{`\ . B1 B0`, `\ . B0 B1`, `\ . B0 B1`, api.OK},
		{`\ . B1 ( \ . B0 B1 )`, `\ . B0 B1`, `\ . B1 B0`, api.OK},
		{`\ . B1 ( \ . B1 B0 )`, `\ . B0 ( \ . B0 P0 )`, `\ . B0 ( \ . B0 P0 )`, api.OK},
		{"B0 z", "B100000", "B100000 z", api.OK},
		{`\ . B1 z`, "B99999", `\ . B100000 z`, api.OK},
		{`\ . B1 z`, "B100000", "", api.ErrLong},
		{`\ . \ . B2`, "f B99999", "", api.ErrLong},
		{`\ . B0 B100000`, "B100000", `\ . B0 B99999`, api.OK},
		{"B0 z", "f z z z z z z z", "f z z z z z z z z", api.OK},
		{"B0 z z", "f z z z z z z z", "", api.ErrLong},
		{"B0 z z", `\ . f z z z z z z z`, "f z z z z z z z z", api.OK},
		{"B0 z z z", `\ . f z z z z z z z`, "", api.ErrLong},
		// An argument is made first, also if it is dropped then.
		{"B0 ( B0 B0 )", `\ . B0 B0`, "", api.ErrFuel},
		{"f ( B1 ( B0 B0 ) ) z", `\ . z`, "f ( B0 z ) z", api.OK},
		{"B0 ( B0 z z z )", `\ . f B0 z z z z z`, "f ( f z z z z z z z z ) z z z z z", api.OK},
		{"B0 ( B0 z z z z )", `\ . f B0 z z z z z`, "", api.ErrLong},
	} {
		y, e := term.Subst(read(t, x.t), read(t, x.s))
		expect(t, "Subst of "+x.t+" by "+x.s, y, e, x.want, x.e)
	}
}

// P4.1: terms applied to lists.
func TestApply(t *testing.T) {
	z := con("z")
	list := func(texts ...string) []api.Term {
		var out []api.Term
		for _, s := range texts {
			out = append(out, read(t, s))
		}
		return out
	}
	for _, x := range []struct {
		t    string
		list []api.Term
		want string
		e    api.Errno
	}{
		{"f B3", nil, "f B3", api.OK},
		{`\ . B0 B1`, []api.Term{}, `\ . B0 B1`, api.OK},
		{"f B3", list("B0", "s z"), "f B3 B0 ( s z )", api.OK},
		{`\ . f B0 B1`, list("B3"), "f B3 B0", api.OK},
		{`\ . \ . f B0 B1 B2`, list("P0", "P1"), "f P1 P0 B0", api.OK},
		{`\ . \ . f B0 B1 B2`, list("B0"), `\ . f B0 B1 B1`, api.OK},
		{`\ . f B0`, list("z", "s z"), "f z ( s z )", api.OK},
		{`\ . B0 z`, list(`\ . s B0`), "s z", api.OK},
		{`\ . B0`, list(`\ . B0`, `\ . B0`, `\ . B0`, "z"), "z", api.OK},
		{`\ . B0`, list(`\ . \ . f B0 B1`, "P0", "P1", "P2"), "f P1 P0 P2", api.OK},
		{`\ . B0 B0`, list(`\ . B0 B0`), "", api.ErrFuel},
		{"f", slices.Repeat([]api.Term{z}, 8), "f z z z z z z z z", api.OK},
		{"f P0", slices.Repeat([]api.Term{z}, 8), "", api.ErrLong},
		{"f", slices.Repeat([]api.Term{z}, 9), "", api.ErrLong},
		{"f", slices.Repeat([]api.Term{{}}, 9), "", api.ErrLong},
		{`\ . z`, append(slices.Repeat([]api.Term{z}, 7), api.Term{}), "", api.ErrForm},
		{`\ . z`, slices.Repeat([]api.Term{z}, 8), "z z z z z z z z", api.OK},
		{`\ . z z`, slices.Repeat([]api.Term{z}, 8), "z z z z z z z z z", api.OK},
		{`\ . z z z`, slices.Repeat([]api.Term{z}, 8), "", api.ErrLong},
	} {
		y, e := term.Apply(read(t, x.t), x.list)
		expect(t, "Apply of "+x.t, y, e, x.want, x.e)
	}
	if _, e := term.Apply(api.Term{}, slices.Repeat([]api.Term{z}, 9)); e != api.ErrForm {
		t.Errorf("Apply of no term to too many = %v", e)
	}
}

// P4.1: terms in place of variables.
func TestPut(t *testing.T) {
	for _, x := range []struct {
		t    string
		list []string
		want string
		e    api.Errno
	}{
		{"f V0 V1 V2", nil, "f V0 V1 V2", api.OK},
		{"f V0 V1 V2", []string{"V1", "V0"}, "f V1 V0 V2", api.OK},
		{"V1 V0", []string{"V5", "P0"}, "P0 V5", api.OK},
		{`\ . f V0 B0 ( \ . V0 B0 B1 )`, []string{"B0"}, `\ . f B1 B0 ( \ . B2 B0 B1 )`, api.OK},
		{`\ . V0 ( V1 B0 )`, []string{`\ . s B0`, `\ . f B0 B1`}, `\ . s ( f B0 B1 )`, api.OK},
		{`\ . V0 B0 B1`, []string{`\ . \ . f B0 B1 B2`}, `\ . f B1 B0 B1`, api.OK},
		{"V0 ( V0 V1 )", []string{`\ . f B0 V0`, "z"}, "f ( f z V0 ) V0", api.OK},
		{"V0 V0", []string{`\ . B0 B0`}, "", api.ErrFuel},
		{"f B0 B3 P2", []string{"z"}, "f B0 B3 P2", api.OK},
		{`\ . V0`, []string{"B100000"}, "", api.ErrLong},
		{`\ . V0`, []string{"B99999"}, `\ . B100000`, api.OK},
		{"V0 z z z z z z z z", []string{"f z"}, "", api.ErrLong},
		{"V100000 V1", []string{"z"}, "V100000 V1", api.OK},
	} {
		var list []api.Term
		for _, s := range x.list {
			list = append(list, read(t, s))
		}
		y, e := term.Put(read(t, x.t), list)
		expect(t, "Put of "+x.t, y, e, x.want, x.e)
	}
	many := slices.Repeat([]api.Term{con("z")}, 2001)
	many[1999] = con("c")
	y, e := term.Put(read(t, "f V1999 V2000"), many[:2000])
	expect(t, "Put of 2000 terms", y, e, "f c V2000", api.OK)
	y, e = term.Put(read(t, "z"), many)
	expect(t, "Put of 2001 terms", y, e, "", api.ErrLong)
	many[0] = api.Term{}
	y, e = term.Put(read(t, "z"), many)
	expect(t, "Put of 2001 terms, one of them none", y, e, "", api.ErrLong)
	y, e = term.Put(read(t, "z"), many[:2000])
	expect(t, "Put of what is no term", y, e, "", api.ErrForm)
	y, e = term.Put(api.Term{}, many)
	expect(t, "Put into no term", y, e, "", api.ErrForm)
	many[0] = ofDepth(101)
	y, e = term.Put(read(t, "z"), many[:1])
	expect(t, "Put of what is too deep", y, e, "", api.ErrDeep)
}

// joined is a term with some terms in it, in order, with few levels.
func joined(list []api.Term) api.Term {
	if len(list) <= 8 {
		return con("f", list...)
	}
	t := con("f")
	for left := 8; left > 0; left-- {
		part := (len(list) + left - 1) / left
		t.Args = append(t.Args, joined(list[:part]))
		list = list[part:]
	}
	return t
}

// turns is a term in which a variable stands n times with the Args z, 60 of them one within the other at most.
func turns(v, n, args int) api.Term {
	var list []api.Term
	for n > 0 {
		x := con("z")
		for k := 0; k < 60 && n > 0; k++ {
			x = variable(v, append([]api.Term{x}, slices.Repeat([]api.Term{con("z")}, args-1)...)...)
			n--
		}
		list = append(list, x)
	}
	return joined(list)
}

// contracted has terms for some variables.
func contracted(t *testing.T) []api.Term {
	nested := bound(0)
	for range 50 {
		nested = bound(0, nested)
	}
	list := []api.Term{
		lam(bound(0)), // 0: one contraction
		con("f", slices.Repeat([]api.Term{con("z")}, 8)...), // 1: no more Args
		lam(con("f", ofSize(3996), bound(0), bound(0))),     // 2: too large with anything but a single node
		read(t, `\ . \ . B1`),                               // 3: two contractions with two Args
		lam(nested),                                         // 4: 51 contractions with a lambda that has one
		read(t, `\ . z`),                                    // 5: drops its Arg
		lam(lam(bound(0, ofBound(100, 1)))),                 // 6: too large between its two contractions
		lam(lam(bound(1, ofBound(100, 0)))),                 // 7: not so
		ofSize(4000),                                        // 8
		lams(1, chain(90, bound(0))),                        // 9: 90 levels more
		read(t, `\ . \ . B1`),                               // 10: raises N
		bound(100000),                                       // 11
	}
	return list
}

// ofBound is a term with n times a bound variable, and a few nodes more.
func ofBound(n, v int) api.Term { return joined(slices.Repeat([]api.Term{bound(v)}, n)) }

// chain is a term with n constants around another one.
func chain(n int, t api.Term) api.Term {
	for range n {
		t = con("s", t)
	}
	return t
}

// P4.1: as many contractions as are allowed, and one more; the first error that occurs; what is dropped again.
func TestContractions(t *testing.T) {
	z, two := con("z"), con("s", con("z"))
	once, full, big := variable(0, z), variable(1, z), variable(2, two)
	most := turns(0, 2000, 1)
	nested := slices.Repeat([]api.Term{variable(4, variable(0))}, 39) // 1989 contractions
	drop := variable(5)
	for _, x := range []struct {
		what string
		t    api.Term
		e    api.Errno
	}{
		{"2000 contractions", most, api.OK},
		{"2001 contractions", turns(0, 2001, 1), api.ErrFuel},
		{"2000 contractions and one", con("f", most, once), api.ErrFuel},
		{"one and 2000 contractions", con("f", once, most), api.ErrFuel},
		{"one around 2000 contractions", variable(0, most), api.ErrFuel},
		{"one that drops 2000 contractions", variable(5, most), api.ErrFuel},
		{"2000 contractions by twos", turns(3, 1000, 2), api.OK},
		{"2000 contractions by twos, and one", con("f", turns(3, 1000, 2), once), api.ErrFuel},
		{"2002 contractions by twos", turns(3, 1001, 2), api.ErrFuel},
		{"1998 contractions by twos, and two", con("f", turns(3, 999, 2), turns(0, 2, 1)), api.OK},
		{"2000 contractions within others", joined(append(nested, turns(0, 11, 1))), api.OK},
		{"2001 contractions within others", joined(append(nested, turns(0, 12, 1))), api.ErrFuel},
		{"contractions within others behind some", joined(append([]api.Term{turns(0, 12, 1)}, nested...)), api.ErrFuel},
		{"2000, then too many Args", con("f", most, full), api.ErrLong},
		{"too many, then too many Args", con("f", most, once, full), api.ErrFuel},
		{"too many Args, then too many", con("f", full, most, once), api.ErrLong},
		{"2000, then one too large", con("f", most, big), api.ErrFuel},
		{"too large, then too many", con("f", big, most, once), api.ErrLong},
		{"1999, then one too large", con("f", turns(0, 1999, 1), big), api.ErrLong},
		{"one that is almost too large", variable(2, z), api.OK},
		{"one that is too large", big, api.ErrLong},
		{"one that is too large, and dropped", variable(5, big), api.ErrLong},
		{"one that is too large, and is applied", variable(6, ofSize(50), drop), api.ErrLong},
		{"one that is large behind what drops", variable(7, drop, ofSize(50)), api.OK},
		{"one that would be too large if it were no Arg", variable(5, con("f", slices.Repeat([]api.Term{variable(8)}, 8)...)), api.OK},
		{"what is too large, and not dropped", con("f", variable(8)), api.ErrLong},
		{"what is as large as it may be", variable(8), api.OK},
		{"too deep", variable(9, chain(9, z)), api.OK},
		{"90 levels more", variable(9, chain(10, z)), api.ErrDeep},
		{"too deep, and dropped", variable(5, variable(9, variable(9, variable(9, z)))), api.OK},
		{"too deep, and too large", con("f", variable(9, chain(10, z)), variable(8)), api.ErrLong},
		{"an N that is too great", variable(10, bound(100000)), api.ErrLong},
		{"an N that is the greatest one", variable(10, bound(99999)), api.OK},
		{"an N that is too great, and dropped", variable(5, variable(10, bound(100000))), api.ErrLong},
		{"one that would be if it were no Arg", variable(5, lam(variable(11))), api.OK},
		{"an N that is too great by itself", lam(variable(11)), api.ErrLong},
	} {
		list := contracted(t)
		if e := rawErrorOf(x.t); e != api.OK {
			t.Fatalf("%v: no raw term, %v", x.what, e)
		}
		y, e := term.Put(x.t, list)
		if e != x.e || e == api.OK && rawErrorOf(y) != api.OK || e != api.OK && !reflect.DeepEqual(y, api.Term{}) {
			t.Errorf("%v: %v; expected %v", x.what, e, x.e)
		}
		want, err, known := copied(func(c *copier) api.Term { return c.put(x.t, list, 0) })
		if !known || err != e || !reflect.DeepEqual(want, y) {
			t.Errorf("%v: %v by copying, %v", x.what, err, known)
		}
	}
}

// P4.1: substitutions of all kinds, held against those by copying.
func TestSubstAll(t *testing.T) {
	m := newMaker(4)
	found := map[string]int{}
	for k := range 15000 {
		x, s := m.raw(m.Intn(6), 1), m.lambda(m.Intn(4))
		if k%10 == 0 {
			x, s = m.tower()
		}
		list := []api.Term{s, m.raw(2, 1), m.lambda(2)}[:m.Intn(4)]
		if m.Intn(4) == 0 {
			s = m.raw(3, 1)
		}
		if rawErrorOf(x)+rawErrorOf(s) != api.OK {
			continue
		}
		for name, call := range map[string][2]func(c *copier) (api.Term, api.Errno){
			"Subst": {
				func(*copier) (api.Term, api.Errno) { return term.Subst(x, s) },
				func(c *copier) (api.Term, api.Errno) { return c.subst(x, s, 0), api.OK },
			},
			"Apply": {
				func(*copier) (api.Term, api.Errno) { return term.Apply(s, append(list, x)) },
				func(c *copier) (api.Term, api.Errno) { return c.apply(s, append(list, x)), api.OK },
			},
			"Put": {
				func(*copier) (api.Term, api.Errno) { return term.Put(x, list) },
				func(c *copier) (api.Term, api.Errno) { return c.put(x, list, 0), api.OK },
			},
		} {
			want, err, known := copied(func(c *copier) api.Term { t, _ := call[1](c); return t })
			if !known {
				found["unknown"]++
				continue
			}
			y, e := call[0](nil)
			if e != err || !same(y, want) {
				t.Fatalf("%v of %v, %v, %v = %v, %v; expected %v, %v", name, textOf(x), textOf(s), list, y, e, want, err)
			}
			found[[]string{"ok", "", "long", "", "fuel", "deep"}[e]]++
		}
	}
	if found["ok"] < 30000 || found["long"] < 150 || found["fuel"] < 300 || found["deep"] < 100 || found["unknown"] > found["fuel"] {
		t.Errorf("too few of a kind: %v", found)
	}
}

// P1, P4.1: what is substituted may be larger than any memory, as long as it is no result; it may be dropped, or the contractions may be too many first.
func TestHuge(t *testing.T) {
	wide := joined(slices.Repeat([]api.Term{variable(0)}, 3000))
	numeral := bound(0)
	for range 60 {
		numeral = bound(1, numeral)
	}
	numeral = lams(2, numeral) // applies its first Arg 60 times
	self := lam(bound(0, bound(0)))
	step := lam(con("g", bound(0)))
	put := func(x api.Term, list ...api.Term) func() (api.Term, api.Errno) {
		return func() (api.Term, api.Errno) { return term.Put(x, list) }
	}
	for what, x := range map[string]struct {
		call func() (api.Term, api.Errno)
		e    api.Errno
	}{
		"many times what is large":                {put(wide, ofSize(4000)), api.ErrLong},
		"that, dropped":                           {put(variable(1, wide), ofSize(4000), read(t, `\ . z`)), api.OK},
		"that, and then too many contractions":    {put(con("f", wide, variable(1, variable(1))), ofSize(4000), self), api.ErrFuel},
		"2000 contractions, each below 3600 s":    {put(variable(1, lam(variable(0, variable(0, step), bound(0, bound(0))))), numeral, self), api.ErrFuel},
		"3600 levels":                             {put(variable(0, variable(0, step), con("z")), numeral), api.ErrDeep},
		"300 terms of 4000 nodes":                 {put(joined(slices.Collect(variables(300))), slices.Repeat([]api.Term{ofSize(4000)}, 300)...), api.ErrLong},
		"a term that shares, put many times":      {put(wide, shared(10)), api.ErrLong},
		"a lambda of a large term, many times":    {put(joined(slices.Repeat([]api.Term{variable(0, con("z"))}, 1500)), lam(ofSize(3900))), api.ErrLong},
		"what is large, contracted to a variable": {put(joined(slices.Repeat([]api.Term{variable(0, variable(1))}, 1500)), lam(bound(1)), ofSize(4000)), api.OK},
	} {
		y, e := x.call()
		if e != x.e || (e == api.OK) != (rawErrorOf(y) == api.OK) {
			t.Errorf("%v: %v; expected %v", what, e, x.e)
		}
	}
}

// P4.1: an Arg that is twice as large in each step, once with its free variables raised: as by copying, as far as that can be done.
func TestGrowing(t *testing.T) {
	for _, end := range []string{"z", "P0", "B0", "B1", "B2", "B7", "B20", "B100"} {
		known := 0
		for steps := range 31 {
			body := end
			for range steps {
				body = `\ . f B1 ( \ . B2 ) ( B0 ( ` + body + ` ) )`
			}
			x, s := bound(0, bound(0)), read(t, `\ . B0 ( `+body+` )`)
			y, e := term.Subst(x, s)
			if e == api.OK && rawErrorOf(y) != api.OK {
				t.Errorf("%v steps: %v", steps, y)
			}
			if steps != known {
				continue // too much for copying
			}
			want, err, is := copied(func(c *copier) api.Term { return c.subst(x, s, 0) })
			if is {
				known++
			}
			if is && (err != e || !same(y, want)) {
				t.Errorf("%v steps to %v: %v; expected %v", steps, end, e, err)
			}
		}
		if known == 0 {
			t.Errorf("nothing is known of %v", end)
		}
	}
}

// variables yields the first n variables.
func variables(n int) func(yield func(api.Term) bool) {
	return func(yield func(api.Term) bool) {
		for i := range n {
			if !yield(variable(i)) {
				return
			}
		}
	}
}

// P4.1: bound variables and parameters that are raised.
func TestShiftLift(t *testing.T) {
	for _, x := range []struct {
		lift     bool
		t        string
		by, from int
		want     string
		e        api.Errno
	}{
		{false, "f B0 B1 B5", 2, 1, "f B0 B3 B7", api.OK},
		{false, `\ . f B0 B1 ( \ . B0 B1 B2 B3 )`, 3, 1, `\ . f B0 B1 ( \ . B0 B1 B2 B6 )`, api.OK},
		{false, "B1 ( B2 B0 )", 1, 2, "B1 ( B3 B0 )", api.OK},
		{false, "f P1 V1 B1", 5, 0, "f P1 V1 B6", api.OK},
		{false, "f B100000", 0, 0, "f B100000", api.OK},
		{false, "f B99999", 1, 0, "f B100000", api.OK},
		{false, "f B99999", 2, 0, "", api.ErrLong},
		{false, "f B99999", 100000, 100000, "f B99999", api.OK},
		{false, `\ . B0 B100000`, 1, 99999, "", api.ErrLong},
		{false, `\ . B0 B100000`, 1, 100000, `\ . B0 B100000`, api.OK},
		{false, "B0", 100000, 0, "B100000", api.OK},
		{false, "B0", 100001, 0, "", api.ErrArg},
		{false, "z", -1, 0, "", api.ErrArg},
		{false, "z", 0, -1, "", api.ErrArg},
		{false, "z", 0, 100001, "", api.ErrArg},
		{false, "B100000", 1, 100001, "", api.ErrArg},
		{false, "z", -1 << 63, 1<<63 - 1, "", api.ErrArg},
		{true, "f P0 P1 P5 B1 V1", 2, 1, "f P0 P3 P7 B1 V1", api.OK},
		{true, `\ . P1 ( \ . P0 P2 ) B5`, 1, 0, `\ . P2 ( \ . P1 P3 ) B5`, api.OK},
		{true, "P1 ( P2 P0 )", 1, 2, "P1 ( P3 P0 )", api.OK},
		{true, "P99999", 1, 0, "P100000", api.OK},
		{true, "P99999", 2, 0, "", api.ErrLong},
		{true, "P99999", 2, 100000, "P99999", api.OK},
		{true, "P0", 100001, 0, "", api.ErrArg},
		{true, "z", -1, 0, "", api.ErrArg},
		{true, "z", 0, -1, "", api.ErrArg},
		{true, "z", 1, 100001, "", api.ErrArg},
	} {
		move := term.Shift
		if x.lift {
			move = term.Lift
		}
		y, e := move(read(t, x.t), x.by, x.from)
		expect(t, x.t, y, e, x.want, x.e)
	}
	m := newMaker(5)
	for range 20000 {
		x, by, from := m.raw(m.Intn(5), 1), m.Intn(4), m.Intn(4)
		y, e := term.Shift(x, by, from)
		want, err, _ := copied(func(c *copier) api.Term { return c.raised(x, by, from) })
		if e != err || !same(y, want) {
			t.Fatalf("Shift(%v, %v, %v) = %v, %v; expected %v, %v", textOf(x), by, from, y, e, want, err)
		}
	}
}

// P4.1: the eta-long forms of heads.
func TestEta(t *testing.T) {
	one := fn(nat, nat)
	for _, x := range []struct {
		head string
		ty   api.Type
		want string
		e    api.Errno
	}{
		{"z", nat, "z", api.OK},
		{"s", one, `\ . s B0`, api.OK},
		{"f", fn(nat, thing, nat), `\ . \ . f B1 B0`, api.OK},
		{"B0", fn(nat, thing, nat), `\ . \ . B2 B1 B0`, api.OK},
		{"B3", nat, "B3", api.OK},
		{"V7", one, `\ . V7 B0`, api.OK},
		{"P1", fn(one, nat, nat), `\ . \ . P1 ( \ . B2 B0 ) B0`, api.OK},
		{"lam", fn(fn(fn(nat, nat), nat), nat), `\ . lam ( \ . B1 ( \ . B1 B0 ) )`, api.OK},
		{"h", fn(base("j"), base("")), `\ . h B0`, api.OK},
		{"f z", nat, "", api.ErrForm},
		{`\ . z`, nat, "", api.ErrForm},
		{"f z", base("->"), "", api.ErrForm},
		{"f", base("->"), "", api.ErrForm},
		{"f", api.Type{Name: "i", Args: []api.Type{nat}}, "", api.ErrForm},
		{"f", fn(slices.Repeat([]api.Type{nat}, 101)...), "", api.ErrDeep},
		{"f", sharedType(11), "", api.ErrLong},
		{"f", endlessType(1), "", api.ErrDeep},
		{"f", fn(slices.Repeat([]api.Type{nat}, 9)...), `\ . \ . \ . \ . \ . \ . \ . \ . f B7 B6 B5 B4 B3 B2 B1 B0`, api.OK},
		{"f", fn(slices.Repeat([]api.Type{nat}, 10)...), "", api.ErrLong},
		{"f", fn(fn(slices.Repeat([]api.Type{nat}, 10)...), nat), "", api.ErrLong},
		{"f", fn(nat, fn(fn(fn(slices.Repeat([]api.Type{nat}, 10)...), nat), nat), nat), "", api.ErrLong},
		{"B99999", one, `\ . B100000 B0`, api.OK},
		{"B99999", fn(nat, nat, nat), "", api.ErrLong},
		{"P100000", fn(nat, nat, nat), `\ . \ . P100000 B1 B0`, api.OK},
		{"B100000", nat, "B100000", api.OK},
		{"B100000", one, "", api.ErrLong},
	} {
		y, e := term.Eta(read(t, x.head), x.ty)
		expect(t, x.head, y, e, x.want, x.e)
	}
	// A type with n levels, each one the first argument of the next one, has a form with 2 n - 1 levels.
	ty := nat
	for n := 2; n <= 60; n++ {
		ty = fn(ty, nat)
		y, e := term.Eta(con("c"), ty)
		if e != choose(2*n-1 > 100, api.ErrDeep, api.OK) || e == api.OK && (term.Depth(y) != 2*n-1 || term.Size(y) != 2*n-1) {
			t.Errorf("%v levels: %v, %v", n, term.Depth(y), e)
		}
	}
	if _, e := term.Eta(bound(100000), ty); e != api.ErrLong {
		t.Errorf("an N that is too great, and too many levels: %v", e)
	}
	if _, e := term.Eta(con("c"), sharedType(9)); e != api.ErrLong {
		t.Errorf("9 arguments, and 8 of the first one: %v", e)
	}
	most := fn(fn(fn(nat, nat, nat), nat), nat)
	for range 4 {
		most = fn(most, most, most, nat)
	}
	most = fn(slices.Concat(slices.Repeat([]api.Type{sharedType(8)}, 4), []api.Type{most})...)
	y, e := term.Eta(con("c"), most)
	if e != api.OK || term.Size(y) != len(slices.Concat(levels(most, typesIn)...)) {
		t.Errorf("Eta of a large type: %v, %v", term.Size(y), e)
	}
}

// same compares terms by all that is in them, however their lists are kept.
func same(a, b api.Term) bool {
	return a.Kind == b.Kind && a.N == b.N && a.Name == b.Name && slices.EqualFunc(a.Args, b.Args, same)
}
