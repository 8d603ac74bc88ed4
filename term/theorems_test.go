package term_test

import (
	"cmp"
	"slices"
	"strings"
	"testing"

	"peculium/api"
	"peculium/lex"
	"peculium/term"
)

// inScope is a scope with further bound variables, the last one of them the innermost one.
func inScope(s api.Scope, inner ...api.Type) api.Scope {
	s.Bound = slices.Concat(s.Bound, inner)
	return s
}

// done fails unless a call has a result; it reports whether the result has no error.
func done(t *testing.T, e api.Errno) bool {
	t.Helper()
	if e != api.OK && e != api.ErrLong && e != api.ErrDeep && e != api.ErrFuel {
		t.Fatalf("the error %v", e)
	}
	return e == api.OK
}

func expectTyped(t *testing.T, what string, p api.Program, s api.Scope, x api.Term, ty api.Type) {
	t.Helper()
	if e := term.Typed(p, s, x, ty); e != api.OK {
		t.Fatalf("%v: %v in %v is not canonical of %v: %v", what, textOf(x), s, ty, e)
	}
}

// P4.2: what is substituted in a canonical term is canonical, of the same type.
func TestTypesStay(t *testing.T) {
	p, m := program(), newMaker(11)
	results := 0
	for range 6000 {
		s, of, ty := m.scope(), pick(m, someTypes()), pick(m, someTypes())
		x, y := m.typed(p, inScope(s, of), ty, 4), m.typed(p, s, of, 3)
		if got, e := term.Subst(x, y); done(t, e) {
			expectTyped(t, "Subst", p, s, got, ty)
			results++
		}

		list := m.types(4)
		whole := m.typed(p, s, fn(append(list, ty)...), 4)
		var args []api.Term
		for _, a := range list {
			args = append(args, m.typed(p, s, a, 3))
		}
		for k := range len(list) + 1 {
			if got, e := term.Apply(whole, args[:k]); done(t, e) {
				expectTyped(t, "Apply", p, s, got, fn(append(slices.Clone(list[k:]), ty)...))
				results++
			}
		}

		into := s
		into.Vars = m.types(4)
		x = m.typed(p, into, ty, 4)
		var values []api.Term
		for _, v := range into.Vars {
			values = append(values, m.typed(p, s, v, 3))
		}
		if got, e := term.Put(x, values); done(t, e) {
			expectTyped(t, "Put", p, s, got, ty)
			results++
		}
	}
	if results < 20000 {
		t.Errorf("only %v results", results)
	}
}

// P4.3: two substitutions, in both orders.
func TestOrderOfSubstitutions(t *testing.T) {
	p, m := program(), newMaker(12)
	results := 0
	for range 8000 {
		s, a, b, ty := m.scope(), pick(m, someTypes()), pick(m, someTypes()), pick(m, someTypes())
		x, y, u := m.typed(p, inScope(s, a, b), ty, 4), m.typed(p, inScope(s, a), b, 3), m.typed(p, s, a, 3)
		first, e1 := term.Subst(x, y)
		want, e2 := term.Subst(first, u)
		// Below a lambda, the variable 1 is the innermost one of what is around.
		below, e3 := term.Subst(lam(x), u)
		inner, e4 := term.Subst(y, u)
		if !(done(t, e1) && done(t, e3) && done(t, e4)) {
			continue
		}
		got, e5 := term.Subst(below.Args[0], inner)
		if e2 != api.OK || e5 != api.OK {
			continue
		}
		if !term.Same(got, want) || !same(got, want) {
			t.Fatalf("%v, with %v and %v: %v and %v", textOf(x), textOf(y), textOf(u), textOf(got), textOf(want))
		}
		results++
	}
	if results < 6000 {
		t.Errorf("only %v results", results)
	}
}

// P4.4: eta-long forms are canonical, and in place of a bound variable they rename it.
func TestEtaTypes(t *testing.T) {
	p, m := program(), newMaker(13)
	for range 3000 {
		s := m.scope()
		ty := pick(m, someTypes())
		at := m.Intn(len(s.Bound) + 1)
		s.Bound = slices.Insert(s.Bound, len(s.Bound)-at, ty) // the bound variable at
		s.Pars, s.Vars = append(s.Pars, ty), append(s.Vars, ty)
		for _, head := range []api.Term{bound(at), par(len(s.Pars) - 1), variable(len(s.Vars) - 1)} {
			x, e := term.Eta(head, ty)
			if e != api.OK {
				t.Fatalf("Eta(%v, %v): %v", head, ty, e)
			}
			expectTyped(t, "Eta", p, s, x, ty)
		}
		eta, _ := term.Eta(bound(at), ty)
		of := pick(m, someTypes())
		x := m.typed(p, inScope(s, ty), of, 4)
		want := renamed(x, 0, at)
		if got, e := term.Subst(x, eta); e != api.OK || !same(got, want) {
			t.Fatalf("Subst of %v by %v = %v, %v; expected %v", textOf(x), textOf(eta), got, e, textOf(want))
		}
	}
	for _, c := range p.Consts {
		x, e := term.Eta(con(c.Name), c.Type)
		if e != api.OK {
			t.Errorf("Eta of %v: %v", c.Name, e)
		}
		expectTyped(t, "Eta", p, api.Scope{}, x, c.Type)
	}
}

// renamed is a term in which the bound variable k, which is no longer there, is the one that was k + 1 + at.
func renamed(t api.Term, k, at int) api.Term {
	out := api.Term{Kind: t.Kind, N: t.N, Name: t.Name}
	switch {
	case t.Kind == api.TmBound && t.N == k:
		out.N = k + at
	case t.Kind == api.TmBound && t.N > k:
		out.N--
	case t.Kind == api.TmLam:
		k++
	}
	for _, x := range t.Args {
		out.Args = append(out.Args, renamed(x, k, at))
	}
	return out
}

// P4.5: what is shifted has no variable 0, and shifts add up.
func TestShifts(t *testing.T) {
	m := newMaker(14)
	for range 20000 {
		x, s, a, b := m.raw(m.Intn(5), 1), m.lambda(2), m.Intn(5), m.Intn(5)
		if rawErrorOf(s) != api.OK {
			continue
		}
		if up, e := term.Shift(x, 1, 0); e == api.OK {
			if got, e := term.Subst(up, s); e != api.OK || !same(got, x) {
				t.Fatalf("Subst of %v by %v = %v, %v", textOf(up), textOf(s), got, e)
			}
		} else if e != api.ErrLong {
			t.Fatalf("Shift(%v): %v", textOf(x), e)
		}
		for _, move := range []func(api.Term, int, int) (api.Term, api.Errno){term.Shift, term.Lift} {
			once, e1 := move(x, a, 0)
			twice, e2 := move(once, b, 0)
			want, e3 := move(x, a+b, 0)
			if e3 == api.OK && (e1 != api.OK || e2 != api.OK || !same(twice, want)) {
				t.Fatalf("%v by %v and %v: %v, %v", textOf(x), a, b, twice, want)
			}
		}
	}
}

// orderTerms are terms that differ in each way, and some that do not.
func orderTerms() []api.Term {
	list := []api.Term{{}, {Kind: 9}, con("all"), ofDepth(101), ofSize(4001)}
	for _, s := range strings.Fields("z a aa a' aA b a@b s") {
		list = append(list, con(s), con(s, con("z")), con(s, con("z"), con("a")))
	}
	for _, n := range []int{0, 1, 2, 9, 10, 99999, 100000} {
		list = append(list, bound(n), par(n), variable(n), bound(n, con("z")), par(n, bound(n)), variable(n, con("z"), con("z")))
	}
	m := newMaker(15)
	for range 60 {
		list = append(list, m.raw(3, 0), m.anything(2))
	}
	for i := range 20 {
		list = append(list, lam(list[8*i]), con("f", con("z"), list[7*i], con("z")))
	}
	return list
}

// P4.6, P4.1: an order in which just those terms are equal that are the same.
func TestOrder(t *testing.T) {
	list := orderTerms()
	for _, a := range list {
		for _, b := range list {
			isA, isB := rawErrorOf(a) == api.OK, rawErrorOf(b) == api.OK
			want := 0
			switch {
			case isA && isB:
				want = cmp.Compare(orderKey(a), orderKey(b))
			case isA:
				want = 1
			case isB:
				want = -1
			}
			if got := term.Compare(a, b); got != want || term.Compare(b, a) != -want {
				t.Fatalf("Compare(%v, %v) = %v; expected %v", a, b, got, want)
			}
			if got := term.Same(a, b); got != (isA && isB && same(a, b)) || isA && isB && got != (want == 0) {
				t.Fatalf("Same(%v, %v) = %v", a, b, got)
			}
		}
	}
	slices.SortFunc(list, term.Compare)
	for i := range list {
		for k := range i {
			if term.Compare(list[k], list[i]) > 0 {
				t.Fatalf("%v stands ahead of %v", list[k], list[i])
			}
		}
	}
	empty := con("z")
	empty.Args = []api.Term{}
	if !term.Same(empty, con("z")) {
		t.Error("an empty list is another one")
	}
}

// P4.7: a text is read as its term, and written as a text that is read as the same term.
func TestTexts(t *testing.T) {
	m := newMaker(16)
	expectBack := func(x api.Term) {
		t.Helper()
		text := term.Text(x)
		if text == "" {
			t.Fatalf("no text of %v", x)
		}
		if got, at, e := term.Read(text); e != api.OK || at != 0 || !same(got, x) {
			t.Fatalf("Read(%.80q) = %v, %v", text, at, e)
		}
	}
	for range 2000 {
		x := m.raw(m.Intn(6), 1)
		if len(textOf(x)) < 8000 {
			expectBack(x)
		}
		text := m.loosely(x, false)
		if y, _, e := term.Read(text); e == api.OK && len(text) <= 10000 {
			expectBack(y)
		}
	}
	for _, x := range []api.Term{ofDepth(100), ofSize(4000), lams(99, con("z")), chain(99, con("z"))} {
		expectBack(x)
	}
	// Of a text without blanks there are the most bytes more.
	for _, part := range []string{`(\.z)`, "(s z)", "z ", "(z)", `(\.(\.(z)))`, "(" + strings.Repeat("a", 40) + " z)", "B100000 "} {
		for count := 1; count < 2000; count += 37 {
			list, _, _ := lex.Scan(part)
			text := tight(slices.Repeat([]string{lex.Tight(list)}, count))
			if len(text) > 10000 {
				break
			}
			y, _, e := term.Read(text)
			if e == api.OK {
				expectBack(y)
			} else if e != api.ErrLong {
				t.Fatalf("Read(%.80q): %v", text, e)
			}
		}
	}
}

// tight joins texts of Args to one of a term, with few blanks.
func tight(parts []string) string {
	for len(parts) > 8 {
		var next []string
		for list := range slices.Chunk(parts, 8) {
			next = append(next, "(f "+strings.Join(list, " ")+")")
		}
		parts = next
	}
	return "f " + strings.Join(parts, " ")
}

// P4.8: a term with a head is of one type at most, and it stays canonical in a larger scope.
func TestOneType(t *testing.T) {
	p, m := program(), newMaker(17)
	heads := 0
	for range 8000 {
		s, ty := m.scope(), pick(m, someTypes())
		x := m.typed(p, s, ty, 4)
		if m.Intn(2) == 0 {
			x = m.raw(2, len(s.Bound))
		}
		more := api.Scope{Vars: slices.Concat(s.Vars, m.types(3)), Pars: slices.Concat(s.Pars, m.types(3)), Bound: slices.Concat(m.types(3), s.Bound)}
		count := 0
		for _, of := range append(someTypes(), fn(thing, thing), fn(fn(nat, thing), thing)) {
			if term.Typed(p, s, x, of) != api.OK {
				continue
			}
			count++
			expectTyped(t, "a larger scope", p, more, x, of)
		}
		if x.Kind != api.TmLam && count > 1 {
			t.Fatalf("%v is of %v types", textOf(x), count)
		}
		if x.Kind != api.TmLam && count == 1 {
			heads++
		}
	}
	if heads < 1000 {
		t.Errorf("only %v terms with a head", heads)
	}
}
