package unify_test

import (
	"reflect"
	"slices"
	"testing"

	"peculium/api"
	"peculium/term"
	"peculium/unify"
)

// solved is Unify of terms that are small enough for it to have no error. What it returns is checked.
func solved(t *testing.T, s api.Store, a, b api.Term) (api.Store, bool) {
	t.Helper()
	r, is, err := unify.Unify(s, a, b)
	switch {
	case err != api.OK:
		t.Fatalf("Unify(%v, %v, %v): the error %v", s, term.Text(a), term.Text(b), err)
	case !is && !sameStore(r, s):
		t.Fatalf("Unify(%v, %v, %v) = %v, false", s, term.Text(a), term.Text(b), r)
	case is:
		checkSolution(t, s, r, a, b)
	}
	return r, is
}

// solvedTyped is solved of terms of a maker: all variables are applied to arguments of their types.
func solvedTyped(t *testing.T, s api.Store, a, b api.Term) (api.Store, bool) {
	t.Helper()
	r, is := solved(t, s, a, b)
	if !areTyped(s) || !areTyped(r) {
		t.Fatalf("Unify(%v, %v, %v) = %v, with other types", s, term.Text(a), term.Text(b), r)
	}
	return r, is
}

// checkSolution checks that a store is a solution without idle arguments, by the package's functions and by words.
func checkSolution(t *testing.T, s, r api.Store, a, b api.Term) {
	t.Helper()
	checked, by := unify.Check(r), errorOf(r)
	extends, e := unify.Extends(s, r)
	solves, f := unify.Solves(r, a, b)
	switch {
	case checked != api.OK || by != api.OK:
		t.Fatalf("Unify(%v, %v, %v) = %v, which is not valid: %v, %v", s, term.Text(a), term.Text(b), r, checked, by)
	case !extends || e != api.OK || !extendsIt(s, r):
		t.Fatalf("Unify(%v, %v, %v) = %v, which does not extend the store: %v", s, term.Text(a), term.Text(b), r, e)
	case !solves || f != api.OK || !solvesIt(r, a, b):
		t.Fatalf("Unify(%v, %v, %v) = %v, which does not solve them: %v", s, term.Text(a), term.Text(b), r, f)
	case isIdle(r, len(s.Vals)):
		t.Fatalf("Unify(%v, %v, %v) = %v, with an argument that is idle", s, term.Text(a), term.Text(b), r)
	}
	for v, x := range r.Vals[:len(s.Vals)] {
		if y := s.Vals[v]; y.Is && !sameTerm(x.T, y.T) {
			t.Fatalf("Unify(%v, %v, %v) = %v, with another value", s, term.Text(a), term.Text(b), r)
		}
	}
}

// sameStore reports whether two stores are equal; nil and empty lists are the same.
func sameStore(a, b api.Store) bool {
	return slices.EqualFunc(a.Vals, b.Vals, sameVal)
}

func sameVal(x, y api.Val) bool {
	return x.Level == y.Level && x.Is == y.Is && reflect.DeepEqual(x.Type, y.Type) && sameTerm(x.T, y.T)
}

func sameTerm(a, b api.Term) bool {
	return a.Kind == b.Kind && a.N == b.N && a.Name == b.Name && slices.EqualFunc(a.Args, b.Args, sameTerm)
}

// least is Least of the first n variables of a store.
func least(t *testing.T, s api.Store, n int) ([]api.Term, []api.Type) {
	t.Helper()
	l, types, err := unify.Least(s, pars, etas(s, n))
	if err != api.OK {
		t.Fatalf("Least of %v: %v", s, err)
	}
	// The parameters are variables of a store with these types.
	var by api.Store
	for _, ty := range types {
		by.Vals = append(by.Vals, api.Val{Type: ty})
	}
	for v, x := range l {
		body := asVariables(x)
		for range arity(s.Vals[v].Type) {
			body = body.Args[0]
		}
		if areTyped(s) && !isTyped(by, body, argTypes(s.Vals[v])) {
			t.Fatalf("Least by %v: %v: other types: %v", s, texts(l), types)
		}
	}
	return l, types
}

// asVariables is a term in which the parameters from pars on are variables.
func asVariables(t api.Term) api.Term {
	if t.Kind == api.TmPar && t.N >= pars {
		t.Kind, t.N = api.TmVar, t.N-pars
	}
	var list []api.Term
	for _, x := range t.Args {
		list = append(list, asVariables(x))
	}
	t.Args = list
	return t
}

// isLess reports whether Least of the first n variables by a store comes of Least by another one, by Instance and by words.
func isLess(t *testing.T, most, less api.Store, n int) bool {
	t.Helper()
	l, _ := least(t, most, n)
	m, _ := least(t, less, n)
	is, err := unify.Instance(pars, l, m)
	if want := isInstance(pars, l, m); err != api.OK || is != want {
		t.Fatalf("Instance(%v; %v) = %v, %v; expected %v", texts(l), texts(m), is, err, want)
	}
	return is
}

// pair makes two terms that come of one term if variables get values, and a store with these values; ahead of it the store without them.
func (m maker) pair() (s, by api.Store, a, b api.Term) {
	found := map[int]api.Term{}
	s, list := m.solvable(2, found)
	return s, with(s, found), list[0], list[1]
}

// around are the types of the variables of the lambdas around the terms of a maker.
var around = []string{"i", "j"}

// solvable makes a store, and n terms of which each two that follow each other are made equal by the values that found gets.
func (m maker) solvable(n int, found map[int]api.Term) (api.Store, []api.Term) {
	s := m.valued(m.store(4))
	var list []api.Term
	for range n / 2 {
		t := m.term(api.Store{}, pars, around, 4)
		for range 2 {
			list = append(list, lams(len(around), m.disguise(s, t, found, pars, around, 2)))
		}
	}
	return m.given(s, found), list
}

// random makes two terms, of which it is not known whether they can be made equal.
func (m maker) random() (s api.Store, a, b api.Term) {
	s = m.valued(m.store(3))
	scope := around[:m.Intn(len(around))]
	return s, lams(len(scope), m.term(s, pars, scope, 2)), lams(len(scope), m.term(s, pars, scope, 2))
}

// P5.2: what can be solved is solved, most generally. The solution by which the terms were made is one of what is found.
func TestMostGeneral(t *testing.T) {
	kinds := [2]int{}
	testAll(t, 1, 20000, func(t *testing.T, m maker) {
		s, by, a, b := m.pair()
		if !solvesIt(by, a, b) || errorOf(by) != api.OK {
			t.Fatalf("%v, %v are not solved by %v", term.Text(a), term.Text(b), by)
		}
		r, is := solvedTyped(t, s, a, b)
		if !is {
			t.Fatalf("Unify(%v, %v, %v) finds nothing; expected %v", s, term.Text(a), term.Text(b), by)
		}
		if !isLess(t, r, by, len(s.Vals)) {
			t.Fatalf("Unify(%v, %v, %v) = %v is not most general: %v", s, term.Text(a), term.Text(b), r, by)
		}
		if isLess(t, by, r, len(s.Vals)) {
			kinds[0]++
		} else {
			kinds[1]++
		}
	})
	if kinds[0] < 1000 || kinds[1] < 1000 {
		t.Errorf("too few of a kind: %v", kinds)
	}
}

// P5.2: of all solutions with small values each one is one of what is found; where there is one, something is found.
func TestSmallSolutions(t *testing.T) {
	found, none, all := 0, 0, 0
	testAll(t, 2, 3000, func(t *testing.T, m maker) {
		s, a, b := m.random()
		r, is := solvedTyped(t, s, a, b)
		if is {
			found++
		} else {
			none++
		}
		for by := range smallSolutions(s, a, b, 3000) {
			all++
			if !is {
				t.Fatalf("Unify(%v, %v, %v) finds nothing; expected %v", s, term.Text(a), term.Text(b), by)
			}
			if !isLess(t, r, by, len(s.Vals)) {
				t.Fatalf("Unify(%v, %v, %v) = %v is not most general: %v", s, term.Text(a), term.Text(b), r, by)
			}
		}
	})
	if found < 300 || none < 300 || all < 10000 {
		t.Errorf("too few: %v, %v, %v", found, none, all)
	}
}

// P5.3: a and b, b and a.
func TestEitherSide(t *testing.T) {
	found, none := 0, 0
	test := func(t *testing.T, s api.Store, a, b api.Term) {
		r, is := solvedTyped(t, s, a, b)
		q, back := solvedTyped(t, s, b, a)
		if is != back {
			t.Fatalf("Unify(%v, %v, %v): %v, and %v the other way", s, term.Text(a), term.Text(b), is, back)
		}
		if !is {
			none++
			return
		}
		found++
		sameLeast(t, r, q, len(s.Vals))
	}
	testAll(t, 3, 10000, func(t *testing.T, m maker) {
		s, _, a, b := m.pair()
		test(t, s, a, b)
		s, a, b = m.random()
		test(t, s, a, b)
	})
	if found < 10000 || none < 3000 {
		t.Errorf("too few: %v, %v", found, none)
	}
}

// sameLeast checks that two stores have the same Least of the first n variables, also of some of them and in another order, as it is read by words.
func sameLeast(t *testing.T, a, b api.Store, n int) {
	t.Helper()
	k, types := least(t, a, n)
	l, others := least(t, b, n)
	if !slices.EqualFunc(k, l, term.Same) || !reflect.DeepEqual(types, others) {
		t.Fatalf("Least by %v: %v, %v; by %v: %v, %v", a, texts(k), types, b, texts(l), others)
	}
	x, y := etas(a, n), etas(b, n)
	slices.Reverse(x)
	slices.Reverse(y)
	for i := range x {
		if !slices.Equal(leastOf(a, x[i:]), leastOf(b, y[i:])) {
			t.Fatalf("by %v: %v; by %v: %v", a, leastOf(a, x[i:]), b, leastOf(b, y[i:]))
		}
	}
}

// P5.4: what is solved already stays as it is.
func TestAgain(t *testing.T) {
	testAll(t, 4, 10000, func(t *testing.T, m maker) {
		s, _, a, b := m.pair()
		r, is := solvedTyped(t, s, a, b)
		if !is {
			t.Fatalf("Unify(%v, %v, %v) finds nothing", s, term.Text(a), term.Text(b))
		}
		for _, x := range [][2]api.Term{{a, b}, {b, a}, {a, a}, {b, b}} {
			q, again := solvedTyped(t, r, x[0], x[1])
			if !again || !sameStore(q, r) {
				t.Fatalf("Unify(%v, %v, %v) = %v, %v", r, term.Text(x[0]), term.Text(x[1]), q, again)
			}
		}
		s, a, _ = m.random()
		q, again := solvedTyped(t, s, a, a)
		ok, err := unify.Solves(s, a, a)
		if !again || !sameStore(q, s) || !ok || err != api.OK {
			t.Fatalf("Unify(%v, %v) with itself = %v, %v; Solves %v, %v", s, term.Text(a), q, again, ok, err)
		}
	})
}

// P5.5: values of values, and of terms without variables, and the variables of values.
func TestValues(t *testing.T) {
	free := 0
	testAll(t, 5, 20000, func(t *testing.T, m maker) {
		s, a, b := m.random()
		if r, is := solvedTyped(t, s, a, b); is {
			s = r
		}
		x, err := unify.Value(s, a)
		if err != api.OK || valueOf(s, x) != valueOf(s, a) {
			t.Fatalf("Value(%v, %v) = %v, %v", s, term.Text(a), term.Text(x), err)
		}
		if y, again := unify.Value(s, x); again != api.OK || !sameTerm(x, y) {
			t.Fatalf("Value(%v, %v) = %v, %v", s, term.Text(x), term.Text(y), again)
		}
		list, err := unify.Free(s, a)
		if err != api.OK || !slices.Equal(list, term.Vars(x)) || slices.ContainsFunc(list, func(v int) bool { return s.Vals[v].Is }) {
			t.Fatalf("Free(%v, %v) = %v, %v", s, term.Text(a), list, err)
		}
		free += len(list)
		y := m.term(api.Store{}, pars, nil, 5)
		if z, e := unify.Value(s, y); e != api.OK || !sameTerm(y, z) {
			t.Fatalf("Value(%v, %v) = %v, %v", s, term.Text(y), term.Text(z), e)
		}
	})
	if free < 3000 {
		t.Errorf("only %v variables", free)
	}
}

// P5.6: a with b and then c with d, or the other way round.
func TestOneAfterTheOther(t *testing.T) {
	found, none := 0, 0
	test := func(t *testing.T, s api.Store, l []api.Term) {
		first, one := solvedTyped(t, s, l[0], l[1])
		if one {
			first, one = solvedTyped(t, first, l[2], l[3])
		}
		second, two := solvedTyped(t, s, l[2], l[3])
		if two {
			second, two = solvedTyped(t, second, l[0], l[1])
		}
		if one != two {
			t.Fatalf("%v: %v: %v, and %v the other way round", s, texts(l), one, two)
		}
		if !one {
			none++
			return
		}
		found++
		sameLeast(t, first, second, len(s.Vals))
		if isIdle(first, len(s.Vals)) || isIdle(second, len(s.Vals)) {
			t.Fatalf("%v: %v: idle arguments: %v, %v", s, texts(l), first, second)
		}
	}
	testAll(t, 6, 10000, func(t *testing.T, m maker) {
		s, l := m.solvable(4, map[int]api.Term{})
		test(t, s, l)
		s, a, b := m.random()
		test(t, s, []api.Term{a, b, m.closed(s), m.closed(s)})
	})
	if found < 10000 || none < 3000 {
		t.Errorf("too few: %v, %v", found, none)
	}
}

// closed makes a term that fits a store, within lambdas.
func (m maker) closed(s api.Store) api.Term {
	scope := around[:m.Intn(len(around))]
	return lams(len(scope), m.term(s, pars, scope, 1+m.Intn(2)))
}

// P5.7: no value has a parameter from its variable's Level on, also behind further solutions.
func TestScopes(t *testing.T) {
	values := 0
	testAll(t, 7, 4000, func(t *testing.T, m maker) {
		s := m.valued(m.store(4))
		tops := slices.Clone(s.Vals)
		for range 8 {
			r, is := solvedTyped(t, s, m.closed(s), m.closed(s))
			if is {
				s = r
				tops = append(tops, s.Vals[len(tops):]...)
			}
			for v, x := range tops {
				y, err := unify.Value(s, eta(s, v))
				if err != api.OK || slices.ContainsFunc(term.Pars(y), func(n int) bool { return n >= x.Level }) {
					t.Fatalf("the value of %v by %v, with the Level %v: %v, %v", v, s, x.Level, term.Text(y), err)
				}
				if s.Vals[v].Is {
					values++
				}
			}
		}
	})
	if values < 30000 {
		t.Errorf("only %v values", values)
	}
}

// P5.8: a store with further variables changes nothing.
func TestApart(t *testing.T) {
	found, none := 0, 0
	testAll(t, 8, 10000, func(t *testing.T, m maker) {
		s, _, a, b := m.pair()
		if m.Intn(2) == 0 {
			s, a, b = m.random()
		}
		other := m.valued(m.store(4))
		// The variables of both stores stand among each other; at holds where those of s and those of other are.
		var both api.Store
		at := [2][]int{}
		for len(at[0]) < len(s.Vals) || len(at[1]) < len(other.Vals) {
			k := m.Intn(2)
			if from := [2]api.Store{s, other}[k]; len(at[k]) < len(from.Vals) {
				x := from.Vals[len(at[k])]
				at[k] = append(at[k], len(both.Vals))
				both.Vals = append(both.Vals, x)
			}
		}
		for _, list := range at {
			for _, v := range list {
				both.Vals[v].T = moved(both.Vals[v].T, list)
			}
		}
		r, is := solvedTyped(t, s, a, b)
		q, too := solvedTyped(t, both, moved(a, at[0]), moved(b, at[0]))
		if is != too {
			t.Fatalf("Unify(%v, %v, %v): %v, and %v among others: %v", s, term.Text(a), term.Text(b), is, too, both)
		}
		if !is {
			none++
			return
		}
		found++
		var l []api.Term
		for _, x := range etas(s, len(s.Vals)) {
			l = append(l, moved(x, at[0]))
		}
		x, types, e := unify.Least(q, pars, l)
		y, others := least(t, r, len(s.Vals))
		if e != api.OK || !slices.EqualFunc(x, y, term.Same) || !reflect.DeepEqual(types, others) {
			t.Fatalf("Least by %v: %v; among others, by %v: %v, %v", r, texts(y), q, texts(x), e)
		}
		for _, v := range at[1] {
			if !sameVal(q.Vals[v], both.Vals[v]) {
				t.Fatalf("Unify(%v, %v, %v) = %v changes %v", both, term.Text(moved(a, at[0])), term.Text(moved(b, at[0])), q, v)
			}
		}
	})
	if found < 5000 || none < 1500 {
		t.Errorf("too few: %v, %v", found, none)
	}
}

// moved is a term with other numbers of variables.
func moved(t api.Term, to []int) api.Term {
	if t.Kind == api.TmVar {
		t.N = to[t.N]
	}
	var list []api.Term
	for _, x := range t.Args {
		list = append(list, moved(x, to))
	}
	t.Args = list
	return t
}
