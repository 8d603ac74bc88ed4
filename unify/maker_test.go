package unify_test

import (
	"maps"
	"math/rand"
	"slices"
	"strings"
	"testing"

	"peculium/api"
	"peculium/term"
)

// read returns the term of a text.
func read(text string) api.Term {
	t, at, err := term.Read(text)
	if err != api.OK {
		panic(text + " is no term at " + text[at:])
	}
	return t
}

func reads(texts ...string) []api.Term {
	var list []api.Term
	for _, x := range texts {
		list = append(list, read(x))
	}
	return list
}

func texts(list []api.Term) string {
	var out []string
	for _, t := range list {
		out = append(out, term.Text(t))
	}
	return strings.Join(out, ", ")
}

func con(name string, args ...api.Term) api.Term {
	return api.Term{Kind: api.TmCon, Name: name, Args: args}
}

// lams is a term below some lambdas.
func lams(n int, t api.Term) api.Term {
	for range n {
		t = api.Term{Kind: api.TmLam, Args: []api.Term{t}}
	}
	return t
}

// vt is the variable type whose names a text has, the result being the last one.
func vt(text string) api.Type {
	names := strings.Fields(text)
	t := api.Type{Name: names[len(names)-1]}
	for _, x := range slices.Backward(names[:len(names)-1]) {
		t = arrow(api.Type{Name: x}, t)
	}
	return t
}

func arrow(a, b api.Type) api.Type { return api.Type{Name: "->", Args: []api.Type{a, b}} }

// open is a variable without a value, known is one with a value, which has to be of the type i to i to .. to i.
func open(level int, ty string) api.Val { return api.Val{Level: level, Type: vt(ty)} }

func known(level int, text string) api.Val {
	t := read(text)
	n := 0
	for x := t; x.Kind == api.TmLam; x = x.Args[0] {
		n++
	}
	return api.Val{Level: level, Type: vt(strings.Repeat("i ", n+1)), Is: true, T: t}
}

func store(vals ...api.Val) api.Store { return api.Store{Vals: vals} }

// sample is the store of the chapter's examples.
func sample() api.Store { return store(open(0, "i i i"), open(0, "i i")) }

func arity(ty api.Type) int {
	n := 0
	for ; ty.Name == "->"; ty = ty.Args[1] {
		n++
	}
	return n
}

// eta is a variable of a store below lambdas, applied to their variables.
func eta(s api.Store, v int) api.Term {
	n := arity(s.Vals[v].Type)
	t := api.Term{Kind: api.TmVar, N: v}
	for i := range n {
		t.Args = append(t.Args, api.Term{Kind: api.TmBound, N: n - 1 - i})
	}
	return lams(n, t)
}

// etas are the first n variables of a store.
func etas(s api.Store, n int) []api.Term {
	var list []api.Term
	for v := range n {
		list = append(list, eta(s, v))
	}
	return list
}

// ofSize is a term of n parts, with few levels.
func ofSize(n int) api.Term {
	t := con("f")
	n--
	for left := 8; n > 0; left-- {
		part := (n + left - 1) / left
		t.Args = append(t.Args, ofSize(part))
		n -= part
	}
	return t
}

// ofDepth is a term of n levels, with one part on each.
func ofDepth(n int) api.Term {
	t := con("z")
	for range n - 1 {
		t = con("s", t)
	}
	return t
}

// endless is a term that is within itself.
func endless(width int) api.Term {
	args := make([]api.Term, width)
	for i := range args {
		args[i] = con("f")
		args[i].Args = args
	}
	return args[0]
}

// shared is a term with 2 to the power of n parts, which shares those that are alike.
func shared(n int) api.Term {
	t := con("z")
	for range n {
		t = con("f", t, t)
	}
	return t
}

// maker makes values, the same ones each time.
type maker struct{ *rand.Rand }

func newMaker(seed int64) maker { return maker{rand.New(rand.NewSource(seed))} }

func pick[T any](m maker, list []T) T { return list[m.Intn(len(list))] }

// pars is how many parameters the terms that a maker makes may have in them.
const pars = 3

// parNames are the base types of the parameters in the terms of a maker.
var parNames = []string{"i", "j", "i"}

// nameOf is the type of a simple variable below lambdas whose variables have these types.
func nameOf(x api.Term, scope []string) string {
	if x.Kind == api.TmPar {
		return parNames[x.N]
	}
	return scope[len(scope)-1-x.N]
}

// inner are the types of the variables of the lambdas around the Args of a term, scope being those around it: the constants li and lj are applied to a lambda whose variable is of the type i or j.
func inner(t api.Term, scope []string) []string {
	if t.Kind == api.TmCon && (t.Name == "li" || t.Name == "lj") {
		return append(slices.Clip(scope), t.Name[1:])
	}
	return scope
}

// simples are simple variables that are there below some lambdas, in any order: parameters from low to high - 1, and the bound variables.
func (m maker) simples(low, high, below int) []api.Term {
	var list []api.Term
	for n := range below {
		list = append(list, api.Term{Kind: api.TmBound, N: n})
	}
	for n := low; n < high; n++ {
		list = append(list, api.Term{Kind: api.TmPar, N: n})
	}
	m.Shuffle(len(list), func(i, j int) { list[i], list[j] = list[j], list[i] })
	return list
}

// store makes a store of variables without values.
func (m maker) store(most int) api.Store {
	var s api.Store
	for range 1 + m.Intn(most) {
		ty := "i"
		for range m.Intn(4) {
			ty = pick(m, parNames) + " " + ty
		}
		s.Vals = append(s.Vals, open(m.Intn(pars+1), ty))
	}
	return s
}

// leaf makes a variable of a store with Args of its types, if there are enough: of a Level of at most top, below some lambdas.
func (m maker) leaf(s api.Store, top int, scope []string) (api.Term, bool) {
	if len(s.Vals) == 0 {
		return api.Term{}, false
	}
	v := m.Intn(len(s.Vals))
	list := m.simples(s.Vals[v].Level, top, len(scope))
	t := api.Term{Kind: api.TmVar, N: v}
	for ty := s.Vals[v].Type; ty.Name == "->"; ty = ty.Args[1] {
		at := slices.IndexFunc(list, func(x api.Term) bool { return nameOf(x, scope) == ty.Args[0].Name })
		if at < 0 {
			return api.Term{}, false
		}
		t.Args = append(t.Args, list[at])
		list = slices.Delete(list, at, at+1)
	}
	return t, s.Vals[v].Level <= top
}

// term makes a term, no TmLam, that fits a store, with some lambdas around it, parameters below top and variables of no greater Levels.
func (m maker) term(s api.Store, top int, scope []string, levels int) api.Term {
	if t, ok := m.leaf(s, top, scope); ok && m.Intn(3) == 0 {
		return t
	}
	if list := m.simples(0, top, len(scope)); len(list) > 0 && m.Intn(3) == 0 {
		return list[0]
	}
	part := func() api.Term { return m.term(s, top, scope, levels-1) }
	switch kind := m.Intn(6); {
	case levels <= 0 || kind == 0:
		return con(pick(m, []string{"c", "d"}))
	case kind == 1:
		return con("g", part(), part())
	case kind == 2:
		l := con(pick(m, []string{"li", "lj"}))
		l.Args = []api.Term{lams(1, m.term(s, top, inner(l, scope), levels-1))}
		return l
	case kind == 3 && len(scope) > 0:
		return api.Term{Kind: api.TmBound, N: m.Intn(len(scope)), Args: []api.Term{part()}}
	default:
		return con("f", part())
	}
}

// argTypes are the types of the arguments of a variable.
func argTypes(v api.Val) []string {
	var list []string
	for ty := v.Type; ty.Name == "->"; ty = ty.Args[1] {
		list = append(list, ty.Args[0].Name)
	}
	return list
}

// valued gives values to some variables of a store, in which only those ahead of them stand.
func (m maker) valued(s api.Store) api.Store {
	out := store(slices.Clone(s.Vals)...)
	for v, x := range out.Vals {
		if m.Intn(3) == 0 {
			scope := argTypes(x)
			out.Vals[v].Is = true
			out.Vals[v].T = lams(len(scope), m.term(store(out.Vals[:v]...), x.Level, scope, 2))
		}
	}
	return out
}

// disguise replaces parts of a term by variables without values, and keeps in found what their values would have to be. So the term is what comes of two disguises of it by the same values. It may have parameters below top in it, and variables of no greater Levels.
func (m maker) disguise(s api.Store, t api.Term, found map[int]api.Term, top int, scope []string, often int) api.Term {
	if x, ok := m.leaf(s, top, scope); ok && t.Kind != api.TmLam && m.Intn(often) == 0 {
		value, fits := inverse(t, x.Args, s.Vals[x.N].Level)
		known, is := found[x.N]
		if fits && !s.Vals[x.N].Is && (!is || term.Same(known, value)) {
			found[x.N] = value
			return x
		}
	}
	scope = inner(t, scope)
	list := t.Args
	t.Args = nil
	for _, x := range list {
		t.Args = append(t.Args, m.disguise(s, x, found, top, scope, often))
	}
	return t
}

// isTyped reports whether the variables in a term are applied to arguments of their types, below lambdas whose variables have the types of scope.
func isTyped(s api.Store, t api.Term, scope []string) bool {
	if t.Kind == api.TmVar {
		for i, ty := range argTypes(s.Vals[t.N]) {
			if nameOf(t.Args[i], scope) != ty {
				return false
			}
		}
		return true
	}
	scope = inner(t, scope)
	return !slices.ContainsFunc(t.Args, func(x api.Term) bool { return !isTyped(s, x, scope) })
}

// areTyped reports whether the values of a store are typed so.
func areTyped(s api.Store) bool {
	return !slices.ContainsFunc(s.Vals, func(v api.Val) bool { return v.Is && !isTyped(s, v.T, argTypes(v)) })
}

// given gives some of the values that were found to their variables in a store, disguised themselves.
func (m maker) given(s api.Store, found map[int]api.Term) api.Store {
	for v := range s.Vals {
		t, ok := found[v]
		if !ok || m.Intn(2) == 0 {
			continue
		}
		x := s.Vals[v]
		scope := argTypes(x)
		for range scope {
			t = t.Args[0]
		}
		rest := maps.Clone(found)
		x.Is, x.T = true, lams(len(scope), m.disguise(s, t, rest, x.Level, scope, 2))
		next := store(slices.Clone(s.Vals)...)
		next.Vals[v] = x
		// A variable may have got a value with itself in it.
		if errorOf(next) == api.OK && errorOf(with(next, rest)) == api.OK {
			s = next
			maps.Copy(found, rest)
		}
	}
	return s
}

// with gives values to variables of a store.
func with(s api.Store, found map[int]api.Term) api.Store {
	out := store(slices.Clone(s.Vals)...)
	for v, t := range found {
		if !out.Vals[v].Is {
			out.Vals[v].Is, out.Vals[v].T = true, t
		}
	}
	return out
}

// testAll runs a test for many makers.
func testAll(t *testing.T, seed int64, n int, test func(t *testing.T, m maker)) {
	t.Helper()
	m := newMaker(seed)
	for range n {
		if test(t, m); t.Failed() {
			return
		}
	}
}
