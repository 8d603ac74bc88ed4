package formula_test

import (
	"math/rand"
	"slices"
	"strconv"
	"strings"
	"testing"

	"peculium/api"
	"peculium/syntax"
	"peculium/types"
)

// What most programs of these tests declare: predicates of each kind, with arguments of some types.
const declared = `type i, o. const c: i. const d: o. const f: i -> i. const g: i -> o -> i. const lam: (i -> i) -> i.
pred p i. pred q i. pred r i o. pred z. pred h (i -> i). pred k (i -> o -> i).
fact a i. fact b (i -> i). fact e. lasting l i. lasting m o i. lasting n. `

// inferred is the program of a text.
func inferred(t *testing.T, text string) api.Program {
	t.Helper()
	n, at, err := syntax.Parse(text)
	if err != api.OK {
		t.Fatalf("Parse of %q = %v, %v", text, at, err)
	}
	p, blames, err := types.Infer(n)
	if err != api.OK {
		t.Fatalf("Infer of %q = %v, %v", text, blames, err)
	}
	return p
}

func base(name string) api.Type { return api.Type{Name: name} }

// fn is the type with some arguments, and the last one as its result.
func fn(list ...api.Type) api.Type {
	ty := list[len(list)-1]
	for _, x := range slices.Backward(list[:len(list)-1]) {
		ty = api.Type{Name: "->", Args: []api.Type{x, ty}}
	}
	return ty
}

var (
	i, o   = base("i"), base("o")
	ii     = fn(i, i)
	ioi    = fn(i, o, i)
	higher = fn(ii, i)
)

func con(name string, args ...api.Term) api.Term {
	return api.Term{Kind: api.TmCon, Name: name, Args: args}
}
func bound(n int, args ...api.Term) api.Term { return api.Term{Kind: api.TmBound, N: n, Args: args} }
func par(n int, args ...api.Term) api.Term   { return api.Term{Kind: api.TmPar, N: n, Args: args} }
func vari(n int, args ...api.Term) api.Term  { return api.Term{Kind: api.TmVar, N: n, Args: args} }

// lams is a term below some lambdas.
func lams(n int, t api.Term) api.Term {
	for range n {
		t = api.Term{Kind: api.TmLam, Args: []api.Term{t}}
	}
	return t
}

func atom(name string, args ...api.Term) api.Form {
	return api.Form{Kind: api.FoAtom, Name: name, Args: args}
}

// of is a formula of a kind that has some formulas.
func of(kind int, l ...api.Form) api.Form { return api.Form{Kind: kind, L: l} }

func all(ty api.Type, f api.Form) api.Form {
	return api.Form{Kind: api.FoAll, Name: "x", Type: ty, L: []api.Form{f}}
}

func ex(ty api.Type, f api.Form) api.Form {
	return api.Form{Kind: api.FoEx, Name: "Y", Type: ty, L: []api.Form{f}}
}

var one, top = of(api.FoOne), of(api.FoTop)

// banged is a formula within some FoBang.
func banged(n int, f api.Form) api.Form {
	for range n {
		f = of(api.FoBang, f)
	}
	return f
}

// ofSize is a term of n nodes, with few levels.
func ofSize(n int) api.Term {
	t := con("f")
	n--
	for left := 8; n > 0; left-- {
		part := (n + left - 1) / left
		t.Args = append(t.Args, ofSize(part))
		n -= part
	}
	return t
}

// ofDepth is a term of n levels, with one node on each.
func ofDepth(n int) api.Term {
	t := con("c")
	for range n - 1 {
		t = con("f", t)
	}
	return t
}

// reader reads the texts that layer 6 writes.
type reader struct{ tokens []string }

// form is the formula of a text.
func form(text string) api.Form {
	r := &reader{strings.Fields(text)}
	f := r.form()
	if len(r.tokens) > 0 {
		panic(text + ": there is more behind its end: " + r.tokens[0])
	}
	return f
}

// tm is the term of a text.
func tm(text string) api.Term {
	r := &reader{strings.Fields(text)}
	t := r.term()
	if len(r.tokens) > 0 {
		panic(text + ": there is more behind its end: " + r.tokens[0])
	}
	return t
}

func (r *reader) next() string {
	x := r.peek()
	r.tokens = r.tokens[min(1, len(r.tokens)):]
	return x
}

func (r *reader) peek() string {
	if len(r.tokens) == 0 {
		return ""
	}
	return r.tokens[0]
}

func (r *reader) expect(x string) {
	if y := r.next(); y != x {
		panic("there is " + y + " in the place of " + x)
	}
}

// The kinds of formulas by the words with which, and by the signs that, they are written.
var kindsOf = map[string]int{
	"one": api.FoOne, "top": api.FoTop, "*": api.FoTensor, "&": api.FoWith, "+": api.FoPlus, "-o": api.FoLolli, "=>": api.FoImp,
	"!": api.FoBang, "all": api.FoAll, "ex": api.FoEx, "{": api.FoMonad,
}

func (r *reader) form() api.Form {
	word := r.next()
	switch word {
	case "one", "top":
		return of(kindsOf[word])
	case "!":
		return of(api.FoBang, r.form())
	case "{":
		f := r.form()
		r.expect("}")
		return of(api.FoMonad, f)
	case "all", "ex":
		f := api.Form{Kind: kindsOf[word], Name: "x"}
		r.expect(":")
		f.Type = r.typ()
		r.expect(".")
		f.L = []api.Form{r.form()}
		return f
	case "(":
		left := r.form()
		kind, ok := kindsOf[r.next()]
		if !ok || kind < api.FoTensor || kind > api.FoImp {
			panic("no formula")
		}
		right := r.form()
		r.expect(")")
		return of(kind, left, right)
	}
	f := atom(word)
	f.Args = r.args()
	return f
}

func (r *reader) typ() api.Type {
	x := r.next()
	if x != "(" {
		return base(x)
	}
	from := r.typ()
	r.expect("->")
	to := r.typ()
	r.expect(")")
	return fn(from, to)
}

func (r *reader) args() []api.Term {
	var list []api.Term
	for {
		x := r.peek()
		switch {
		case x == "(":
			r.next()
			list = append(list, r.term())
			r.expect(")")
		case x != "" && strings.IndexByte("abcdefghijklmnopqrstuvwxyzBPV", x[0]) >= 0:
			list = append(list, head(r.next()))
		default:
			return list
		}
	}
}

func (r *reader) term() api.Term {
	x := r.next()
	if x == `\` {
		r.expect(".")
		return lams(1, r.term())
	}
	t := head(x)
	t.Args = r.args()
	return t
}

func head(word string) api.Term {
	at := strings.IndexByte("BPV", word[0])
	if at < 0 {
		return con(word)
	}
	n, err := strconv.Atoi(word[1:])
	if err != nil {
		panic(word + " is no head")
	}
	return api.Term{Kind: api.TmBound + at, N: n}
}

// maker makes values, the same ones each time.
type maker struct {
	*rand.Rand
	p     api.Program
	noise int // one of noise choices is made without regard to shapes, or to the pattern rule
}

func newMaker(t *testing.T, seed int64, noise int) maker {
	t.Helper()
	return maker{rand.New(rand.NewSource(seed)), inferred(t, declared), noise}
}

func pick[T any](m maker, list ...T) T { return list[m.Intn(len(list))] }

func (m maker) stray() bool { return m.Intn(m.noise) == 0 }

// binder is a quantifier or a lambda around.
type binder struct {
	ty     api.Type
	chosen bool
}

// env is what may stand at a place, and on which side that is.
type env struct {
	vars, pars []api.Type
	binders    []binder
	left       bool
}

func (e env) within(b binder) env {
	e.binders = append(slices.Clip(e.binders), b)
	return e
}

// someTypes are mostly variable types.
func (m maker) someType() api.Type {
	if m.stray() {
		return pick(m, higher, fn(i, higher), fn(ii, ii))
	}
	return pick(m, i, i, i, o, ii, ii, ioi, fn(o, i))
}

// form makes a well-typed formula of which a word of the grammar tells the shape, mostly.
func (m maker) form(word string, e env, levels int) api.Form {
	if m.stray() && levels > 0 {
		word = "any"
	}
	if kind, ok := terminals[word]; ok {
		return m.atom(kind, e)
	}
	var list []production
	for _, x := range grammar[word] {
		if levels > 1 || !slices.ContainsFunc(x.parts, isOpen) {
			list = append(list, x)
		}
	}
	if len(list) == 0 {
		list = grammar[word]
	}
	x := pick(m, list...)
	if x.kind == 0 {
		return m.form(x.parts[0], e, levels-1)
	}
	f := api.Form{Kind: x.kind}
	switch x.kind {
	case api.FoAll, api.FoEx:
		b := binder{m.someType(), (x.kind == api.FoAll) == e.left}
		f.Name, f.Type = pick(m, "x", "y", "X", "c"), b.ty
		e = e.within(b)
	}
	for n, part := range x.parts {
		below := e
		if n == 0 && (x.kind == api.FoLolli || x.kind == api.FoImp) {
			below.left = !e.left
		}
		f.L = append(f.L, m.form(part, below, levels-1))
	}
	return f
}

// isOpen reports whether a word can stand for long formulas.
func isOpen(word string) bool { return terminals[word] == 0 }

// atom makes an atom of a kind of predicates; of any, for the kind anyKind.
func (m maker) atom(kind int, e env) api.Form {
	var list []api.Pred
	for _, x := range m.p.Preds {
		if kind == anyKind || x.Kind == kind {
			list = append(list, x)
		}
	}
	x := pick(m, list...)
	f := atom(x.Name)
	for _, ty := range x.Types {
		f.Args = append(f.Args, m.term(ty, e, 2))
	}
	return f
}

// choice is a head that a term may have.
type choice struct {
	head   api.Term
	ty     api.Type
	chosen bool
	within int // how many binders are around its own one
}

func (m maker) choices(e env) []choice {
	var list []choice
	for _, x := range m.p.Consts {
		list = append(list, choice{head: con(x.Name), ty: x.Type})
	}
	for n, ty := range e.vars {
		list = append(list, choice{vari(n), ty, true, -1})
	}
	for n, ty := range e.pars {
		list = append(list, choice{head: par(n), ty: ty})
	}
	for n, b := range e.binders {
		x := choice{bound(len(e.binders) - 1 - n), b.ty, b.chosen, n}
		list = append(list, x, x, x)
	}
	return list
}

func split(ty api.Type) ([]api.Type, string) {
	var list []api.Type
	for ; ty.Name == "->"; ty = ty.Args[1] {
		list = append(list, ty.Args[0])
	}
	return list, ty.Name
}

// term makes a canonical term, which mostly keeps the pattern rule.
func (m maker) term(ty api.Type, e env, levels int) api.Term {
	if ty.Name == "->" {
		return lams(1, m.term(ty.Args[1], e.within(binder{ty: ty.Args[0]}), levels))
	}
	list := slices.DeleteFunc(m.choices(e), func(x choice) bool {
		args, result := split(x.ty)
		return result != ty.Name || levels <= 0 && len(args) > 0
	})
	for {
		x := pick(m, list...)
		args, _ := split(x.ty)
		t, ok := x.head, true
		for _, a := range args {
			if !x.chosen || m.stray() {
				t.Args = append(t.Args, m.term(a, e, levels-1))
				continue
			}
			y, is := m.simple(a, x, t.Args, e)
			t.Args, ok = append(t.Args, y), ok && is
		}
		if ok {
			return t
		}
	}
}

// simple makes an argument of a chosen variable with those ahead of it, if there is one.
func (m maker) simple(ty api.Type, head choice, ahead []api.Term, e env) (api.Term, bool) {
	var list []api.Term
	for n, b := range e.binders {
		if n > head.within && !b.chosen && same(b.ty, ty) {
			list = append(list, bound(len(e.binders)-1-n))
		}
	}
	for n, x := range e.pars {
		if head.within < 0 && same(x, ty) {
			list = append(list, par(n))
		}
	}
	list = slices.DeleteFunc(list, func(x api.Term) bool {
		return slices.ContainsFunc(ahead, func(y api.Term) bool { return same(x, y) })
	})
	if len(list) == 0 {
		return api.Term{}, false
	}
	return pick(m, list...), true
}

// scope makes the types of a few variables and parameters.
func (m maker) scope(vars, pars int) env {
	var e env
	for range m.Intn(vars + 1) {
		e.vars = append(e.vars, m.someType())
	}
	for range m.Intn(pars + 1) {
		e.pars = append(e.pars, pick(m, i, o, ii, ioi, higher))
	}
	return e
}

// raw makes a raw formula without regard to types, with some binders around it.
func (m maker) raw(levels, binders int) api.Form {
	kinds := []int{api.FoAtom, api.FoAtom, api.FoOne, api.FoTop, api.FoTensor, api.FoWith, api.FoPlus, api.FoLolli, api.FoImp, api.FoBang, api.FoAll, api.FoEx, api.FoAll, api.FoEx, api.FoMonad}
	if levels <= 1 {
		kinds = kinds[:4]
	}
	f := api.Form{Kind: pick(m, kinds...)}
	parts := 0
	switch f.Kind {
	case api.FoAtom:
		f.Name = pick(m, "p", "q", "a", "a@b", "l")
		for range m.Intn(4) {
			f.Args = append(f.Args, m.rawTerm(2, binders))
		}
	case api.FoOne, api.FoTop:
	case api.FoBang, api.FoMonad:
		parts = 1
	case api.FoAll, api.FoEx:
		parts, binders = 1, binders+1
		f.Name, f.Type = pick(m, "x", "Y", "z@z"), pick(m, i, o, ii, fn(ii, o), base("i'"))
	default:
		parts = 2
	}
	for range parts {
		f.L = append(f.L, m.raw(levels-1, binders))
	}
	return f
}

func (m maker) rawTerm(levels, binders int) api.Term {
	t := api.Term{Kind: 1 + m.Intn(4), N: m.Intn(3)}
	switch {
	case levels > 0 && m.Intn(4) == 0:
		return lams(1, m.rawTerm(levels-1, binders+1))
	case t.Kind == api.TmCon:
		t.Name, t.N = pick(m, "c", "f", "f@g"), 0
	case t.Kind == api.TmBound:
		t.N = m.Intn(binders + 2)
	}
	if levels > 0 {
		for range pick(m, 0, 0, 1, 2) {
			t.Args = append(t.Args, m.rawTerm(levels-1, binders))
		}
	}
	return t
}

// damaged is a formula of which something is changed at some places: it may be no raw one.
func (m maker) damaged(f api.Form) api.Form {
	f = copied(f)
	for range 1 + m.Intn(2) {
		x := &f
		for len(x.L) > 0 && m.Intn(3) > 0 {
			x = &x.L[m.Intn(len(x.L))]
		}
		switch m.Intn(6) {
		case 0:
			x.Kind = pick(m, -1, 0, 13, 1<<40, -1<<60, 1+m.Intn(12))
		case 1:
			x.Name = pick(m, "", "z", "X", "all", "x y", "a@b", "a@b@c", strings.Repeat("a", 40), strings.Repeat("a", 41), strings.Repeat("A", 41), "\xff")
		case 2:
			x.Type = pick(m, i, ii, api.Type{}, base("->"), api.Type{Name: "i", Args: []api.Type{i}}, fn(i, api.Type{Name: "->", Args: []api.Type{i}}))
		case 3:
			x.L = pick(m, nil, x.L[:len(x.L)/2], append(slices.Clone(x.L), one))
		case 4:
			x.Args = append(x.Args, m.damagedTerm())
		case 5:
			x.Args = slices.Repeat([]api.Term{con("c")}, 8+m.Intn(2))
		}
	}
	return f
}

func (m maker) damagedTerm() api.Term {
	return pick(m, con("c"), bound(100000), bound(100001), par(-1), con("X"), con("one"), api.Term{}, api.Term{Kind: 6}, api.Term{Kind: api.TmLam}, api.Term{Kind: api.TmCon, Name: "c", N: 1}, api.Term{Kind: api.TmPar, Name: "c"})
}
