package kernel_test

import (
	"math/rand"
	"os"
	"runtime/debug"
	"slices"
	"strconv"
	"strings"
	"testing"

	"peculium/api"
	"peculium/formula"
	"peculium/kernel"
	"peculium/syntax"
	"peculium/term"
	"peculium/types"
)

// The tests make many small values and keep few, so most of their time would be spent collecting.
func TestMain(m *testing.M) {
	debug.SetGCPercent(400)
	os.Exit(m.Run())
}

// What most programs of these tests declare.
const declared = `type i, o. const c, d: i. const e: o. const f: i -> i. const g: i -> o -> i. const lam: (i -> i) -> i.
pred p i. pred q i o. pred z. pred h (i -> i). fact a i. fact b. fact k (i -> i). lasting l i. lasting m. `

// inferred is the program of a text, which has to be sound.
func inferred(t *testing.T, text string) api.Program {
	t.Helper()
	n, at, err := syntax.Parse(text)
	if err != api.OK {
		t.Fatalf("Parse of %q = %v, %v", text, at, err)
	}
	p, blames, err := types.Infer(n)
	if err != api.OK {
		t.Fatalf("Infer of %q = %v, %v", text, blames, err)
	}
	if err := formula.Check(p); err != api.OK {
		t.Fatalf("Check of %q = %v", text, err)
	}
	return p
}

// goal is the formula of a text; a variable P3 in it is the parameter 3.
func goal(t *testing.T, p api.Program, text string) api.Form {
	t.Helper()
	n, at, err := syntax.ParseForm(text)
	if err != api.OK {
		t.Fatalf("ParseForm of %q = %v, %v", text, at, err)
	}
	q, blames, err := types.Query(p, "w", n)
	if err != api.OK {
		t.Fatalf("Query of %q = %v, %v", text, blames, err)
	}
	var list []api.Term
	for _, x := range q.Vars {
		number, err := strconv.Atoi(strings.TrimPrefix(x.Name, "P"))
		if err != nil {
			t.Fatalf("%q has the variable %v", text, x.Name)
		}
		list = append(list, eta(par(number), x.Type))
	}
	f, err := formula.Put(q.Form, list)
	if err != api.OK {
		t.Fatalf("Put in %q = %v", text, err)
	}
	return f
}

// clause is the formula of a text as a rule has it.
func clause(t *testing.T, p api.Program, text string) api.Form {
	t.Helper()
	n, at, err := syntax.ParseForm(text)
	if err != api.OK {
		t.Fatalf("ParseForm of %q = %v, %v", text, at, err)
	}
	r, blames, err := types.Rule(p, "w", api.UsLast, n)
	if err != api.OK {
		t.Fatalf("Rule of %q = %v, %v", text, blames, err)
	}
	return r.Form
}

// eta is Eta of a head, which has to have none of its errors.
func eta(head api.Term, ty api.Type) api.Term {
	x, err := term.Eta(head, ty)
	if err != api.OK {
		panic(err)
	}
	return x
}

func base(name string) api.Type { return api.Type{Name: name} }

// fn is the type with some arguments, and the last one as its result.
func fn(list ...api.Type) api.Type {
	ty := list[len(list)-1]
	for _, x := range slices.Backward(list[:len(list)-1]) {
		ty = api.Type{Name: "->", Args: []api.Type{x, ty}}
	}
	return ty
}

var (
	i, o   = base("i"), base("o")
	ii     = fn(i, i)
	ioi    = fn(i, o, i)
	higher = fn(ii, i)
)

func con(name string, args ...api.Term) api.Term {
	return api.Term{Kind: api.TmCon, Name: name, Args: args}
}
func bound(n int, args ...api.Term) api.Term { return api.Term{Kind: api.TmBound, N: n, Args: args} }
func par(n int, args ...api.Term) api.Term   { return api.Term{Kind: api.TmPar, N: n, Args: args} }
func vari(n int, args ...api.Term) api.Term  { return api.Term{Kind: api.TmVar, N: n, Args: args} }
func lam(t api.Term) api.Term                { return api.Term{Kind: api.TmLam, Args: []api.Term{t}} }

var c, d = con("c"), con("d")

// tm is the term of a text.
func tm(text string) api.Term {
	t, at, err := term.Read(text)
	if err != api.OK {
		panic(text + ": no term at " + strconv.Itoa(at))
	}
	return t
}

func atom(name string, args ...api.Term) api.Form {
	return api.Form{Kind: api.FoAtom, Name: name, Args: args}
}

// of is a formula of a kind that has some formulas.
func of(kind int, l ...api.Form) api.Form { return api.Form{Kind: kind, L: l} }

func all(ty api.Type, f api.Form) api.Form {
	return api.Form{Kind: api.FoAll, Name: "x", Type: ty, L: []api.Form{f}}
}

var one, top = of(api.FoOne), of(api.FoTop)

// hyp is a proof by a hypothesis with some turns, part one of a kind with parts, tops one by top.
func hyp(n int, turns ...api.Turn) api.Proof {
	return api.Proof{Kind: api.PfAtom, N: n, Spine: turns}
}
func part(kind int, l ...api.Proof) api.Proof { return api.Proof{Kind: kind, L: l} }
func tops(uses ...int) api.Proof              { return api.Proof{Kind: api.PfTop, Uses: uses} }

var ones = part(api.PfOne)

func pair(x, y api.Proof) api.Proof { return part(api.PfTensor, x, y) }
func both(x, y api.Proof) api.Proof { return part(api.PfWith, x, y) }
func given(x api.Proof) api.Proof   { return part(api.PfLolli, x) }
func lasts(x api.Proof) api.Proof   { return part(api.PfImp, x) }
func every(x api.Proof) api.Proof   { return part(api.PfAll, x) }
func some(t api.Term, x api.Proof) api.Proof {
	return api.Proof{Kind: api.PfEx, Term: t, L: []api.Proof{x}}
}

// does is a proof with some moves ahead of another proof.
func does(x api.Proof, moves ...api.Move) api.Proof {
	return api.Proof{Kind: api.PfMonad, Moves: moves, L: []api.Proof{x}}
}

func move(n int, terms []api.Term, uses ...int) api.Move {
	return api.Move{N: n, Terms: terms, Uses: uses}
}

var toLeft, toRight = api.Turn{Kind: api.TuLeft}, api.Turn{Kind: api.TuRight}

func at(t api.Term) api.Turn   { return api.Turn{Kind: api.TuAll, Term: t} }
func by(x api.Proof) api.Turn  { return api.Turn{Kind: api.TuLolli, L: []api.Proof{x}} }
func imp(x api.Proof) api.Turn { return api.Turn{Kind: api.TuImp, L: []api.Proof{x}} }

// nested is a proof within n PfBang.
func nested(n int, x api.Proof) api.Proof {
	for range n {
		x = part(api.PfBang, x)
	}
	return x
}

// ofSize is a term of n nodes, with few levels.
func ofSize(n int) api.Term {
	t := con("f")
	n--
	for left := 8; n > 0; left-- {
		part := (n + left - 1) / left
		t.Args = append(t.Args, ofSize(part))
		n -= part
	}
	return t
}

// eights declares constants of which typedOf makes terms.
const eights = "type i. const c: i. const f: i -> i. const g: i -> i -> i -> i -> i -> i -> i -> i -> i. "

// typedOf is a canonical term of n nodes, with few levels.
func typedOf(n int) api.Term {
	x := con("c")
	if n < 9 {
		for range n - 1 {
			x = con("f", x)
		}
		return x
	}
	x, n = con("g"), n-1
	for left := 8; left > 0; left-- {
		part := (n + left - 1) / left
		x.Args = append(x.Args, typedOf(part))
		n -= part
	}
	return x
}

// ofDepth is a term of n levels, with one node on each.
func ofDepth(n int) api.Term {
	t := con("c")
	for range n - 1 {
		t = con("f", t)
	}
	return t
}

// maker makes values, the same ones each time.
type maker struct {
	*rand.Rand
	pool api.Program // all rules that programs of the maker may have
}

// What programs of a maker have as rules.
const rules = `rule r1: a X -o p X. rule r2: l c. rule r3: p X -o q X Y. rule r4: z & p c. rule r5: l X => p (f X). rule r6: m. rule r7: h F -o z.
rule r8: q X e & all Y. (a Y -o b -o p (g Y e)). once o1: a c. once o2: p d. once o3: z & p c. once o4: b. once o5: a d -o z. once o6: k (\x. f x). once o7: a c.
most m1: p d. most m2: z & p c. most m3: a X => q X e. most m4: l X -o p X.
rule w1: a X -o {a (f X) * !l X}. rule w2: b -o l X => {ex Y. a Y * b}. rule w3: b -o {one}. rule w4: k F -o {a (lam F) * ex y: o. (b * one)}. rule w5: l X => m => {b}.
rule w6: a X -o a Y -o {ex G: i -> i. k G * a X * !m}.`

func newMaker(t *testing.T, seed int64) maker {
	t.Helper()
	return maker{rand.New(rand.NewSource(seed)), inferred(t, declared+rules)}
}

func pick[T any](m maker, list ...T) T { return list[m.Intn(len(list))] }

// program makes a program with some of the rules.
func (m maker) program() api.Program {
	p := m.pool
	p.Rules = nil
	for _, n := range m.Perm(len(m.pool.Rules))[:1+m.Intn(9)] {
		p.Rules = append(p.Rules, m.pool.Rules[n])
	}
	return p
}

// choice is a head that a term may have.
type choice struct {
	head api.Term
	ty   api.Type
}

func split(ty api.Type) ([]api.Type, string) {
	var list []api.Type
	for ; ty.Name == "->"; ty = ty.Args[1] {
		list = append(list, ty.Args[0])
	}
	return list, ty.Name
}

// term makes a term that is canonical of a type, with parameters of some types.
func (m maker) term(ty api.Type, pars, around []api.Type, levels int) api.Term {
	if ty.Name == "->" {
		return lam(m.term(ty.Args[1], pars, append(slices.Clip(around), ty.Args[0]), levels))
	}
	var list []choice
	for _, x := range m.pool.Consts {
		list = append(list, choice{con(x.Name), x.Type})
	}
	for n, ty := range pars {
		list = append(list, choice{par(n), ty})
	}
	for n, ty := range around {
		x := choice{bound(len(around) - 1 - n), ty}
		list = append(list, x, x)
	}
	list = slices.DeleteFunc(list, func(x choice) bool {
		args, result := split(x.ty)
		return result != ty.Name || levels <= 0 && len(args) > 0
	})
	x := pick(m, list...)
	args, _ := split(x.ty)
	for _, a := range args {
		x.head.Args = append(x.head.Args, m.term(a, pars, around, levels-1))
	}
	return x.head
}

// rawTerm makes a raw term without regard to types, with some binders around it.
func (m maker) rawTerm(levels, binders int) api.Term {
	kind := 1 + m.Intn(6)
	t := api.Term{Kind: kind, N: m.Intn(3)}
	switch {
	case levels > 0 && m.Intn(4) == 0:
		return lam(m.rawTerm(levels-1, binders+1))
	case kind == api.TmCon:
		t = con(pick(m, "c", "f", "f@g"))
	case kind >= api.TmLam:
		t = bound(m.Intn(binders + 2))
	}
	if m.Intn(80) == 0 && t.Kind != api.TmCon {
		t.N = api.MaxIndex - m.Intn(3)
	}
	if levels > 0 {
		for range pick(m, 0, 0, 1, 1, 2) {
			t.Args = append(t.Args, m.rawTerm(levels-1, binders))
		}
	}
	return t
}

// rawForm makes a raw formula without regard to types, with some binders around it.
func (m maker) rawForm(levels, binders int) api.Form {
	f := api.Form{Kind: api.FoAtom + m.Intn(api.FoMonad)}
	if levels <= 1 {
		f.Kind = pick(m, api.FoAtom, api.FoAtom, api.FoOne, api.FoTop)
	}
	parts := 2
	switch f.Kind {
	case api.FoAtom:
		f.Name, parts = pick(m, "p", "q", "a@b", "o"), 0
		for range m.Intn(4) {
			f.Args = append(f.Args, m.rawTerm(m.Intn(4), binders))
		}
	case api.FoOne, api.FoTop:
		parts = 0
	case api.FoBang, api.FoMonad:
		parts = 1
	case api.FoAll, api.FoEx:
		parts, binders = 1, binders+1
		f.Name, f.Type = pick(m, "x", "Y", "z@z"), pick(m, i, o, ii, fn(ii, o), base("i'"))
	}
	for range parts {
		f.L = append(f.L, m.rawForm(levels-1, binders))
	}
	return f
}

// damagedTerm changes something of a term: it may be no raw one.
func (m maker) damagedTerm(t api.Term) api.Term {
	t = copied(t)
	x := &t
	for len(x.Args) > 0 && m.Intn(3) > 0 {
		x = &x.Args[m.Intn(len(x.Args))]
	}
	switch m.Intn(7) {
	case 0:
		x.Kind = pick(m, -1, 0, 1, 2, 3, 4, 5, 6, 1<<40)
	case 1:
		x.N = pick(m, -1, 0, 1, api.MaxIndex, api.MaxIndex+1, -1<<60, 1<<60)
	case 2:
		x.Name = m.someName()
	case 3:
		x.Args = append(x.Args, m.rawTerm(1, 0))
	case 4:
		x.Args = nil
	case 5:
		x.Args = slices.Repeat([]api.Term{c}, 8+m.Intn(2))
	case 6:
		*x = pick(m, ofDepth(99+m.Intn(3)), ofSize(3990+m.Intn(12)), api.Term{})
	}
	return t
}

func (m maker) someName() string {
	return pick(m, "", "z", "X", "all", "o", "x y", "a@b", "a@b@c", "a@", "@b", "a@B", "all@one", "_a", "a_'9", "X@y", strings.Repeat("a", 40), strings.Repeat("a", 41), strings.Repeat("A", 40), strings.Repeat("A", 41), "\xff", "a\xff", "module")
}

// damagedForm changes something of a formula: it may be no raw one.
func (m maker) damagedForm(f api.Form) api.Form {
	f = copied(f)
	x := &f
	for len(x.L) > 0 && m.Intn(3) > 0 {
		x = &x.L[m.Intn(len(x.L))]
	}
	switch m.Intn(7) {
	case 0:
		x.Kind = pick(m, -1, 0, 13, 1<<40, -1<<60, 1+m.Intn(12))
	case 1:
		x.Name = m.someName()
	case 2:
		x.Type = pick(m, i, ii, api.Type{}, base("->"), api.Type{Name: "i", Args: []api.Type{i}}, fn(i, api.Type{Name: "->", Args: []api.Type{i}}), endlessType(1), fn(slices.Repeat([]api.Type{i}, 101)...))
	case 3:
		x.L = pick(m, nil, x.L[:len(x.L)/2], append(slices.Clone(x.L), one))
	case 4:
		x.Args = append(x.Args, m.damagedTerm(m.rawTerm(2, 0)))
	case 5:
		x.Args = slices.Repeat([]api.Term{c}, 8+m.Intn(2))
	case 6:
		for range 60 + m.Intn(80) {
			*x = of(api.FoBang, *x)
		}
	}
	return f
}

// endlessType is a type that is within itself.
func endlessType(width int) api.Type {
	args := make([]api.Type, width)
	for n := range args {
		args[n] = api.Type{Name: "->", Args: args}
	}
	return args[0]
}

// endlessTerm is a term that is within itself.
func endlessTerm(width int) api.Term {
	args := make([]api.Term, width)
	for n := range args {
		args[n] = con("f")
		args[n].Args = args
	}
	return args[0]
}

// endlessForm is a formula of a kind that is within itself.
func endlessForm(kind, width int) api.Form {
	l := make([]api.Form, width)
	for n := range l {
		l[n] = api.Form{Kind: kind, Name: "x", Type: i, L: l}
	}
	return l[0]
}

// endlessProof is a proof of a kind that is within itself, in L or in a turn.
func endlessProof(kind, width int, inTurn bool) api.Proof {
	l := make([]api.Proof, width)
	for n := range l {
		l[n] = api.Proof{Kind: kind, L: l}
		if inTurn {
			l[n].L, l[n].Spine = nil, []api.Turn{{Kind: api.TuLolli, L: l}}
		}
	}
	return l[0]
}

// shared is a proof with 2 to the power of n leaves, which shares all those that are alike.
func shared(n int) api.Proof {
	x := ones
	for range n {
		x = pair(x, x)
	}
	return x
}

// text is a proof in short.
func text(pf api.Proof) string {
	words := []string{strconv.Itoa(pf.Kind), ":"}
	if pf.Kind == api.PfAtom {
		words = append(words, strconv.Itoa(pf.N))
	}
	for _, n := range pf.Uses {
		words = append(words, strconv.Itoa(n))
	}
	if pf.Kind == api.PfEx {
		words = append(words, term.Text(pf.Term))
	}
	for _, x := range pf.Spine {
		words = append(words, "/", strconv.Itoa(x.Kind), term.Text(x.Term))
		for _, y := range x.L {
			words = append(words, "(", text(y), ")")
		}
	}
	for _, x := range pf.Moves {
		words = append(words, "move", strconv.Itoa(x.N))
		for _, y := range x.Terms {
			words = append(words, "(", term.Text(y), ")")
		}
		for _, n := range x.Uses {
			words = append(words, strconv.Itoa(n))
		}
	}
	for _, x := range pf.L {
		words = append(words, "(", text(x), ")")
	}
	return strings.Join(words, " ")
}

// textOf is a claim in short.
func textOf(p api.Program, g api.Form, pf api.Proof) string {
	out := ""
	for n, r := range p.Rules {
		out += strconv.Itoa(n) + " (" + strconv.Itoa(r.Use) + "): " + formula.Text(r.Form) + "\n"
	}
	return out + "goal: " + formula.Text(g) + "\nproof: " + text(pf) + "\n"
}

// isPlain reports whether a claim is plain.
func isPlain(p api.Program, g api.Form, pf api.Proof) bool {
	forms := []api.Form{g}
	for _, r := range p.Rules {
		forms = append(forms, r.Form)
	}
	for _, f := range forms {
		if nodes, levels := refFormSize(f); nodes > 100 || levels > 60 || !hasVariableTypes(f) {
			return false
		}
	}
	for _, x := range refTerms(pf) {
		if term.Size(x) > 40 || term.Depth(x) > 40 {
			return false
		}
	}
	return true
}

// hasVariableTypes reports whether the quantifiers of a formula have variable types.
func hasVariableTypes(f api.Form) bool {
	args, _ := split(f.Type)
	return !slices.ContainsFunc(args, func(ty api.Type) bool { return ty.Name == "->" }) &&
		!slices.ContainsFunc(f.L, func(x api.Form) bool { return !hasVariableTypes(x) })
}

// judge fails unless a claim is one of a sound program, and of what the chapter tells results for.
func judge(t *testing.T, s api.Sequent) {
	t.Helper()
	if err := formula.Check(s.Program); err != api.OK {
		t.Fatalf("the program: %v", err)
	}
	for _, x := range s.Givens {
		if err := formula.Clause(s.Program, s.Params, x.Form); err != api.OK {
			t.Fatalf("the hypothesis %v: %v", formula.Text(x.Form), err)
		}
	}
	if err := formula.Goal(s.Program, api.Scope{Pars: s.Params}, s.Goal); err != api.OK {
		t.Fatalf("the goal %v: %v", formula.Text(s.Goal), err)
	}
}

// allResults are the results of all calls for a claim.
type allResults struct {
	Check, Blame, Used api.Errno
	Path, Uses         []int
}

func resultsOf(p api.Program, params []api.Type, g api.Form, pf api.Proof) allResults {
	var r allResults
	r.Check = kernel.Check(p, params, g, pf)
	r.Path, r.Blame = kernel.Blame(p, params, g, pf)
	r.Uses, r.Used = kernel.Used(p, params, g, pf)
	return r
}
