package types_test

import (
	"fmt"
	"math/rand"
	"reflect"
	"slices"
	"strings"
	"testing"

	"peculium/api"
	"peculium/syntax"
	"peculium/types"
)

// P3.1, T2: programs with something changed, held against the chapter's words.
func TestCheckAll(t *testing.T) {
	m := rand.New(rand.NewSource(3))
	found := map[api.Errno]int{}
	for _, p := range goodTexts(t, 60) {
		for range 100 {
			q := replaced(p, "", "")
			for range 1 + m.Intn(2) {
				mutate(m, reflect.ValueOf(&q).Elem())
			}
			want := api.ErrProgram
			if validProgram(q) {
				want = api.OK
			}
			if err := types.Check(q); err != want {
				t.Fatalf("Check of %v = %v, not %v", q, err, want)
			}
			found[want]++
		}
	}
	if found[api.OK] < 200 || found[api.ErrProgram] < 500 {
		t.Errorf("too few of a kind: %v", found)
	}
}

// P3.1, T2: what a valid program may not have.
func TestCheck(t *testing.T) {
	valid := func() api.Program {
		p, _, _ := types.Infer(parsed(t, exampleText+"type o. mode p in. fact a o. lasting l. rule r: p X o- q F. most s: {all x. p x}. query s: q X * ex y. all z: i. p (y z)."))
		return p
	}
	for what, change := range map[string]func(p *api.Program){
		"a type twice":                   func(p *api.Program) { p.Types[1] = "i" },
		"a type that is a capital name":  func(p *api.Program) { p.Types[1] = "I"; p.Preds[2].Types[0].Name = "I" },
		"an arrow as a type":             func(p *api.Program) { p.Types = append(p.Types, "->") },
		"a constant twice":               func(p *api.Program) { p.Consts[2].Name = "c" },
		"a constant that is a predicate": func(p *api.Program) { p.Consts[2].Name = "a" },
		"a predicate twice":              func(p *api.Program) { p.Preds[2].Name = "l" },
		"a keyword":                      func(p *api.Program) { p.Consts[2].Name = "all" },
		"a name that is too long":        func(p *api.Program) { p.Consts[2].Name = strings.Repeat("x", 41) },
		"an unknown type":                func(p *api.Program) { p.Consts[2].Type.Name = "u" },
		"an arrow of one":                func(p *api.Program) { p.Consts[2].Type = api.Type{Name: "->", Args: []api.Type{i}} },
		"a base type with Args":          func(p *api.Program) { p.Preds[2].Types[0].Args = []api.Type{i} },
		"no type":                        func(p *api.Program) { p.Preds[2].Types[0] = api.Type{} },
		"a Kind 0":                       func(p *api.Program) { p.Preds[2].Kind = 0 },
		"a Kind 4":                       func(p *api.Program) { p.Preds[2].Kind = 4 },
		"a Kind -1":                      func(p *api.Program) { p.Preds[2].Kind = -1 },
		"a mode 3":                       func(p *api.Program) { p.Preds[0].Modes[0] = 3 },
		"a mode -1":                      func(p *api.Program) { p.Preds[0].Modes[0] = -1 },
		"too many modes":                 func(p *api.Program) { p.Preds[0].Modes = []int{1, 1} },
		"modes without Types":            func(p *api.Program) { p.Preds[3].Modes = []int{0} },
		"a rule twice":                   func(p *api.Program) { p.Rules[1].Name = "r" },
		"a query twice":                  func(p *api.Program) { p.Queries = append(p.Queries, p.Queries[0]) },
		"a rule with a capital name":     func(p *api.Program) { p.Rules[1].Name = "R" },
		"a query without name":           func(p *api.Program) { p.Queries[0].Name = "" },
		"a Use 0":                        func(p *api.Program) { p.Rules[1].Use = 0 },
		"a Use 4":                        func(p *api.Program) { p.Rules[1].Use = 4 },
		"a Use -1":                       func(p *api.Program) { p.Rules[1].Use = -1 },
		"a small variable":               func(p *api.Program) { p.Queries[0].Vars[0].Name = "x" },
		"a variable twice":               func(p *api.Program) { p.Queries[0].Vars = append(p.Queries[0].Vars, p.Queries[0].Vars[0]) },
		"a variable that has no variable type": func(p *api.Program) {
			p.Queries[0].Vars = append(p.Queries[0].Vars, api.Named{Name: "V", Type: fn(fn(i, i), i)})
		},
		"a variable of an unknown type": func(p *api.Program) {
			p.Queries[0].Vars = append(p.Queries[0].Vars, api.Named{Name: "V", Type: base("u")})
		},
		"a formula of the Kind 0":  func(p *api.Program) { p.Rules[0].Form.Kind = 0 },
		"a formula of the Kind 13": func(p *api.Program) { p.Rules[0].Form.Kind = 13 },
		"a formula of the Kind -1": func(p *api.Program) { p.Rules[0].Form.Kind = -1 },
		"no formula":               func(p *api.Program) { p.Rules[0].Form = api.Form{} },
		"one with a Name":          func(p *api.Program) { p.Rules[0].Form = api.Form{Kind: api.FoOne, Name: "one"} },
		"one with a part":          func(p *api.Program) { p.Rules[0].Form = fo(api.FoOne, fo(api.FoOne)) },
		"one with a term":          func(p *api.Program) { p.Rules[0].Form = api.Form{Kind: api.FoOne, Args: []api.Term{con("c")}} },
		"top with a type":          func(p *api.Program) { p.Rules[0].Form = api.Form{Kind: api.FoTop, Type: i} },
		"top with Args of a type": func(p *api.Program) {
			p.Rules[0].Form = api.Form{Kind: api.FoTop, Type: api.Type{Args: []api.Type{{}}}}
		},
		"a tensor of one":   func(p *api.Program) { p.Rules[0].Form = fo(api.FoTensor, fo(api.FoOne)) },
		"a tensor of three": func(p *api.Program) { p.Rules[0].Form = fo(api.FoTensor, fo(api.FoOne), fo(api.FoOne), fo(api.FoOne)) },
		"a monad of two":    func(p *api.Program) { p.Rules[0].Form = fo(api.FoMonad, fo(api.FoOne), fo(api.FoOne)) },
		"a bang of none":    func(p *api.Program) { p.Rules[0].Form = fo(api.FoBang) },
		"an atom with a part": func(p *api.Program) {
			p.Rules[0].Form = api.Form{Kind: api.FoAtom, Name: "l", L: []api.Form{fo(api.FoOne)}}
		},
		"an atom with a type":             func(p *api.Program) { p.Rules[0].Form = api.Form{Kind: api.FoAtom, Name: "l", Type: i} },
		"an atom that is none":            func(p *api.Program) { p.Rules[0].Form = atom("c") },
		"an atom with too many terms":     func(p *api.Program) { p.Rules[0].Form = atom("l", con("c")) },
		"an atom with too few terms":      func(p *api.Program) { p.Rules[0].Form = atom("p") },
		"a quantifier without name":       func(p *api.Program) { p.Rules[0].Form.Name = "" },
		"a quantifier with a keyword":     func(p *api.Program) { p.Rules[0].Form.Name = "ex" },
		"a quantifier of an unknown type": func(p *api.Program) { p.Rules[0].Form = quant(api.FoAll, "x", base("u"), fo(api.FoOne)) },
		"a quantifier of two": func(p *api.Program) {
			p.Rules[0].Form = api.Form{Kind: api.FoEx, Name: "x", Type: i, L: []api.Form{fo(api.FoOne), fo(api.FoOne)}}
		},
		"a quantifier with a term": func(p *api.Program) {
			p.Rules[0].Form = api.Form{Kind: api.FoEx, Name: "x", Type: i, L: []api.Form{fo(api.FoOne)}, Args: []api.Term{con("c")}}
		},
		"a term of the Kind 0":     func(p *api.Program) { p.Rules[0].Form = atom("p", api.Term{Name: "c"}) },
		"a parameter":              func(p *api.Program) { p.Rules[0].Form = atom("p", api.Term{Kind: api.TmPar}) },
		"a constant with a number": func(p *api.Program) { p.Rules[0].Form = atom("p", api.Term{Kind: api.TmCon, Name: "c", N: 1}) },
		"an unknown constant":      func(p *api.Program) { p.Rules[0].Form = atom("p", con("d")) },
		"a free bound variable":    func(p *api.Program) { p.Rules[0].Form = atom("p", bound(0)) },
		"a negative one":           func(p *api.Program) { p.Rules[0].Form = quant(api.FoAll, "x", i, atom("p", bound(-1))) },
		"one that is too great":    func(p *api.Program) { p.Rules[0].Form = quant(api.FoAll, "x", i, atom("p", bound(1))) },
		"one with a name": func(p *api.Program) {
			p.Rules[0].Form = quant(api.FoAll, "x", i, atom("p", api.Term{Kind: api.TmBound, Name: "x"}))
		},
		"a variable in a rule":             func(p *api.Program) { p.Rules[0].Form = atom("p", tmVar(0)) },
		"a variable that is not there":     func(p *api.Program) { p.Queries[0].Form = atom("p", tmVar(1, con("c"))) },
		"a negative variable":              func(p *api.Program) { p.Queries[0].Form = atom("p", tmVar(-1, con("c"))) },
		"a variable applied to a constant": func(p *api.Program) { p.Queries[0].Form = atom("p", tmVar(0, con("c"))) },
		"a lambda with a name": func(p *api.Program) {
			p.Rules[0].Form = atom("q", api.Term{Kind: api.TmLam, Name: "x", Args: []api.Term{con("c")}})
		},
		"a lambda with a number": func(p *api.Program) {
			p.Rules[0].Form = atom("q", api.Term{Kind: api.TmLam, N: 1, Args: []api.Term{con("c")}})
		},
		"a lambda of two": func(p *api.Program) {
			p.Rules[0].Form = atom("q", api.Term{Kind: api.TmLam, Args: []api.Term{con("c"), con("c")}})
		},
		"a lambda of a base type":     func(p *api.Program) { p.Rules[0].Form = atom("p", lambda(con("c"))) },
		"a term that is not eta-long": func(p *api.Program) { p.Rules[0].Form = atom("q", con("f")) },
		"a term of another type":      func(p *api.Program) { p.Rules[0].Form = atom("a", con("c")) },
		"too few Args":                func(p *api.Program) { p.Rules[0].Form = atom("p", con("f")) },
		"too many Args":               func(p *api.Program) { p.Rules[0].Form = atom("p", con("c", con("c"))) },
		"Args of another type":        func(p *api.Program) { p.Rules[0].Form = atom("p", con("lam", con("c"))) },
		"a chosen variable applied to a chosen one": func(p *api.Program) {
			p.Rules[0].Form = quant(api.FoAll, "F", fn(i, i), quant(api.FoAll, "x", i, atom("p", bound(1, bound(0)))))
		},
		"one applied to a variable twice": func(p *api.Program) {
			p.Queries[0].Form = quant(api.FoEx, "F", fn(i, i, i), quant(api.FoAll, "x", i, atom("p", bound(1, bound(0), bound(0)))))
		},
		"one applied to a variable with an Arg": func(p *api.Program) {
			p.Queries[0].Form = quant(api.FoEx, "F", fn(i, i), quant(api.FoAll, "x", fn(i, i), atom("p", bound(1, bound(0, con("c"))))))
		},
		"a query's variable applied to one twice": func(p *api.Program) {
			p.Queries[0] = api.Query{Name: "s", Vars: []api.Named{{Name: "X", Type: fn(i, i, i)}}, Form: quant(api.FoAll, "x", i, atom("p", tmVar(0, bound(0), bound(0))))}
		},
		"one applied to an outer variable": func(p *api.Program) {
			p.Queries[0].Form = quant(api.FoAll, "x", i, quant(api.FoEx, "F", fn(i, i), atom("p", bound(0, bound(1)))))
		},
		"one that has no variable type": func(p *api.Program) { p.Rules[0].Form = quant(api.FoAll, "F", fn(fn(i, i), i), fo(api.FoOne)) },
	} {
		p := valid()
		if err := types.Check(p); err != api.OK {
			t.Fatalf("Check = %v", err)
		}
		change(&p)
		if err := types.Check(p); err != api.ErrProgram || validProgram(p) {
			t.Errorf("%v: %v, %v", what, err, validProgram(p))
		}
	}
	for what, f := range map[string]api.Form{
		"a fixed variable applied to a constant": fo(api.FoMonad, quant(api.FoEx, "F", fn(i, i), atom("p", bound(0, con("c"))))), "one that has no variable type": quant(api.FoEx, "F", fn(fn(i, i), i), fo(api.FoOne)),
		"a chosen variable applied to a lambda's": quant(api.FoAll, "F", fn(i, i), atom("q", lambda(bound(1, bound(0))))), "one applied to fixed ones": quant(api.FoAll, "F", fn(i, i, i), quant(api.FoEx, "X", i, quant(api.FoEx, "x", i, atom("p", bound(2, bound(0), bound(1)))))),
	} {
		p := valid()
		p.Rules[0].Form = f
		if err := types.Check(p); err != api.OK {
			t.Errorf("%v: %v", what, err)
		}
	}
}

// several is a list of this many elements.
func several[T any](count int, one func(k int) T) []T {
	var l []T
	for k := range count {
		l = append(l, one(k))
	}
	return l
}

// P3.1, T2: each limit, and one beyond it.
func TestLimits(t *testing.T) {
	long := func(k int) string { return fmt.Sprint("n", k) }
	one := fo(api.FoOne)
	nine := fn(several(10, func(int) api.Type { return i })...)
	args := several(9, func(int) api.Term { return con("c") })
	deep := func(levels int) api.Type { return fn(several(levels, func(int) api.Type { return i })...) }
	nested := func(levels int) api.Term {
		x := con("c")
		for range levels - 1 {
			x = con("f", x)
		}
		return x
	}
	rule := func(f api.Form) []api.Rule { return []api.Rule{{Name: "r", Use: 1, Form: f}} }
	query := func(f api.Form) []api.Query { return []api.Query{{Name: "r", Form: f}} }
	base, _, _ := types.Infer(parsed(t, exampleText))
	base.Consts = append(base.Consts, api.Const{Name: "k", Type: nine.Args[1]}, api.Const{Name: "m", Type: nine})
	for what, w := range map[string]struct {
		change func(p *api.Program, more int)
		err    api.Errno
	}{
		"types": {func(p *api.Program, more int) { p.Types = append(p.Types, several(39+more, long)...) }, api.ErrLong},
		"constants": {func(p *api.Program, more int) {
			p.Consts = append(p.Consts, several(195+more, func(k int) api.Const { return api.Const{Name: long(k), Type: i} })...)
		}, api.ErrLong},
		"predicates": {func(p *api.Program, more int) {
			p.Preds = append(p.Preds, several(98+more, func(k int) api.Pred { return api.Pred{Name: long(k), Kind: 1} })...)
		}, api.ErrLong},
		"rules": {func(p *api.Program, more int) {
			p.Rules = several(150+more, func(k int) api.Rule { return api.Rule{Name: long(k), Use: 1, Form: one} })
		}, api.ErrLong},
		"queries": {func(p *api.Program, more int) {
			p.Queries = several(40+more, func(k int) api.Query { return api.Query{Name: long(k), Form: one} })
		}, api.ErrLong},
		"Types": {func(p *api.Program, more int) { p.Preds[0].Types = several(8+more, func(int) api.Type { return i }) }, api.ErrLong},
		"Vars": {func(p *api.Program, more int) {
			p.Queries = query(one)
			p.Queries[0].Vars = several(8+more, func(k int) api.Named { return api.Named{Name: fmt.Sprint("X", k), Type: i} })
		}, api.ErrLong},
		"Args": {func(p *api.Program, more int) {
			p.Rules = rule(atom("p", con([]string{"k", "m"}[more], args[:8+more]...)))
		}, api.ErrProgram},
		"variables": {func(p *api.Program, more int) {
			p.Rules = rule(quant(api.FoAll, "F", []api.Type{nine.Args[1], nine}[more], one))
		}, api.ErrProgram},
		"type parts": {func(p *api.Program, more int) {
			p.Consts = []api.Const{{Name: "c", Type: typeOf(2001, i)}}
			p.Preds = []api.Pred{{Name: "p", Kind: 1, Types: []api.Type{typeOf(1997, i), i, i}[:2+more]}, {Name: "q", Kind: 2, Types: []api.Type{i}}}
		}, api.ErrLong},
		"rule parts": {func(p *api.Program, more int) {
			p.Rules = append(rule(formOf(2000+more)), api.Rule{Name: "s", Use: 1, Form: formOf(2000)})
		}, api.ErrLong},
		"query parts": {func(p *api.Program, more int) {
			p.Queries = []api.Query{{Name: "r", Form: formOf(4000)}, {Name: "s", Form: formOf(4000 + more)}}
			p.Rules = rule(formOf(4000))
		}, api.ErrLong},
		"atom parts": {func(p *api.Program, more int) {
			p.Rules = rule(fo(api.FoTensor, atom("p", nested(97)), formOf(3901+more)))
		}, api.ErrLong},
		"inner parts": {func(p *api.Program, more int) {
			p.Rules = rule(quant(api.FoEx, "x", typeOf(1999, i), one))
			p.Queries = []api.Query{{Name: "r", Form: quant(api.FoAll, "x", typeOf(1999, i), one)}, {Name: "s", Form: one, Vars: []api.Named{{Name: "X", Type: i}, {Name: "Y", Type: i}, {Name: "Z", Type: i}}[:2+more]}}
		}, api.ErrLong},
		"parts of second Args": {func(p *api.Program, more int) {
			p.Consts = append(p.Consts, api.Const{Name: "b", Type: fn(i, i, i)})
			p.Rules = rule(fo(api.FoTensor, atom("p", con("b", con("c"), nested(90))), formOf(3906+more)))
		}, api.ErrLong},
		"levels of second Args": {func(p *api.Program, more int) {
			p.Consts = append(p.Consts, api.Const{Name: "b", Type: fn(i, i, i)})
			p.Rules = rule(atom("p", con("b", con("c"), nested(98+more))))
		}, api.ErrDeep},
		"const levels": {func(p *api.Program, more int) { p.Consts[0].Type, p.Rules = deep(100+more), nil }, api.ErrDeep},
		"pred levels":  {func(p *api.Program, more int) { p.Preds[0].Types = []api.Type{i, deep(100 + more)} }, api.ErrDeep},
		"rule levels":  {func(p *api.Program, more int) { p.Rules = rule(deepForm(100 + more)) }, api.ErrDeep},
		"term levels":  {func(p *api.Program, more int) { p.Queries = query(atom("p", nested(99+more))) }, api.ErrDeep},
		"both levels": {func(p *api.Program, more int) {
			p.Rules = rule(quant(api.FoAll, "x", i, fo(api.FoBang, atom("p", nested(97+more)))))
		}, api.ErrDeep},
		"query levels": {func(p *api.Program, more int) { p.Queries = query(deepForm(100 + more)) }, api.ErrDeep},
		"all levels":   {func(p *api.Program, more int) { p.Queries = query(quant(api.FoAll, "x", deep(100+more), deepForm(99))) }, api.ErrDeep},
	} {
		for more, want := range []api.Errno{api.OK, w.err} {
			p := replaced(base, "", "")
			w.change(&p, more)
			if err := types.Check(p); err != want {
				t.Errorf("%v, %v more: %v, not %v", what, more, err, want)
			}
			if want != api.OK {
				expectRefused(t, p, want)
			}
		}
	}
}

// expectRefused checks that all functions refuse a program in the same way, whatever their other arguments are.
func expectRefused(t *testing.T, p api.Program, want api.Errno) {
	t.Helper()
	q, blames, err := types.Query(p, "", api.Node{})
	r, blames2, err2 := types.Rule(p, "", 0, api.Node{})
	x, blames3, err3 := types.Term(p, nil, api.Type{}, api.Node{})
	n, err4 := types.Show(p)
	consts, err5 := types.Consts(p)
	preds, err6 := types.Preds(p)
	trim, err7 := types.Trim(p)
	for k, err := range []api.Errno{err, err2, err3, err4, err5, err6, err7} {
		if err != want {
			t.Errorf("function %v: %v, not %v", k, err, want)
		}
	}
	if len(blames)+len(blames2)+len(blames3)+len(consts)+len(preds) > 0 || types.Same(p, p) {
		t.Errorf("a result with the error %v", want)
	}
	for k, v := range []any{q, r, x, n, trim} {
		if !reflect.ValueOf(v).IsZero() {
			t.Errorf("result %v with the error %v", k, want)
		}
	}
}

// P3.1, T2: which error is the first, and values that have no end.
func TestOrderOfErrors(t *testing.T) {
	wrong := func() api.Program { return api.Program{Types: []string{"X"}} }
	deep, large := deepForm(101), formOf(4001)
	long := fn(several(100, func(int) api.Type { return i })...)
	endless := api.Type{Name: "->", Args: make([]api.Type, 2)}
	endless.Args[0], endless.Args[1] = endless, endless
	term := api.Term{Kind: api.TmCon, Name: "c", Args: make([]api.Term, 1000)}
	for k := range term.Args {
		term.Args[k] = term
	}
	form := fo(api.FoTensor, fo(api.FoOne), fo(api.FoOne))
	form.L[0], form.L[1] = form, form
	shared := fo(api.FoOne)
	for range 70 {
		shared = fo(api.FoWith, shared, shared)
	}
	for what, w := range map[string]struct {
		change func(p *api.Program)
		err    api.Errno
	}{
		"wrong":          {func(p *api.Program) {}, api.ErrProgram},
		"deep and wrong": {func(p *api.Program) { p.Rules = []api.Rule{{Name: "r", Form: deep}} }, api.ErrDeep},
		"long and deep": {func(p *api.Program) {
			p.Rules = []api.Rule{{Name: "r", Form: deep}}
			p.Queries = []api.Query{{Name: "r", Form: large}}
		}, api.ErrLong},
		"many and deep": {func(p *api.Program) {
			p.Rules = []api.Rule{{Name: "r", Form: deep}}
			p.Types = several(41, func(int) string { return "X" })
		}, api.ErrLong},
		"endless type": {func(p *api.Program) { p.Consts = []api.Const{{Name: "c", Type: endless}} }, api.ErrLong},
		"endless types": {func(p *api.Program) {
			p.Consts = []api.Const{{Type: endless}, {Type: endless}}
			p.Preds = []api.Pred{{Types: []api.Type{endless, endless}}}
		}, api.ErrLong},
		"endless rules": {func(p *api.Program) {
			p.Rules = []api.Rule{{Form: form}, {Form: form}, {Form: atom("p", term, term)}, {Form: quant(api.FoEx, "x", endless, form)}}
		}, api.ErrLong},
		"wrong Vars":     {func(p *api.Program) { p.Queries = []api.Query{{Vars: []api.Named{{Type: long}}}} }, api.ErrProgram},
		"deep Vars":      {func(p *api.Program) { p.Queries = []api.Query{{Vars: []api.Named{{Type: fn(i, long)}}}} }, api.ErrDeep},
		"endless Types":  {func(p *api.Program) { p.Preds = []api.Pred{{Name: "c", Types: []api.Type{endless}}} }, api.ErrLong},
		"endless Vars":   {func(p *api.Program) { p.Queries = []api.Query{{Vars: []api.Named{{Type: endless}}}} }, api.ErrLong},
		"endless inside": {func(p *api.Program) { p.Queries = []api.Query{{Form: quant(api.FoAll, "x", endless, fo(api.FoOne))}} }, api.ErrLong},
		"endless term":   {func(p *api.Program) { p.Queries = []api.Query{{Form: atom("p", term)}} }, api.ErrLong},
		"endless rule":   {func(p *api.Program) { p.Rules = []api.Rule{{Form: form}} }, api.ErrLong},
		"endless query":  {func(p *api.Program) { p.Queries = []api.Query{{Form: form}} }, api.ErrLong},
		"shared":         {func(p *api.Program) { p.Rules = []api.Rule{{Form: shared}} }, api.ErrLong},
		"odd":            {func(p *api.Program) { p.Rules = []api.Rule{{Form: api.Form{Kind: -1, Args: term.Args, Type: endless}}} }, api.ErrProgram},
	} {
		p := wrong()
		w.change(&p)
		if err := types.Check(p); err != w.err {
			t.Errorf("%v: %v, not %v", what, err, w.err)
		}
		expectRefused(t, p, w.err)
	}
}

// items is a text with this many items of a form.
func items(count int, form string) string {
	var out strings.Builder
	for k := range count {
		out.WriteString(strings.ReplaceAll(form, "#", fmt.Sprint(k)) + " ")
	}
	return out.String()
}

// P3.1, T1 and T4: each limit of what Infer returns, and one beyond it.
func TestInferLimits(t *testing.T) {
	bangs := func(count int) string { return strings.Repeat("!", count) }
	arrows := strings.Repeat("i -> ", 8)
	wide := func(parts int) string { return typeString(typeOf(parts, i)) }
	for what, w := range map[string]struct {
		text string
		more string
		err  api.Errno
	}{
		"types":                  {items(40, "type t#."), "type u.", api.ErrLong},
		"constants":              {"type i. " + items(200, "const c#: i."), "const d: i.", api.ErrLong},
		"predicates":             {items(100, "pred p#."), "fact q.", api.ErrLong},
		"rules":                  {items(75, "rule p#: one.") + items(75, "most q#: one."), "once r: one.", api.ErrLong},
		"queries":                {items(40, "query p#: one."), "query q: one.", api.ErrLong},
		"Vars":                   {exampleText + "query s: " + strings.Join(several(8, func(k int) string { return fmt.Sprint("p X", k) }), " * ") + ".", "query t: " + strings.Join(several(9, func(k int) string { return fmt.Sprint("p X", k) }), " * ") + ".", api.ErrLong},
		"Args":                   {exampleText + "pred k (" + arrows + "i). const m: " + arrows + "i. const n: i -> " + arrows + "i. pred l (i -> " + arrows + "i). rule r: k m. rule s: k (n c).", "", api.ErrLong},
		"Args that are expanded": {exampleText + "pred k (" + arrows + "i). const m: " + arrows + "i. const n: i -> " + arrows + "i. pred l (i -> " + arrows + "i). rule r: k m.", "rule s: l n.", api.ErrLong},
		"variables":              {exampleText + "rule r: " + strings.Join(several(40, func(k int) string { return fmt.Sprint("p X", k) }), " * ") + ".", "", api.OK},
		"type parts":             {"type i. const a, b: " + wide(1999) + ". const c: i. pred p i.", "pred q i.", api.ErrLong},
		"shared types":           {"type i. const a: i.", "const " + strings.Join(several(150, func(k int) string { return fmt.Sprint("d", k) }), ", ") + ": " + wide(27) + ".", api.ErrLong},
		"rule parts":             {exampleText + eights + "rule r: " + conjunction(125) + ". query s: " + conjunction(153) + ". query t: " + conjunction(60) + ".", "rule s: " + conjunction(29) + ".", api.ErrLong},
		"query parts":            {exampleText + eights + "query s: " + conjunction(153) + ".", "query t: " + conjunction(154) + ".", api.ErrLong},
		"inner parts":            {exampleText + "const k: (" + typeString(branching(3)) + ") -> i. query z: all y: i -> i -> i. one. " + items(5, "query q#: all x. p (k x)."), "query s: all x: i. one.", api.ErrLong},
		"rule levels":            {exampleText + "rule r: " + bangs(94) + "(p X * p Y * one).", "rule s: " + bangs(93) + "(p X * p Y * p Z * one).", api.ErrDeep},
		"query levels":           {exampleText + "pred b (i -> i -> i). query r: " + bangs(95) + "b X.", "query s: " + bangs(96) + "b X.", api.ErrDeep},
	} {
		p, blames, err := types.Infer(parsed(t, w.text))
		wantErr := api.OK
		if w.more == "" {
			wantErr = w.err
		}
		if err != wantErr || len(blames) > 0 || wantErr == api.OK && types.Check(p) != api.OK {
			t.Errorf("%v: %v, %v", what, err, blames)
		}
		if w.more == "" {
			continue
		}
		p, blames, err = types.Infer(parsed(t, w.text+w.more))
		if err != w.err || len(blames) > 0 || !reflect.DeepEqual(p, api.Program{}) {
			t.Errorf("%v, and more: %v, %v", what, err, blames)
		}
		if _, blames, err := types.Infer(parsed(t, w.text+w.more+" use m.")); err != api.ErrTypes || len(blames) != 1 {
			t.Errorf("%v, and a blame: %v, %v", what, err, blames)
		}
	}
}

// eights declares a predicate whose terms are expanded: an atom with 8 times f has 25 parts, and 9 nodes.
const eights = "pred e (i -> i) (i -> i) (i -> i) (i -> i) (i -> i) (i -> i) (i -> i) (i -> i). "

// conjoined is a formula of a number of others, in groups, so that it is not deep.
func conjoined(count int, form string) string {
	if count == 1 {
		return form
	}
	return "(" + conjoined(count/2, form) + " * " + conjoined(count-count/2, form) + ")"
}

// conjunction is a formula of 26 parts for each of so many atoms, less one.
func conjunction(count int) string { return conjoined(count, "e f f f f f f f f") }

// typeString is a type as it stands in a text.
func typeString(t api.Type) string {
	n, _ := types.Tree(t)
	s, _ := syntax.Print(n)
	return s
}

// branching is a type of 15, 113 or 799 parts, with 7 arguments of the one before it; a term that is expanded to it has as many.
func branching(deep int) api.Type {
	if deep == 0 {
		return i
	}
	return fn(append(several(7, func(int) api.Type { return branching(deep - 1) }), i)...)
}

// P3.1, T4: what is too large, or too deep, as a query and a rule.
func TestFormLimits(t *testing.T) {
	p, _, err := types.Infer(parsed(t, exampleText+eights+"const m: i -> i -> i -> i -> i -> i -> i -> i -> i -> i. pred l (i -> i -> i -> i -> i -> i -> i -> i -> i -> i). const k: ("+typeString(branching(2))+") -> i."))
	if err != api.OK {
		t.Fatal(err)
	}
	wide := func(parts int) string { return typeString(typeOf(parts, i)) }
	for text, want := range map[string]api.Errno{
		conjunction(153): api.OK, conjunction(153) + " * " + strings.Repeat("!", 21) + "one": api.OK, conjunction(153) + " * " + strings.Repeat("!", 22) + "one": api.ErrLong, conjunction(200): api.ErrLong, "l m": api.ErrLong, "p (f (m c c c c c c c c)) * p d": api.ErrTypes,
		strings.Repeat("!", 96) + "q f": api.OK, strings.Repeat("!", 97) + "q f": api.ErrDeep,
		"(all y: " + wide(3887) + ". one) * all x. p (k x)": api.OK, "(all y: " + wide(3889) + ". one) * all x. p (k x)": api.ErrLong,
	} {
		n, _, err := syntax.ParseForm(text)
		if err != api.OK {
			t.Fatalf("ParseForm of %.50q = %v", text, err)
		}
		if q, blames, err := types.Query(p, "q", n); err != want || (len(blames) > 0) != (want == api.ErrTypes) || err != api.OK && !reflect.DeepEqual(q, api.Query{}) {
			t.Errorf("Query of %.50q = %v, %v; not %v", text, err, blames, want)
		}
		if n.L = slices.Clone(n.L); strings.Contains(text, "all") {
			n = nd(api.NdFrom, nd(api.NdOne), n)
		}
		if r, blames, err := types.Rule(p, "q", 1, n); err != want || (len(blames) > 0) != (want == api.ErrTypes) || err != api.OK && !reflect.DeepEqual(r, api.Rule{}) {
			t.Errorf("Rule of %.50q = %v, %v; not %v", text, err, blames, want)
		}
	}
}

// P3.1, T5: what is too large, or too deep, as a term.
func TestTermLimits(t *testing.T) {
	p, _, _ := types.Infer(parsed(t, exampleText+"const b, m: i -> i -> i. const g: (i -> i -> i) -> i."))
	// Of g m, two nodes, 6 parts are made.
	var joined func(count int) api.Node
	joined = func(count int) api.Node {
		if count == 1 {
			return nm("g", nm("m"))
		}
		return nm("b", joined(count/2), joined(count-count/2))
	}
	for _, w := range []struct {
		n     api.Node
		outer int // how many f stand around it
		parts int
		err   api.Errno
	}{
		{joined(571), 0, 3996, api.OK}, {joined(571), 4, 4000, api.OK}, {joined(571), 5, 0, api.ErrLong}, {joined(1000), 0, 0, api.ErrLong},
		{nm("lam", nm("f")), 96, 100, api.OK}, {nm("lam", nm("f")), 97, 0, api.ErrDeep}, {nm("lam", nm("f")), 98, 0, api.ErrDeep}, {nm("lam", nm("f")), 99, 0, api.ErrDeep},
	} {
		for range w.outer {
			w.n = nm("f", w.n)
		}
		x, blames, err := types.Term(p, nil, i, w.n)
		if err != w.err || len(blames) > 0 || err == api.OK && partsOf(x) != w.parts || err != api.OK && !reflect.DeepEqual(x, api.Term{}) {
			t.Errorf("%v f: %v parts, %v, %v; not %v, %v", w.outer, partsOf(x), blames, err, w.parts, w.err)
		}
	}
}

func partsOf(x api.Term) int {
	count := 1
	for _, y := range x.Args {
		count += partsOf(y)
	}
	return count
}
