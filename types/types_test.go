package types_test

import (
	"fmt"
	"math/rand"
	"reflect"
	"slices"
	"strings"
	"testing"

	"peculium/api"
	"peculium/syntax"
	"peculium/types"
)

// exampleText is what the chapter's examples declare: 6 items.
const exampleText = "type i. const c: i. const f: i -> i. const lam: (i -> i) -> i. pred p i. pred q (i -> i). "

var i, o = base("i"), base("o")

func con(name string, l ...api.Term) api.Term { return api.Term{Kind: api.TmCon, Name: name, Args: l} }
func bound(n int, l ...api.Term) api.Term     { return api.Term{Kind: api.TmBound, N: n, Args: l} }
func tmVar(n int, l ...api.Term) api.Term     { return api.Term{Kind: api.TmVar, N: n, Args: l} }
func lambda(body api.Term) api.Term           { return api.Term{Kind: api.TmLam, Args: []api.Term{body}} }

func atom(name string, l ...api.Term) api.Form {
	return api.Form{Kind: api.FoAtom, Name: name, Args: l}
}
func fo(kind int, l ...api.Form) api.Form { return api.Form{Kind: kind, L: l} }
func quant(kind int, name string, t api.Type, f api.Form) api.Form {
	return api.Form{Kind: kind, Name: name, Type: t, L: []api.Form{f}}
}

// P3.1, T1: the chapter's examples.
func TestExamples(t *testing.T) {
	x := quant(api.FoAll, "X", i, fo(api.FoLolli, atom("p", bound(0)), atom("p", con("f", bound(0)))))
	y := quant(api.FoAll, "F", fn(i, i), fo(api.FoLolli,
		quant(api.FoAll, "x", i, atom("p", bound(1, bound(0)))),
		atom("p", con("lam", lambda(bound(1, bound(0)))))))
	for text, want := range map[string]api.Form{
		"rule r: p (f X) o- p X.":                  x,
		"rule r: q f.":                             atom("q", lambda(con("f", bound(0)))),
		"rule r: p (lam F) o- all x. p (F x).":     y,
		"query s: q X.":                            atom("q", lambda(tmVar(0, bound(0)))),
		"query s: ex Y. all x: i. p (Y x).":        quant(api.FoEx, "Y", fn(i, i), quant(api.FoAll, "x", i, atom("p", bound(1, bound(0))))),
		"rule r: p (f X) <= p X.":                  quant(api.FoAll, "X", i, fo(api.FoImp, atom("p", bound(0)), atom("p", con("f", bound(0))))),
		"once r: {p c} & !one + top * one -o p c.": fo(api.FoLolli, fo(api.FoPlus, fo(api.FoWith, fo(api.FoMonad, atom("p", con("c"))), fo(api.FoBang, fo(api.FoOne))), fo(api.FoTensor, fo(api.FoTop), fo(api.FoOne))), atom("p", con("c"))),
	} {
		p, blames, err := types.Infer(parsed(t, exampleText+text))
		if err != api.OK || len(blames) > 0 {
			t.Errorf("%q: %v, %v", text, blames, err)
			continue
		}
		var got api.Form
		for _, r := range p.Rules {
			got = r.Form
		}
		for _, q := range p.Queries {
			got = q.Form
		}
		if !reflect.DeepEqual(got, want) {
			t.Errorf("%q: %v, not %v", text, formText(got, 0), formText(want, 0))
		}
	}
	p, _, _ := types.Infer(parsed(t, exampleText+"query s: q X."))
	if want := []api.Named{{Name: "X", Type: fn(i, i)}}; len(p.Queries) != 1 || !reflect.DeepEqual(p.Queries[0].Vars, want) {
		t.Errorf("the query is %v", p.Queries)
	}
}

// P3.1, T1: the fields of a program.
func TestProgram(t *testing.T) {
	n := parsed(t, `query u: p Y X.
		most m: one. once o: one. rule l: one.
		mode p in any. fact a. lasting l (i -> o) i. pred p i i. mode a. mode l out in.
		const d, c: i -> i. const e: o. type o. type i, t.`)
	p, blames, err := types.Infer(n)
	want := api.Program{
		Types:  []string{"o", "i", "t"},
		Consts: []api.Const{{Name: "d", Type: fn(i, i)}, {Name: "c", Type: fn(i, i)}, {Name: "e", Type: o}},
		Preds: []api.Pred{
			{Name: "a", Kind: api.PrFact}, {Name: "l", Types: []api.Type{fn(i, o), i}, Kind: api.PrLast, Modes: []int{api.MdOut, api.MdIn}},
			{Name: "p", Types: []api.Type{i, i}, Kind: api.PrBack, Modes: []int{api.MdIn, api.MdNone}},
		},
		Rules: []api.Rule{
			{Name: "m", Form: fo(api.FoOne), Use: api.UsMost}, {Name: "o", Form: fo(api.FoOne), Use: api.UsOnce}, {Name: "l", Form: fo(api.FoOne), Use: api.UsLast},
		},
		Queries: []api.Query{{Name: "u", Vars: []api.Named{{Name: "Y", Type: i}, {Name: "X", Type: i}}, Form: atom("p", tmVar(0), tmVar(1))}},
	}
	if err != api.OK || len(blames) > 0 || !reflect.DeepEqual(p, want) {
		t.Errorf("Infer = %v, %v, %v; not %v", p, blames, err, want)
	}
	if p, blames, err := types.Infer(nd(api.NdText)); err != api.OK || len(blames) > 0 || !reflect.DeepEqual(p, api.Program{}) {
		t.Errorf("Infer of nothing = %v, %v, %v", p, blames, err)
	}
}

// blamesText writes blames: a code and a path each.
func blamesText(blames []api.Blame) string {
	var l []string
	for _, b := range blames {
		l = append(l, fmt.Sprintf("%v%v", b.Code, b.Path))
	}
	return strings.Join(l, " ")
}

// P3.1, T1: each line of the blames, and which one is the first.
func TestBlames(t *testing.T) {
	for text, want := range map[string]string{
		// The chapter's examples. (It has BlPattern for the last one, but by its lines the types of F and X are open.)
		"rule r: p d.": "5[6 0 0]", "rule r: p c c.": "6[6 0]", "rule r: p (c c).": "7[6 0 0]", "rule r: p f.": "7[6 0 0]", "rule r: p (F c).": "9[6 0 0]", "rule r: all x. one.": "8[6 0]",
		"query s: all x: i. ex Y. p (Y x).": "9[6 0 1 0 0]", "query s: all x. p (Y x).": "8[6 0]", "query s: ex Y. all x: i. p (Y x).": "", "rule r: p (F X).": "8[6 0 0]",
		// 1: items that a program does not have.
		"module m.": "1[6]", "use m. export c. rule r: p c.": "1[6] 1[7]",
		// 2: names that are there already; of different sorts they may be the same.
		"type j, i.": "2[6 1]", "type j, k, j, j.": "2[6 2]", "const c: i.": "2[6 0]", "const d, e, p, d: i.": "2[6 2]", "const d, d: t.": "2[6 1]", "pred c i.": "2[6]", "fact p.": "2[6]", "lasting q i.": "2[6]",
		"const i, r: i. rule r: p r. query r: p i. rule i: p c. pred s. type s. query s: s.": "", "rule r: one. once r: top. query r: one.": "2[7]", "query r: one. most r: one. query r: p d.": "2[8]", "pred s. pred s i. rule r: s. once r: s c.": "2[7] 2[9]",
		"const d: i -> i. const d: i. rule r: p (d c). rule s: p d.": "2[7 0] 7[9 0 0]", "const d: i. pred d i. rule r: p d. rule s: d c.": "2[7] 5[9 0]", "pred d i. const d: i. rule r: d c. rule s: p d.": "2[7 0] 5[9 0 0]",
		"const d, d, e: i. const e: i.": "2[6 1] 2[7 0]", "type j, j, k. type k.": "2[6 1] 2[7 0]",
		// 3: names in types.
		"const d, e: i -> (i -> t).": "3[6 2 1 1]", "pred s i (i -> t) u.": "3[6 1 1]", "fact s p.": "3[6 0]", "lasting s c.": "3[6 0]", "rule r: all x: t. p d.": "3[6 0 0]", "rule r: p d * all x. all y: i -> t. one.": "3[6 0 1 0 0 1]", "query s: q (\\x: t. x).": "3[6 0 0 0]",
		"rule r: ex x: x. p x.": "3[6 0 0]", "const d: d. pred s t. rule r: s X * p d.": "3[6 1] 3[7 0] 7[8 0 1 0]",
		// A type that is not there is a type like others.
		"pred s t. const k: t -> i. rule r: s X o- p (k X). rule l: s X o- p X. rule m: s (F X).": "3[6 0] 3[7 1 0] 7[9 0 1 0] 8[10 0 0]",
		// 4: modes.
		"mode s in.": "4[6]", "mode c in.": "4[6]", "mode p in out. mode p. mode q any.": "4[6] 4[7]", "mode p in. mode p out. mode q in. mode p in.": "2[7] 2[9]", "mode p in in. mode p in. mode p in in.": "4[6] 2[7] 4[8]", "mode s in. mode s in. fact s i.": "2[7]",
		"pred s. mode s. mode s.": "2[8]", "mode i in.": "4[6]",
		// 5: names that denote nothing, predicates that are not there, and how many terms they have.
		"rule r: s.": "5[6 0]", "rule r: s d.": "5[6 0]", "rule r: c.": "5[6 0]", "rule r: p * s.": "6[6 0 0]", "rule r: s * p.": "5[6 0 0]", "rule r: p d c.": "6[6 0]", "rule r: p (f d) * p c c.": "5[6 0 0 0 0]", "rule r: p (p c).": "5[6 0 0]", "rule r: p i.": "5[6 0 0]",
		"rule r: all p: i. p p.": "", "rule r: all c: i. p c o- p c.": "", "rule r: (all x. p x) * p x.": "5[6 0 1 0]", "rule r: q (\\x. x) o- p x.": "5[6 0 1 0]", "rule r: p (X d) o- p.": "5[6 0 0 0 0]", "rule r: q (\\X. X) o- p X.": "", "rule r: p (d (c c)) * all x. one.": "5[6 0 0 0]",
		// 6: equations that have no solution, by the first node that has none with those ahead.
		"rule r: q c.": "7[6 0 0]", "rule r: p (\\x. x).": "7[6 0 0]", "rule r: q (\\x: i -> i. c).": "7[6 0 0]", "rule r: q (\\x. \\y. c).": "7[6 0 0 0]", "rule r: p (f f).": "7[6 0 0 0]", "rule r: p (f c c).": "7[6 0 0]", "rule r: p X * q X.": "7[6 0 1 0]",
		"rule r: p (X X).": "7[6 0 0 0]", "rule r: p (F X) * q (F X).": "7[6 0 1 0]", "rule r: p (F G) * p (G F).": "7[6 0 1 0 0]", "rule r: p (F G) * p (G H) * p (H F).": "7[6 0 1 1 0 0]", "rule r: all x: i. q x.": "7[6 0 1 0]", "rule r: all x: i -> i. all y. q x * p y * p x.": "7[6 0 1 0 1 1 0]",
		"rule r: q X o- p X.": "7[6 0 1 0]", "rule r: p (X (\\x. x)) * p (X (\\x. \\y. x)) * p (X f) * p (X (\\x. \\y. x)).": "7[6 0 1 0 0 0 0 0]", "rule r: p (X Y) * all x: i. p (Y x) * q (X x).": "7[6 0 1 1 1 0]",
		// 7: types that are not determined.
		"rule r: p (F (\\x. x)).": "8[6 0 0]", "rule r: p X o- ex Y. p (lam (\\x. X)).": "8[6 0 1]", "rule r: p (F X Y) o- p X.": "8[6 0 0 0]", "rule r: p (F X Y) o- p Y.": "8[6 0 0 0]", "rule r: all x. all y. p y.": "8[6 0]", "rule r: all x. all y. p x.": "8[6 0 0]", "query s: p c * all X. top.": "8[6 0 1]",
		"rule r: all x: i. p (F x (\\y. x)).": "8[6 0 1 0]", "rule r: p (F (\\x: i. \\y. x) c).": "8[6 0 0]",
		// 8: chosen variables.
		"rule r: all F. p (F c).": "9[6 0 0 0]", "rule r: all F. p (F (F c)).": "9[6 0 0 0]", "rule r: all F. all x: i. p (F x).": "9[6 0 0 1 0]", "rule r: p (F c c) * p X.": "9[6 0 0 0]", "rule r: p c o- all x: i. all y: i. p (F x y x).": "9[6 0 1 1 1 0]",
		"rule r: p c o- all x: i. all y: i. p (F y x).": "", "rule r: p c o- all x: i. p (F (f x)).": "9[6 0 1 1 0]", "rule r: p c o- all x: i. q (F x).": "", "rule r: q (\\x. F x).": "", "rule r: q (\\x. F x x).": "9[6 0 0 0]", "rule r: p c o- all x: i -> i. p (F (x c)).": "9[6 0 1 1 0]",
		"rule r: all F: (i -> i) -> i. one.": "9[6 0]", "rule r: one o- all F: (i -> i) -> i. p (F f).": "", "rule r: one o- ex F: (i -> i) -> i. one.": "9[6 0 1]", "rule r: ex F: (i -> i) -> i. p (F f).": "", "rule r: p (F f) o- q F.": "7[6 0 1 0]", "rule r: p (F f).": "9[6 0 0]",
		"rule r: {ex F. p (F c)} o- p c.": "", "rule r: {all F. p (F c)}.": "9[6 0 0 0 0]", "rule r: {p c o- all F. p (F c)}.": "", "rule r: {ex F. p (F c)} * p c -o one.": "9[6 0 0 0 0 0 0]", "query s: {all F. p (F c)}.": "", "query s: {ex F. p (F c)}.": "9[6 0 0 0 0]", "query s: (all F. p (F c)) => one.": "9[6 0 0 0 0]",
		"query s: one <= (all x: i. p (X x)).": "9[6 0 1 1 0]", "query s: one <= (ex x: i. p (X x)).": "", "query s: all x: i. p (X x).": "", "query s: all x: i. ex y: i. p (Y y).": "9[6 0 1 1 0]", "query s: ex y: i. all x: i. p (\\z. z) x.": "6[6 0 1 1]",
		"query s: all x: i. ex Y. p (Y x) * p Y.": "7[6 0 1 0 1 0]", "query s: all x: i. ex Y. q (\\z. Y x).": "9[6 0 1 0 0 0]", "query s: all x: i. ex Y. q (\\z. Y z).": "", "query s: all x: i. ex Y. q Y.": "", "query s: all x: i. ex Y. q (\\x. Y x).": "", "query s: p (lam X) * p (X Y).": "9[6 0 1 0]",
		"query s: !(all x: i. p (X x)) & (ex x: i. p (X x)).": "9[6 0 1 1 0]",
		// Lines count ahead of nodes; types, ahead of all, are named within them.
		"rule r: p f * p d.": "5[6 0 1 0]", "rule r: all x. p c * p f.": "7[6 0 0 1 0]", "rule r: p (F c) * all x. one.": "8[6 0 1]", "rule r: p (F c) * all x: t. p d * p f.": "3[6 0 1 0]", "rule r: one. rule r: all x: t. p d.": "2[7]", "mode p in out. type i. const d: t. rule r: p d c.": "4[6] 2[7 0] 3[8 1] 6[9 0]",
	} {
		p, blames, err := types.Infer(parsed(t, exampleText+text))
		wantErr := api.OK
		if want != "" {
			wantErr = api.ErrTypes
		}
		if got := blamesText(blames); got != want || err != wantErr || (err != api.OK) != reflect.DeepEqual(p, api.Program{}) {
			t.Errorf("Infer of %q: %v, %v; not %v", text, got, err, want)
		}
	}
}

// P3.1: how many base types a variable type may have as arguments.
func TestVariableTypes(t *testing.T) {
	for args, want := range map[int]string{8: "", 9: "9[6 0]"} {
		typ := strings.Repeat("i -> ", args) + "i"
		_, blames, _ := types.Infer(parsed(t, exampleText+"rule r: all F: "+typ+". one."))
		if got := blamesText(blames); got != want {
			t.Errorf("%v arguments: %v, not %v", args, got, want)
		}
	}
	_, blames, err := types.Infer(parsed(t, exampleText+"rule r: all F: i -> i -> i -> i -> i -> i -> i -> i -> i. one o- all a: i. all b. all c. all d. all e. all f. all g. all h. p (F h g f e d c b a)."))
	if err != api.OK {
		t.Errorf("8 arguments: %v, %v", blames, err)
	}
}

// P3.1: what is eta-expanded.
func TestExpanded(t *testing.T) {
	text := "type i, o. const c: i. const f: i -> i. const g: i -> o -> i. const k: (i -> i) -> o -> i. const l: ((i -> i) -> i) -> i. pred p i. pred q (i -> i). pred r (i -> o -> i). pred s ((i -> i) -> o -> i). pred t ((i -> i) -> i). "
	for item, want := range map[string]string{
		"rule x: q f.": `q[\(f(#0))]`, "rule x: r g.": `r[\(\(g(#0)(#1)))]`, "rule x: q (\\x. f x).": `q[\(f(#0))]`, "rule x: r (\\x. g x).": `r[\(\(g(#0)(#1)))]`, "rule x: r (\\x. g c).": `r[\(\(g(c)(#1)))]`,
		"rule x: s k.": `s[\(\(k(\(#0(#2)))(#1)))]`, "rule x: s (\\F. k F).": `s[\(\(k(\(#0(#2)))(#1)))]`, "rule x: s (\\F. k f).": `s[\(\(k(\(f(#2)))(#1)))]`, "rule x: t l.": "", "rule x: p (l (\\F. F c)).": `p[l(\(#0(c)))]`, "rule x: p (l (\\F. l (\\G. F (G c)))).": `p[l(\(l(\(#0(#1(c))))))]`,
		"rule x: q F.": `all F:->(i(),i())[q[\(#0(#1))]]`, "rule x: r F * r G.": `all F:->(i(),->(o(),i()))[all G:->(i(),->(o(),i()))[*[r[\(\(#0(#2)(#3)))] r[\(\(#1(#2)(#3)))]]]]`, "query x: r F * q G.": `F:->(i(),->(o(),i())). G:->(i(),i()). *[r[\(\(V0(#0)(#1)))] q[\(V1(#0))]]`,
		"query x: all y: i. all F: i -> o -> i. q (\\x. g (f y) z) o- r F.": "", "query x: all y: i. all F: i -> o -> i. r F.": `all y:i()[all F:->(i(),->(o(),i()))[r[\(\(#1(#2)(#3)))]]]`, "query x: all F: (i -> i) -> i. t F * p (F f).": `all F:->(->(i(),i()),i())[*[t[\(#0(\(#1(#2))))] p[#0(\(f(#1)))]]]`,
		"query x: all y: i. all G: i -> i -> i. q (G (f y)).": `all y:i()[all G:->(i(),->(i(),i()))[q[\(#1(f(#0))(#2))]]]`, "query x: all F: i -> i. all k: (i -> i) -> i -> i. q (k (k F)).": `all F:->(i(),i())[all k:->(->(i(),i()),->(i(),i()))[q[\(#1(\(#1(\(#0(#4)))(#3)))(#2))]]]`,
	} {
		p, _, err := types.Infer(parsed(t, text+item))
		got := ""
		for _, r := range p.Rules {
			got = formText(r.Form, 0)
		}
		for _, q := range p.Queries {
			got = queryText(q)
		}
		if got != want || (err == api.ErrTypes) != (want == "") {
			t.Errorf("%q: %v, %v; not %v", item, got, err, want)
		}
	}
}

// P3.1, T4: errors, and their order.
func TestQueryAndRule(t *testing.T) {
	p, _, _ := types.Infer(parsed(t, exampleText))
	bad := p
	bad.Types = nil
	form := func(s string) api.Node {
		n, _, err := syntax.ParseForm(s)
		if err != api.OK {
			t.Fatalf("ParseForm of %q = %v", s, err)
		}
		return n
	}
	good, wrong, invalid, term := form("p X"), form("p d"), nd(api.NdTensor), bd(api.NdLam, "x", nm("x"))
	many := func(count int) api.Node {
		n := form("one")
		for k := range count {
			n = nd(api.NdTensor, nm("p", vr(fmt.Sprint("X", k))), n)
		}
		return n
	}
	for _, w := range []struct {
		p    api.Program
		name string
		use  int
		n    api.Node
		err  api.Errno
	}{
		{p, "s", 1, good, api.OK}, {p, "s@m", 3, good, api.OK}, {bad, "S", 0, invalid, api.ErrProgram}, {bad, "s", 1, good, api.ErrProgram}, {p, "S", 0, invalid, api.ErrTree}, {p, "S", 0, term, api.ErrTree}, {p, "S", 0, nd(api.NdText), api.ErrTree},
		{p, "s", 1, vr("X"), api.ErrTree}, {p, "s", 1, nd(api.NdArrow, nm("i"), nm("i")), api.ErrTree}, {p, "s", 1, bd(api.NdRule, "r", nm("p", nm("c"))), api.ErrTree}, {p, "s", 1, api.Node{}, api.ErrTree},
		{p, "S", 1, wrong, api.ErrArg}, {p, "", 1, wrong, api.ErrArg}, {p, "all", 1, wrong, api.ErrArg}, {p, strings.Repeat("s", 41), 1, wrong, api.ErrArg}, {p, strings.Repeat("s", 40), 2, wrong, api.ErrTypes}, {p, "s", 1, wrong, api.ErrTypes},
		{p, "s", 1, many(8), api.OK}, {p, "s", 1, many(9), api.ErrArg}, {p, "s", 1, nd(api.NdTensor, many(9), wrong), api.ErrTypes},
		{p, "s", 1, nest(good, api.NdBang, 100), api.ErrDeep}, {p, "S", 1, nest(good, api.NdBang, 4000), api.ErrLong},
	} {
		q, blames, err := types.Query(w.p, w.name, w.n)
		r, blames2, err2 := types.Rule(w.p, w.name, w.use, w.n)
		if err != w.err || err2 != w.err || (len(blames) > 0) != (err == api.ErrTypes) || (len(blames2) > 0) != (err == api.ErrTypes) {
			t.Errorf("Query %v of %.99v = %v, %v; Rule %v, %v; not %v", w.name, shown(w.n), blames, err, blames2, err2, w.err)
		}
		if err != api.OK && (!reflect.DeepEqual(q, api.Query{}) || !reflect.DeepEqual(r, api.Rule{})) {
			t.Errorf("results with the error %v", w.err)
		}
	}
	for use, want := range map[int]api.Errno{0: api.ErrArg, 1: api.OK, 2: api.OK, 3: api.OK, 4: api.ErrArg, -1: api.ErrArg, 1 << 40: api.ErrArg} {
		if r, _, err := types.Rule(p, "r", use, good); err != want || err == api.OK && r.Use != use {
			t.Errorf("Rule with the Use %v = %v, %v", use, r, err)
		}
	}
	if _, blames, err := types.Query(p, "s", nm("s")); err != api.ErrTypes || len(blames) != 1 || blames[0].Code != api.BlUnknown || len(blames[0].Path) != 0 {
		t.Errorf("the blame of a root: %v, %v", blames, err)
	}
	// A formula stands on the right as a query, and on the left as a rule.
	n := form("all x: i. ex Y. p (Y x)")
	_, blames, _ := types.Query(p, "s", n)
	if _, blames2, err := types.Rule(p, "s", 1, n); blamesText(blames) != "9[1 0 0]" || blamesText(blames2) != "" || err != api.OK {
		t.Errorf("Query: %v; Rule: %v, %v", blames, blames2, err)
	}
}

// P3.1, T5: errors, and their order.
func TestTerm(t *testing.T) {
	p, _, _ := types.Infer(parsed(t, exampleText))
	bad := p
	bad.Consts = append(slices.Clone(p.Consts), p.Consts[0])
	term := func(s string) api.Node {
		n, _, err := syntax.ParseTerm(s)
		if err != api.OK {
			t.Fatalf("ParseTerm of %q = %v", s, err)
		}
		return n
	}
	vars := func(count int) []api.Named {
		var l []api.Named
		for k := range count {
			l = append(l, api.Named{Name: fmt.Sprint("X", k), Type: fn(i, i)})
		}
		return l
	}
	of := func(names ...string) []api.Named {
		l := vars(len(names))
		for k, name := range names {
			l[k].Name = name
		}
		return l
	}
	good, wrong, invalid := term("c"), term("d"), nd(api.NdLam)
	large, deep, none := i, i, api.Type{Name: "->", Args: []api.Type{i}}
	for range 10 {
		large = fn(large, large)
	}
	for range 99 {
		deep = fn(i, deep)
	}
	endless := api.Type{Name: "->", Args: make([]api.Type, 2)}
	endless.Args[0], endless.Args[1] = endless, endless
	for _, w := range []struct {
		p    api.Program
		vars []api.Named
		t    api.Type
		n    api.Node
		err  api.Errno
		want string
	}{
		{p, nil, i, good, api.OK, "c"}, {p, vars(40), i, term("X39 (X0 c)"), api.OK, "V39(V0(c))"}, {p, of("F", "X"), fn(i, i), term("X"), api.OK, `\(V1(#0))`}, {p, of("F"), i, term("lam F"), api.OK, `lam(\(V0(#0)))`}, {p, of("F"), i, term("lam (\\F. F)"), api.OK, `lam(\(#0))`},
		{p, nil, fn(fn(i, i), i), term("\\F. F c"), api.OK, `\(#0(c))`}, {p, nil, fn(fn(i, i), i), term("lam"), api.OK, `\(lam(\(#0(#1))))`}, {p, of("F"), i, term("F (F c)"), api.OK, "V0(V0(c))"}, {p, []api.Named{{Name: "H", Type: fn(fn(i, i), i)}}, i, term("H f"), api.OK, `V0(\(f(#0)))`},
		{bad, vars(41), none, invalid, api.ErrProgram, ""}, {bad, nil, i, good, api.ErrProgram, ""}, {p, vars(41), none, invalid, api.ErrTree, ""}, {p, vars(41), none, nd(api.NdOne), api.ErrTree, ""}, {p, nil, i, nd(api.NdArrow, nm("i"), nm("i")), api.ErrTree, ""}, {p, nil, i, bd(api.NdAll, "x", nm("p")), api.ErrTree, ""},
		{p, vars(41), i, wrong, api.ErrArg, ""}, {p, of("X", "Y", "X"), i, wrong, api.ErrArg, ""}, {p, of("x"), i, wrong, api.ErrArg, ""}, {p, of(""), i, wrong, api.ErrArg, ""}, {p, of(strings.Repeat("X", 41)), i, wrong, api.ErrArg, ""}, {p, []api.Named{{Name: "X", Type: o}}, i, wrong, api.ErrArg, ""}, {p, []api.Named{{Name: "X", Type: none}}, i, wrong, api.ErrArg, ""},
		{p, nil, o, wrong, api.ErrArg, ""}, {p, nil, none, wrong, api.ErrArg, ""}, {p, nil, api.Type{}, wrong, api.ErrArg, ""}, {p, nil, api.Type{Name: "i", Args: []api.Type{i}}, wrong, api.ErrArg, ""}, {p, nil, fn(i, o), wrong, api.ErrArg, ""}, {p, nil, endless, wrong, api.ErrArg, ""}, {p, []api.Named{{Name: "X", Type: endless}}, i, wrong, api.ErrArg, ""},
		{p, nil, large, term("c"), api.ErrTypes, "7[]"}, {p, nil, fn(large, large), term("c"), api.ErrArg, ""}, {p, nil, deep, term("c"), api.ErrTypes, "7[]"}, {p, nil, fn(i, deep), term("c"), api.ErrArg, ""},
		{p, nil, i, wrong, api.ErrTypes, "5[]"}, {p, of("X"), i, term("f Y"), api.ErrTypes, "5[0]"}, {p, of("X"), i, term("f f d"), api.ErrTypes, "5[1]"}, {p, of("X"), i, term("lam (\\x: t. d)"), api.ErrTypes, "3[0 0]"}, {p, of("X"), i, term("X X"), api.ErrTypes, "7[0]"}, {p, nil, fn(i, i), term("c"), api.ErrTypes, "7[]"}, {p, nil, i, term("\\x. c"), api.ErrTypes, "7[]"},
		{p, []api.Named{{Name: "F", Type: fn(i, i, i, i, i, i, i, i, i)}}, fn(i, i, i, i, i, i, i, i, i), term("F"), api.OK, `\(\(\(\(\(\(\(\(V0(#0)(#1)(#2)(#3)(#4)(#5)(#6)(#7)))))))))`},
		{p, []api.Named{{Name: "F", Type: fn(i, i, i, i, i, i, i, i, i, i)}}, fn(i, i, i, i, i, i, i, i, i, i), term("F"), api.ErrLong, ""}, {p, []api.Named{{Name: "F", Type: fn(i, i, i, i, i, i, i, i, i, i)}}, fn(i, i), term("F c c c c c c c c"), api.ErrLong, ""},
		{p, []api.Named{{Name: "F", Type: fn(i, i, i, i, i, i, i, i, i, i)}}, i, term("F c c c c c c c X"), api.ErrTypes, "5[7]"}, {p, nil, i, chain(100), api.OK, strings.Repeat("f(", 99) + "c" + strings.Repeat(")", 99)}, {p, nil, i, chain(101), api.ErrDeep, ""},
	} {
		x, blames, err := types.Term(w.p, w.vars, w.t, w.n)
		got := blamesText(blames)
		if err == api.OK {
			got = termText(x, 0)
		} else if !reflect.DeepEqual(x, api.Term{}) {
			t.Errorf("a term with the error %v", err)
		}
		if err != w.err || got != w.want {
			t.Errorf("Term of %.99v = %v, %v; not %v, %v", shown(w.n), got, err, w.want, w.err)
		}
	}
}

// chain is c within f, with this many levels.
func chain(count int) api.Node {
	n := nm("c")
	for range count - 1 {
		n = nm("f", n)
	}
	return n
}

// nest puts this many nodes of a kind around a node.
func nest(n api.Node, kind, times int) api.Node {
	for range times {
		n = nd(kind, n)
	}
	return n
}

// P3.1, T3 and T7: types that are none, or too large.
func TestTypeErrors(t *testing.T) {
	deep := func(levels int) api.Type {
		x := i
		for range levels - 1 {
			x = fn(i, x)
		}
		return x
	}
	large := func(parts int) api.Type { return typeOf(parts, i) }
	endless := api.Type{Name: "->", Args: make([]api.Type, 2)}
	endless.Args[0], endless.Args[1] = endless, endless
	odd := api.Type{Name: "->", Args: []api.Type{i}}
	wide := api.Type{Name: "i", Args: make([]api.Type, 4000)}
	for _, w := range []struct {
		t     api.Type
		err   api.Errno
		order int
	}{
		{i, api.OK, 0}, {fn(i, o), api.OK, 1}, {fn(fn(i, i), i), api.OK, 2}, {fn(i, fn(i, i), i), api.OK, 2}, {fn(fn(fn(i, i), i), fn(i, i), i), api.OK, 3}, {base("a@b"), api.OK, 0},
		{api.Type{}, api.ErrArg, -1}, {base("X"), api.ErrArg, -1}, {base("all"), api.ErrArg, -1}, {base("->"), api.ErrArg, -1}, {odd, api.ErrArg, -1}, {fn(i, odd), api.ErrArg, -1}, {api.Type{Name: "->", Args: []api.Type{i, i, i}}, api.ErrArg, -1}, {api.Type{Name: "i", Args: []api.Type{i}}, api.ErrArg, -1}, {fn(base("X"), i), api.ErrArg, -1}, {base(strings.Repeat("i", 41)), api.ErrArg, -1},
		{deep(100), api.OK, 1}, {deep(101), api.ErrDeep, -1}, {large(3999), api.OK, 11}, {large(4001), api.ErrLong, -1}, {endless, api.ErrLong, -1}, {wide, api.ErrLong, -1}, {api.Type{Name: "->", Args: make([]api.Type, 3999)}, api.ErrArg, -1}, {deep(5000), api.ErrLong, -1},
	} {
		n, err := types.Tree(w.t)
		if err != w.err || err != api.OK && !reflect.DeepEqual(n, api.Node{}) {
			t.Errorf("Tree = %v, not %v", err, w.err)
		}
		if err == api.OK && !reflect.DeepEqual(refType(n), w.t) {
			t.Errorf("Tree of %v = %v", typeText(w.t), shown(n))
		}
		if got := types.Order(w.t); got != w.order {
			t.Errorf("Order = %v, not %v", got, w.order)
		}
	}
	if order := types.Order(large(3999)); order != orderOf(large(3999)) {
		t.Errorf("Order = %v", order)
	}
	for _, w := range []struct {
		n   api.Node
		err api.Errno
	}{
		{nm("i"), api.OK}, {nd(api.NdArrow, nm("i"), nd(api.NdArrow, nm("j@k"), nm("i"))), api.OK}, {nm("i", nm("i")), api.ErrTree}, {vr("X"), api.ErrTree}, {nd(api.NdOne), api.ErrTree}, {nd(api.NdText), api.ErrTree}, {bd(api.NdLam, "x", nm("x")), api.ErrTree}, {nd(api.NdType, nm("i")), api.ErrTree},
		{api.Node{}, api.ErrTree}, {nm("X"), api.ErrTree}, {nd(api.NdArrow, nm("i")), api.ErrTree}, {nest(nm("i"), api.NdArrow, 100), api.ErrDeep}, {nest(nm("i"), api.NdArrow, 4000), api.ErrLong},
	} {
		if x, err := types.Type(w.n); err != w.err || err != api.OK && !reflect.DeepEqual(x, api.Type{}) {
			t.Errorf("Type of %.99v = %v, not %v", shown(w.n), err, w.err)
		}
	}
}

// typeOf is a type of an odd number of parts that is not deep.
func typeOf(parts int, leaf api.Type) api.Type {
	if parts < 3 {
		return leaf
	}
	left := (parts - 1) / 4 * 2
	return fn(typeOf(left+1, leaf), typeOf(parts-2-left, leaf))
}

// P3.1: a tree that is not valid, or of another kind, is refused by Infer.
func TestTrees(t *testing.T) {
	for _, w := range []struct {
		n   api.Node
		err api.Errno
	}{
		{api.Node{}, api.ErrTree}, {nm("p"), api.ErrTree}, {bd(api.NdRule, "r", nd(api.NdOne)), api.ErrTree}, {nd(api.NdText, nm("p")), api.ErrTree}, {nd(api.NdText, bd(api.NdRule, "R", nm("p"))), api.ErrTree}, {bd(api.NdText, "t"), api.ErrTree}, {nd(api.NdOne), api.ErrTree},
		{nd(api.NdText, bd(api.NdRule, "r", nest(nd(api.NdOne), api.NdBang, 98))), api.ErrDeep}, {nd(api.NdText, bd(api.NdRule, "r", nest(nd(api.NdOne), api.NdBang, 97))), api.OK}, {nd(api.NdText, slices.Repeat([]api.Node{bd(api.NdUse, "m")}, 4000)...), api.ErrLong}, {nd(api.NdText, slices.Repeat([]api.Node{bd(api.NdUse, "m")}, 3999)...), api.ErrTypes},
	} {
		p, blames, err := types.Infer(w.n)
		if err != w.err || (len(blames) > 0) != (err == api.ErrTypes) || err != api.OK && !reflect.DeepEqual(p, api.Program{}) {
			t.Errorf("Infer = %v, %v blames; not %v", err, len(blames), w.err)
		}
	}
}

// P3.1: types that are larger than memory are not gone through: if they were, this would not end.
func TestLargeTypes(t *testing.T) {
	binders := func(names string, count int) string {
		return strings.Join(several(count, func(k int) string { return fmt.Sprintf("all %v%v. ", names, k) }), "")
	}
	// Each variable has two arguments of the type of the one before it.
	uses := func(names string, count int) string {
		l := several(count-1, func(k int) string { return fmt.Sprintf("p (%[1]v%[2]v %[1]v%[3]v %[1]v%[3]v)", names, k+1, k) })
		return fmt.Sprintf("p %v0 * ", names) + grouped(l)
	}
	doubled := func(names string, count int) string { return binders(names, count) + uses(names, count) }
	both := "query s: all x. " + binders("v", 40) + binders("w", 40) + "(" + uses("v", 40) + ") * (" + uses("w", 40) + ") * "
	for text, want := range map[string]api.Errno{
		"query s: " + doubled("v", 10) + ".": api.ErrLong, "query s: " + doubled("v", 9) + ".": api.OK, "query s: " + doubled("v", 45) + ".": api.ErrLong,
		"query s: ex X. " + doubled("v", 45) + " * p X.": api.ErrLong, "query s: ex X. " + doubled("v", 45) + " * p (X v44).": api.ErrTypes, "rule r: " + doubled("v", 45) + ".": api.ErrTypes,
		// Two types are found to be one, or not, that are too large to be gone through.
		both + "p (x v39) * p (x w39).": api.ErrLong, both + "p (x v39) * p (x w38).": api.ErrTypes, both + "p (x v39 x).": api.ErrTypes, both + "p (x v39) * p (w0 x).": api.ErrTypes,
	} {
		_, blames, err := types.Infer(parsed(t, exampleText+text))
		if err != want {
			t.Errorf("%.20v: %v, %v; not %v", text, blames, err, want)
		}
	}
}

// grouped is the product of formulas, in groups, so that it is not deep.
func grouped(l []string) string {
	if len(l) == 1 {
		return l[0]
	}
	return "(" + grouped(l[:len(l)/2]) + " * " + grouped(l[len(l)/2:]) + ")"
}

// P3.1, T6: names of binders, and what stands in a text.
func TestShow(t *testing.T) {
	for text, want := range map[string]string{
		"": "",
		"pred p. type a. lasting l a. type b. mode l out. fact f (a -> b) a. const c, d: a. mode p. const e: b -> a. most r: p. query s: one. once u: top. rule v: one.": "type a, b.\nconst c: a.\nconst d: a.\nconst e: b -> a.\npred p.\nlasting l a.\nmode l out.\nfact f (a -> b) a.\nmost r: p.\nonce u: top.\nrule v: one.\nquery s: one.\n",
		"type i. pred p i. rule r: p X o- (p Y <= all Y. p Y).":                            "rule r: all X: i. all Y: i. ((all Y_: i. p Y_) => p Y) -o p X.\n",
		"type i. pred p i. const x, x_: i. rule r: all x: i. all x. p x.":                  "rule r: all x__: i. all x___: i. p x___.\n",
		"type i. pred p i. rule r: all p. p p o- all i. p i.":                              "rule r: all p_: i. (all i: i. p i) -o p p_.\n",
		"type i. pred p i. rule r: (all x. p x) o- all x. p x.":                            "rule r: (all x: i. p x) -o all x: i. p x.\n",
		"type i. pred p i. query s: p X * p Y * all X. p X -o all Y_. all Y. p Y o- p Y_.": "query s: p X * p Y * all X_: i. p X_ -o all Y_: i. all Y__: i. p Y_ -o p Y__.\n",
		"type i. pred q (i -> i -> i). rule r: q X. query s: q (\\y. \\Z. y).":             "rule r: all X: i -> i -> i. q (\\x: i. \\x_: i. X x x_).\nquery s: q (\\x: i. \\x_: i. x).\n",
		"type i. pred q (i -> i). query s: all x. q (\\y. x).":                             "query s: all x: i. q (\\x_: i. x).\n",
		"type i. pred q (i -> i). query s: ex x. q (\\y. x). query t: q (\\y. y).":         "query s: ex x: i. q (\\x_: i. x).\nquery t: q (\\x: i. x).\n",
		"type i. pred p i. query s: p A * p Z * all B. p B.":                               "query s: p A * p Z * all B: i. p B.\n",
		"type i. pred p i. rule r: p A o- ex Z. p Z.":                                      "rule r: all A: i. (ex Z: i. p Z) -o p A.\n",
		"type i. pred t ((i -> i) -> i). const c: i. query s: ex X'. t (\\f. f (f X')).":   "query s: ex X': i. t (\\x: i -> i. x (x X')).\n",
	} {
		p, blames, err := types.Infer(parsed(t, text))
		if err != api.OK {
			t.Fatalf("%q: %v, %v", text, blames, err)
		}
		n, err := types.Show(p)
		got, err2 := syntax.Print(n)
		if err != api.OK || err2 != api.OK || !strings.HasSuffix(got, want) || text == "" && len(n.L) > 0 {
			t.Errorf("Show of %q = %v, %v\n%v", text, err, err2, got)
		}
	}
	long := strings.Repeat("x", 39)
	for count, want := range map[int]api.Errno{1: api.OK, 2: api.OK, 3: api.ErrTree} {
		f := fo(api.FoOne)
		for range count {
			f = quant(api.FoAll, long, i, f)
		}
		if n, err := types.Show(api.Program{Types: []string{"i"}, Rules: []api.Rule{{Name: "r", Use: 1, Form: f}}}); err != want || err != api.OK && !reflect.DeepEqual(n, api.Node{}) {
			t.Errorf("%v binders with a long name: %v", count, err)
		}
	}
	for levels, want := range map[int]api.Errno{98: api.OK, 99: api.ErrDeep} {
		if _, err := types.Show(api.Program{Rules: []api.Rule{{Name: "r", Use: 1, Form: deepForm(levels)}}}); err != want {
			t.Errorf("%v levels: %v", levels, err)
		}
	}
	for parts, want := range map[int]api.Errno{1998: api.OK, 1999: api.ErrLong} {
		rule := api.Rule{Name: "r", Use: 1, Form: formOf(parts)}
		query := api.Query{Name: "r", Form: formOf(1999)}
		if _, err := types.Show(api.Program{Rules: []api.Rule{rule}, Queries: []api.Query{query}}); err != want {
			t.Errorf("%v parts: %v", parts, err)
		}
	}
}

// P3.1, T6: lambdas with types that are too large to be shown so often.
func TestShowLarge(t *testing.T) {
	large := typeOf(1901, i)
	p := api.Program{Types: []string{"i"}, Consts: []api.Const{{Name: "k", Type: fn(fn(large, i), i)}, {Name: "c", Type: i}}, Preds: []api.Pred{{Name: "p", Types: []api.Type{i}, Kind: api.PrBack}}}
	x := con("c")
	for range 45 {
		x = con("k", lambda(x))
	}
	f := atom("p", x)
	for range 5 {
		f = fo(api.FoTensor, f, f)
	}
	for k := range 40 {
		p.Queries = append(p.Queries, api.Query{Name: fmt.Sprint("q", k), Form: f})
	}
	if err := types.Check(p); err != api.OK {
		t.Fatalf("Check = %v", err)
	}
	if n, err := types.Show(p); err != api.ErrLong || !reflect.DeepEqual(n, api.Node{}) {
		t.Errorf("Show = %v", err)
	}
}

// deepForm is a formula of this many levels.
func deepForm(levels int) api.Form {
	f := fo(api.FoOne)
	for range levels - 1 {
		f = fo(api.FoBang, f)
	}
	return f
}

// formOf is a formula of this many parts that is not deep.
func formOf(parts int) api.Form {
	switch parts {
	case 1:
		return fo(api.FoOne)
	case 2:
		return fo(api.FoBang, fo(api.FoTop))
	}
	left := (parts - 1) / 2
	return fo(api.FoTensor, formOf(left), formOf(parts-1-left))
}

// P3.1, T8: what occurs.
func TestOccurring(t *testing.T) {
	p, _, err := types.Infer(parsed(t, `type a, b, d, e, g, h. const x: a. const y: a -> b. const z: d -> d. const w: a.
		pred p b. pred q (b -> g). pred r a. fact s. pred t. rule u: p (y x) -o {s}. query v: q Z * all k: h. one.`))
	if err != api.OK {
		t.Fatal(err)
	}
	consts, err := types.Consts(p)
	preds, err2 := types.Preds(p)
	x, err3 := types.Trim(p)
	if err != api.OK || err2 != api.OK || err3 != api.OK || !slices.Equal(consts, []string{"x", "y"}) || !slices.Equal(preds, []string{"p", "q", "s"}) || !slices.Equal(x.Types, []string{"a", "b", "g", "h"}) {
		t.Errorf("Consts = %v, Preds = %v, Trim = %v", consts, preds, x)
	}
	if n, _ := types.Show(x); !strings.HasPrefix(shown(n), "type a, b, g, h.\nconst x: a.\nconst y: a -> b.\npred p b.\npred q (b -> g).\nfact s.\nrule") {
		t.Errorf("Trim is %v", shown(n))
	}
	bad := api.Program{Types: []string{"X"}}
	consts, err = types.Consts(bad)
	preds, err2 = types.Preds(bad)
	x, err3 = types.Trim(bad)
	_, err4 := types.Show(bad)
	if len(consts)+len(preds)+len(x.Types) > 0 || err != api.ErrProgram || err2 != api.ErrProgram || err3 != api.ErrProgram || err4 != api.ErrProgram {
		t.Errorf("of a program that is not valid: %v, %v, %v, %v", err, err2, err3, err4)
	}
}

// P3.1, T7: programs that differ.
func TestSame(t *testing.T) {
	text := exampleText + "mode p in. type j. fact a. rule r: p (f X) o- p X. query s: q Y * p (lam (\\x. x)). query t: ex x. all y: i. p (x y)."
	p, _, _ := types.Infer(parsed(t, text))
	same := strings.NewReplacer("X", "Z", "ex x", "ex y", "(x y)", "(y x)", "all y", "all x", "\\x. x", "\\z. z").Replace(text)
	q, _, err := types.Infer(parsed(t, same))
	if err != api.OK || !types.Same(p, q) || !types.Same(q, p) {
		t.Errorf("programs that differ in names of quantifiers are not the same: %v", err)
	}
	p.Preds[2].Modes, q.Preds[2].Modes = nil, []int{}
	p.Rules[0].Form.Args, q.Rules[0].Form.L[0].L[0].Args[0].Args = []api.Term{}, []api.Term{}
	if !types.Same(p, q) {
		t.Errorf("nil and empty lists are not the same")
	}
	for from, to := range map[string]string{
		"type j": "type k", "const c: i": "const c: i -> i", "const c": "const d", "pred p i": "fact p i", "fact a": "fact b", "fact a. ": "", "fact a.": "fact a i.", "mode p in": "mode p out", "mode p in.": "",
		"rule r": "once r", "rule r:": "rule s:", "o-": "<=", "p (f X)": "p X", "o- p X": "* p X", "s: q Y": "s: q Z", "q Y": "q f", "p (lam (\\x. x))": "p (lam (\\x. c))", "query s": "query u", "ex x": "all x",
	} {
		q, _, err := types.Infer(parsed(t, strings.Replace(text, from, to, 1)))
		if err != api.OK || types.Same(p, q) {
			t.Errorf("Same with %v for %v: %v", to, from, err)
		}
	}
	bad := p
	bad.Types = append(slices.Clone(p.Types), "i")
	if types.Same(bad, bad) || types.Same(p, bad) || types.Same(bad, p) || !types.Same(api.Program{}, api.Program{}) {
		t.Errorf("Same of a program that is not valid")
	}
}

// P3.1, T7: programs with something changed are the same if they are valid, and only Names of quantifiers were changed.
func TestSameAll(t *testing.T) {
	m := rand.New(rand.NewSource(4))
	found := map[bool]int{}
	unnamed := func(p api.Program) api.Program {
		p = replaced(p, "", "")
		each(reflect.ValueOf(&p).Elem(), func(v reflect.Value) {
			if f, ok := v.Addr().Interface().(*api.Form); ok && (f.Kind == api.FoAll || f.Kind == api.FoEx) {
				f.Name = ""
			}
		})
		return p
	}
	for _, p := range goodTexts(t, 100) {
		for range 50 {
			q := replaced(p, "", "")
			mutate(m, reflect.ValueOf(&q).Elem())
			valid := validProgram(q)
			want := valid && reflect.DeepEqual(unnamed(p), unnamed(q))
			if types.Same(p, q) != want || types.Same(q, p) != want {
				t.Fatalf("Same of\n%v and\n%v is not %v", p, q, want)
			}
			if valid {
				found[want]++
			}
		}
	}
	if found[true] < 50 || found[false] < 100 {
		t.Errorf("too few of a kind: %v", found)
	}
}

// P1: results are new memory, and arguments are not changed.
func TestNewMemory(t *testing.T) {
	n := parsed(t, exampleText+"const d, e: i -> i. pred r i (i -> i). mode r in out. rule r: r X F o- p X. query s: q Y * all x: i -> i. one.")
	kept := nilled(n)
	p, _, _ := types.Infer(n)
	again, _, _ := types.Infer(n)
	form, term := n.L[len(n.L)-2].L[0], nm("f", nm("c"))
	typ := fn(i, i)
	vars := []api.Named{{Name: "X", Type: typ}}
	q, _, _ := types.Query(p, "q", form)
	r, _, _ := types.Rule(p, "q", 1, form)
	x, _, _ := types.Term(p, vars, i, term)
	shows, _ := types.Show(p)
	trim, _ := types.Trim(p)
	consts, _ := types.Consts(p)
	preds, _ := types.Preds(p)
	tree, _ := types.Tree(typ)
	back, _ := types.Type(tree)
	trees := nilled(tree)
	_, blames, _ := types.Infer(nd(api.NdText, bd(api.NdUse, "m")))
	for _, v := range []any{&q, &r, &x, &shows, &trim, &consts, &preds, &back, &blames} {
		scribble(reflect.ValueOf(v).Elem())
	}
	if !reflect.DeepEqual(p, again) || !reflect.DeepEqual(nilled(n), kept) || !reflect.DeepEqual(typ, fn(i, i)) || !reflect.DeepEqual(tree, trees) || !reflect.DeepEqual(vars[0].Type, typ) {
		t.Errorf("an argument has changed")
	}
	scribble(reflect.ValueOf(&p).Elem())
	if !reflect.DeepEqual(nilled(n), kept) {
		t.Errorf("a tree has changed with its program")
	}
	// What is marked once is marked in one place.
	count := 0
	each(reflect.ValueOf(&again).Elem(), func(v reflect.Value) {
		if v.Kind() == reflect.Int {
			v.SetInt(v.Int() + 1000)
		}
	})
	each(reflect.ValueOf(&again).Elem(), func(v reflect.Value) {
		if v.Kind() == reflect.Int && v.Int() >= 2000 {
			count++
		}
	})
	if count > 0 {
		t.Errorf("%v places share memory", count)
	}
}

// each visits all values within a value.
func each(v reflect.Value, do func(reflect.Value)) {
	do(v)
	switch v.Kind() {
	case reflect.Struct:
		for k := range v.NumField() {
			each(v.Field(k), do)
		}
	case reflect.Slice:
		for k := range v.Len() {
			each(v.Index(k), do)
		}
	}
}

// scribble changes all strings and numbers within a value.
func scribble(v reflect.Value) {
	each(v, func(v reflect.Value) {
		switch v.Kind() {
		case reflect.String:
			v.SetString("!")
		case reflect.Int:
			v.SetInt(-77)
		}
	})
}

// P1: no values make a call panic, or last.
func TestAnyValues(t *testing.T) {
	m := rand.New(rand.NewSource(8))
	base, _, _ := types.Infer(parsed(t, declarations+"rule r: p X o- p (f X). query s: all x: i. p (F x) * q G."))
	good := parsed(t, declarations)
	for range 4000 {
		p := replaced(base, "", "")
		for range m.Intn(4) {
			mutate(m, reflect.ValueOf(&p).Elem())
		}
		n := nilled(good)
		for range m.Intn(3) {
			mutate(m, reflect.ValueOf(&n).Elem())
		}
		typ := fn(i, o)
		for range m.Intn(3) {
			mutate(m, reflect.ValueOf(&typ).Elem())
		}
		types.Infer(n)
		types.Check(p)
		types.Show(p)
		types.Trim(p)
		types.Consts(p)
		types.Preds(p)
		types.Same(p, base)
		types.Type(n)
		types.Tree(typ)
		types.Order(typ)
		for _, x := range n.L[:min(1, len(n.L))] {
			types.Query(p, "s", x)
			types.Rule(p, "s", 1, x)
			types.Term(p, []api.Named{{Name: "X", Type: typ}}, typ, x)
		}
	}
}

// mutate changes something within a value.
func mutate(m *rand.Rand, v reflect.Value) {
	var list []reflect.Value
	each(v, func(v reflect.Value) {
		switch v.Kind() {
		case reflect.String, reflect.Int, reflect.Slice:
			list = append(list, v)
		}
	})
	x := list[m.Intn(len(list))]
	switch x.Kind() {
	case reflect.Int:
		x.SetInt([]int64{x.Int() + 1, x.Int() - 1, 0, 1, 2, 3, 10, 11, -1, 1 << 62, -1 << 63}[m.Intn(11)])
	case reflect.String:
		x.SetString([]string{"", "->", "i", "o", "c", "f", "p", "q", "x", "X", "Y", "all", "u", "a@b", "\xff", strings.Repeat("y", 41)}[m.Intn(16)])
	case reflect.Slice:
		switch k := m.Intn(x.Len() + 1); {
		case m.Intn(2) == 0 || k == x.Len():
			x.Set(reflect.Append(x, reflect.Zero(x.Type().Elem())))
		case m.Intn(2) == 0:
			x.Set(reflect.Append(x, x.Index(k)))
		default:
			out := reflect.MakeSlice(x.Type(), 0, x.Len())
			out = reflect.AppendSlice(out, x.Slice(0, k))
			x.Set(reflect.AppendSlice(out, x.Slice(k+1, x.Len())))
		}
	}
}
