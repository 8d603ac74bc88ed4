package types_test

import (
	"fmt"
	"reflect"
	"slices"
	"strings"
	"testing"

	"peculium/api"
	"peculium/syntax"
	"peculium/types"
)

// manyTexts yields texts: well-typed ones for the most part, such with errors in formulas, and such with errors anywhere.
func manyTexts(t *testing.T, each int) func(yield func(api.Node) bool) {
	return func(yield func(api.Node) bool) {
		for seed, noise := range []int{1000000, 300, 40, 12} {
			m := newMaker(t, int64(seed), noise)
			for k := range each {
				n := m.text(t, 1+m.Intn(3))
				if k%2 == 1 {
					n = m.damaged(m.damaged(n))
				}
				if !yield(n) {
					return
				}
			}
		}
	}
}

// goodTexts yields texts without blames, and their programs.
func goodTexts(t *testing.T, count int) func(yield func(api.Node, api.Program) bool) {
	return func(yield func(api.Node, api.Program) bool) {
		m := newMaker(t, 77, 200)
		for range count {
			n := parsed(t, declarations)
			for _, item := range m.items(8, 4) {
				if m.Intn(4) == 0 {
					item = wider(m, item)
				}
				n.L = append(n.L, item)
				if _, blames, _ := types.Infer(n); len(blames) > 0 {
					n.L = n.L[:len(n.L)-1]
				}
			}
			if p, _, err := types.Infer(n); err == api.OK && !yield(n, p) {
				return
			}
		}
	}
}

// wider is an item with quantifiers around its formula whose names other binders have, too.
func wider(m maker, item api.Node) api.Node {
	for range 3 {
		item = bd(item.Kind, item.Name, bd(m.kind(api.NdAll, api.NdEx), m.binderName(), nm("i"), item.L[0]))
	}
	return item
}

// P3.1, T1: blames and programs are those that another reader finds.
func TestInferAll(t *testing.T) {
	found := map[int]int{}
	for n := range manyTexts(t, 700) {
		p, blames, err := types.Infer(n)
		want := blamesOf(n)
		if len(want) > 0 {
			if err != api.ErrTypes || !reflect.DeepEqual(blames, want) || !reflect.DeepEqual(p, api.Program{}) {
				t.Fatalf("Infer of\n%v = %v, %v, %v; not %v", shown(n), p, blames, err, want)
			}
			for _, b := range blames {
				found[b.Code]++
			}
			continue
		}
		if err != api.OK || blames != nil || writtenProgram(p) != programText(n) {
			t.Fatalf("Infer of\n%v = %v, %v\n%v\nnot\n%v", shown(n), blames, err, writtenProgram(p), programText(n))
		}
		found[0]++
	}
	for code := 0; code <= api.BlPattern; code++ {
		if found[code] < 50 {
			t.Errorf("too few of a kind: %v", found)
		}
	}
}

// P3.1, T4: rules and queries are those that another reader finds, and those of Infer.
func TestFormsAll(t *testing.T) {
	found := map[int]int{}
	base, _, _ := types.Infer(parsed(t, declarations))
	for n := range manyTexts(t, 500) {
		for i, item := range n.L {
			if useKinds[item.Kind] == 0 && item.Kind != api.NdQuery {
				continue
			}
			left := item.Kind != api.NdQuery
			r := readRef(declIn(base), item.L[0], nil, left)
			b, is := typeBlame(declIn(base), item.L[0])
			if !is {
				b, is = r.blame()
			}
			var blames []api.Blame
			var err api.Errno
			var got, zero any
			text := ""
			if left {
				var x api.Rule
				x, blames, err = types.Rule(base, item.Name, useKinds[item.Kind], item.L[0])
				got, zero, text = x, api.Rule{}, formText(x.Form, 0)
				if err == api.OK && (x.Name != item.Name || x.Use != useKinds[item.Kind]) {
					t.Fatalf("Rule of %v = %v", shown(item), x)
				}
			} else {
				var x api.Query
				x, blames, err = types.Query(base, item.Name, item.L[0])
				got, zero, text = x, api.Query{}, queryText(x)
				if err == api.OK && x.Name != item.Name {
					t.Fatalf("Query of %v = %v", shown(item), x)
				}
			}
			switch {
			case is && (err != api.ErrTypes || !sameBlames(blames, []api.Blame{b}) || !reflect.DeepEqual(got, zero)):
				t.Fatalf("item %v: %v of %v: %v, %v; not %v", i, got, shown(item), blames, err, b)
			case !is && (err != api.OK || len(blames) > 0 || text != r.whole()):
				t.Fatalf("item %v: %v of %v: %v, %v; not %v", i, text, shown(item), blames, err, r.whole())
			}
			found[b.Code]++
		}
	}
	for _, code := range []int{0, api.BlType, api.BlUnknown, api.BlMany, api.BlWrong, api.BlOpen, api.BlPattern} {
		if found[code] < 50 {
			t.Errorf("too few of a kind: %v", found)
		}
	}
}

// typeBlame is the blame of a name in a type of a tree that is none of a type, if there is one.
func typeBlame(d refDecl, n api.Node) (api.Blame, bool) {
	for _, path := range paths(n) {
		if x := at(&n, path); x.Kind == api.NdName && inType(n, path) && !d.types[x.Name] {
			return api.Blame{Path: path, Code: api.BlType}, true
		}
	}
	return api.Blame{}, false
}

// sameBlames compares blames; empty paths are the same.
func sameBlames(a, b []api.Blame) bool {
	return slices.EqualFunc(a, b, func(x, y api.Blame) bool { return x.Code == y.Code && slices.Equal(x.Path, y.Path) })
}

// P3.1, T5: terms are those that another reader finds.
func TestTermsAll(t *testing.T) {
	found := map[int]int{}
	p, _, _ := types.Infer(parsed(t, declarations))
	for seed, noise := range []int{1000000, 20, 8} {
		m := newMaker(t, int64(seed), noise)
		for range 2000 {
			typ := m.typ(3)
			n := m.term(typ, nil, 1+m.Intn(3))
			vars := m.free[:m.Intn(len(m.free)+1)]
			r := readTerm(declIn(p), vars, typ, n)
			b, is := typeBlame(declIn(p), n)
			if !is {
				b, is = r.blame()
			}
			x, blames, err := types.Term(p, vars, typ, n)
			switch {
			case is && (err != api.ErrTypes || !sameBlames(blames, []api.Blame{b}) || !reflect.DeepEqual(x, api.Term{})):
				t.Fatalf("Term of %v = %v, %v, %v; not %v", shown(n), x, blames, err, b)
			case !is && (err != api.OK || len(blames) > 0 || termText(x, 0) != r.write(r.nodes[0], 0, map[*refVar]int{}).String()):
				t.Fatalf("Term of %v = %v, %v, %v", shown(n), x, blames, err)
			}
			found[b.Code]++
		}
	}
	for _, code := range []int{0, api.BlType, api.BlUnknown, api.BlWrong} {
		if found[code] < 50 {
			t.Errorf("too few of a kind: %v", found)
		}
	}
	if found[api.BlMany]+found[api.BlOpen]+found[api.BlPattern] > 0 {
		t.Errorf("blames that terms do not have: %v", found)
	}
}

// smallTypes are the types with at most this many levels.
func smallTypes(levels int) []api.Type {
	list := []api.Type{base("i"), base("o")}
	if levels == 1 {
		return list
	}
	less := smallTypes(levels - 1)
	for _, a := range less {
		for _, b := range less {
			list = append(list, fn(a, b))
		}
	}
	return list
}

// P3.1: types are determined if just one choice of types for binders and outer variables fits all terms. All choices of small types are tried.
func TestSolutions(t *testing.T) {
	p, _, _ := types.Infer(parsed(t, declarations))
	m := newMaker(t, 5, 25)
	list := smallTypes(3)
	found := map[int]int{}
	for range 4000 {
		n := m.form(nil, 1+m.Intn(2))
		r := readRef(declIn(p), n, nil, true)
		open := r.open()
		_, blames, _ := types.Rule(p, "r", api.UsLast, n)
		code := 0
		if len(blames) > 0 {
			code = blames[0].Code
		}
		if len(open) > 2 || code == api.BlType || code == api.BlUnknown || code == api.BlMany {
			continue
		}
		count := 0
		choose(open, list, map[*refVar]api.Type{}, func(types map[*refVar]api.Type) {
			if r.fits(types) {
				count++
			}
		})
		switch {
		case count > 1 && code != api.BlOpen,
			count == 1 && code != 0 && code != api.BlPattern,
			count == 0 && code != api.BlWrong && !r.isLarge(open):
			t.Fatalf("Rule of %v has the blame %v, but %v solutions", shown(n), code, count)
		}
		found[code]++
	}
	for _, code := range []int{0, api.BlWrong, api.BlOpen, api.BlPattern} {
		if found[code] < 50 {
			t.Errorf("too few of a kind: %v", found)
		}
	}
}

// open has the variables whose types are to be found.
func (r *ref) open() []*refVar {
	var list []*refVar
	for _, x := range r.nodes {
		if x.v != nil && x.v.typ.Name[0] == '?' && !slices.Contains(list, x.v) {
			list = append(list, x.v)
		}
	}
	return list
}

// choose tries all types of a list for variables.
func choose(vars []*refVar, list []api.Type, types map[*refVar]api.Type, try func(map[*refVar]api.Type)) {
	if len(vars) == 0 {
		try(types)
		return
	}
	for _, x := range list {
		types[vars[0]] = x
		choose(vars[1:], list, types, try)
	}
}

// fits reports whether all terms have the types that they should have, if variables have some types.
func (r *ref) fits(types map[*refVar]api.Type) bool {
	for _, x := range r.nodes {
		for i, y := range x.l {
			if x.atom && !r.has(types, y, r.preds[x.node.Name].Types[i]) {
				return false
			}
		}
	}
	return true
}

// has reports whether a term has a type.
func (r *ref) has(types map[*refVar]api.Type, x *refNode, t api.Type) bool {
	typ := x.typ
	if x.v != nil {
		typ = x.v.typ
		if own, ok := types[x.v]; ok {
			typ = own
		}
	}
	if x.node.Kind == api.NdLam {
		return t.Name == "->" && typeText(t.Args[0]) == typeText(typ) && r.has(types, x.l[0], t.Args[1])
	}
	l := flat(typ)
	if len(x.l) >= len(l) || typeText(fn(l[len(x.l):]...)) != typeText(t) {
		return false
	}
	for i, y := range x.l {
		if !r.has(types, y, l[i]) {
			return false
		}
	}
	return true
}

// isLarge reports whether there is a solution with a type that is not small.
func (r *ref) isLarge(open []*refVar) bool {
	known, ok := solve(r.equations)
	large := false
	types := map[*refVar]api.Type{}
	for _, v := range open {
		types[v] = grounded(put(known, v.typ))
		large = large || levels(types[v]) > 3
	}
	return ok && large && r.fits(types)
}

// grounded is a type with i for all that is still to be found.
func grounded(t api.Type) api.Type {
	if t.Name[0] == '?' {
		return base("i")
	}
	out := api.Type{Name: t.Name}
	for _, x := range t.Args {
		out.Args = append(out.Args, grounded(x))
	}
	return out
}

func levels(t api.Type) int {
	most := 0
	for _, x := range t.Args {
		most = max(most, levels(x))
	}
	return most + 1
}

// P3.2: what Infer returns is valid, and so is a program with what Query and Rule return.
func TestWellTyped(t *testing.T) {
	rules, queries := 0, 0
	for n, p := range goodTexts(t, 150) {
		if err := types.Check(p); err != api.OK || !validProgram(p) {
			t.Fatalf("Check of the program of\n%v = %v", shown(n), err)
		}
		base, _, _ := types.Infer(parsed(t, declarations))
		for _, item := range n.L {
			switch use := useKinds[item.Kind]; {
			case use != 0:
				r, _, err := types.Rule(p, "new", use, item.L[0])
				p.Rules, base.Rules = append(p.Rules, r), append(base.Rules, r)
				rules++
				if err != api.OK {
					t.Fatalf("Rule of %v = %v", shown(item), err)
				}
			case item.Kind == api.NdQuery:
				q, _, err := types.Query(p, "new", item.L[0])
				p.Queries, base.Queries = append(p.Queries, q), append(base.Queries, q)
				queries++
				if err != api.OK {
					t.Fatalf("Query of %v = %v", shown(item), err)
				}
			default:
				continue
			}
			if err, err2 := types.Check(p), types.Check(base); err != api.OK || err2 != api.OK {
				t.Fatalf("Check with %v: %v, %v", shown(item), err, err2)
			}
			p.Rules, base.Rules = slices.DeleteFunc(p.Rules, func(r api.Rule) bool { return r.Name == "new" }), nil
			p.Queries, base.Queries = slices.DeleteFunc(p.Queries, func(q api.Query) bool { return q.Name == "new" }), nil
		}
	}
	if rules < 100 || queries < 50 {
		t.Errorf("only %v rules and %v queries", rules, queries)
	}
}

// inOrder reports whether the variables of a query are those that occur, in the order in which they are met first.
func inOrder(q api.Query) bool {
	var met []int
	var visit func(x api.Term)
	visit = func(x api.Term) {
		if x.Kind == api.TmVar && !slices.Contains(met, x.N) {
			met = append(met, x.N)
		}
		for _, y := range x.Args {
			visit(y)
		}
	}
	var form func(f api.Form)
	form = func(f api.Form) {
		for _, x := range f.Args {
			visit(x)
		}
		for _, g := range f.L {
			form(g)
		}
	}
	form(q.Form)
	return slices.IsSorted(met) && len(met) == len(q.Vars)
}

// P3.3: a program that is shown and inferred is the same one.
func TestShownAndInferred(t *testing.T) {
	renamed, queries := 0, 0
	for _, p := range goodTexts(t, 300) {
		p.Queries = slices.DeleteFunc(p.Queries, func(q api.Query) bool { return !inOrder(q) })
		queries += len(p.Queries)
		n, err := types.Show(p)
		if err != api.OK {
			t.Fatalf("Show of\n%v = %v", writtenProgram(p), err)
		}
		text, err := syntax.Print(n)
		if err != api.OK {
			t.Fatalf("Print of Show = %v", err)
		}
		q, blames, err := types.Infer(parsed(t, text))
		if err != api.OK || !types.Same(p, q) {
			t.Fatalf("Infer of\n%v = %v, %v; not\n%v", text, blames, err, writtenProgram(p))
		}
		again, _ := types.Show(q)
		if !syntax.Same(n, again) {
			t.Fatalf("Show of\n%v is another text:\n%v", text, shown(again))
		}
		if strings.Contains(text, "_") {
			renamed++
		}
	}
	if renamed < 50 || queries < 50 {
		t.Errorf("only %v programs had binders that were renamed, and there were %v queries", renamed, queries)
	}
}

// P3.4: with the types that were found told, the program is the same.
func TestTold(t *testing.T) {
	told := 0
	for n, p := range goodTexts(t, 150) {
		out := nilled(n)
		for i := range n.L {
			_, _, r := blameOf(n, i)
			if r == nil {
				continue
			}
			for _, x := range slices.Backward(r.nodes) {
				if over := at(&out, x.path); x.v != nil && over.Kind != api.NdName && over.Kind != api.NdVar && len(over.L) == 1 {
					tree, _ := types.Tree(put(r.solution, x.v.typ))
					over.L = []api.Node{tree, over.L[0]}
					told++
				}
			}
		}
		q, blames, err := types.Infer(out)
		if err != api.OK || !reflect.DeepEqual(p, q) {
			t.Fatalf("Infer of\n%v = %v, %v\n%v; not\n%v", shown(out), blames, err, writtenProgram(q), writtenProgram(p))
		}
	}
	if told < 100 {
		t.Errorf("only %v types were told", told)
	}
}

// replaced is a value with a string for another one wherever it stands.
func replaced[T any](x T, from, to string) T {
	var change func(v reflect.Value) reflect.Value
	change = func(v reflect.Value) reflect.Value {
		out := reflect.New(v.Type()).Elem()
		out.Set(v)
		switch v.Kind() {
		case reflect.String:
			if v.String() == from {
				out.SetString(to)
			}
		case reflect.Struct:
			for i := range v.NumField() {
				out.Field(i).Set(change(v.Field(i)))
			}
		case reflect.Slice:
			if v.Len() > 0 {
				out.Set(reflect.MakeSlice(v.Type(), v.Len(), v.Len()))
			}
			for i := range v.Len() {
				out.Index(i).Set(change(v.Index(i)))
			}
		}
		return out
	}
	return change(reflect.ValueOf(x)).Interface().(T)
}

// P3.5: a name that is another one throughout a text is another one in its program, and nothing else changes.
func TestRenamed(t *testing.T) {
	good, bad := 0, 0
	m := newMaker(t, 9, 10)
	check := func(n api.Node) {
		names := map[string]bool{}
		for _, path := range paths(n) {
			if s := at(&n, path).Name; s != "" && modeWords[s] == 0 && s != "any" {
				names[s] = true
			}
		}
		p, blames, err := types.Infer(n)
		for name := range names {
			to := m.pick("new", "o1", "long'name_of@module")
			if name[0] < 'a' {
				to = m.pick("New", "O'")
			}
			q, blames2, err2 := types.Infer(replaced(n, name, to))
			if err2 != err || !reflect.DeepEqual(blames, blames2) || !reflect.DeepEqual(q, replaced(p, name, to)) {
				t.Fatalf("with %v for %v Infer of\n%v = %v, %v, %v", to, name, shown(n), writtenProgram(q), blames2, err2)
			}
			if err == api.OK {
				good++
			} else {
				bad++
			}
		}
	}
	for n := range goodTexts(t, 40) {
		check(n)
	}
	for n := range manyTexts(t, 20) {
		check(n)
	}
	if good < 100 || bad < 100 {
		t.Errorf("too few: %v, %v", good, bad)
	}
}

// P3.6: items of other kinds may stand in any order.
func TestOrderOfItems(t *testing.T) {
	m := newMaker(t, 10, 10)
	for n, p := range goodTexts(t, 150) {
		groups := map[string][]api.Node{}
		for _, item := range n.L {
			sort := fmt.Sprint(item.Kind)
			switch {
			case useKinds[item.Kind] != 0:
				sort = "rule"
			case predKinds[item.Kind] != 0:
				sort = "pred"
			}
			groups[sort] = append(groups[sort], item)
		}
		out := nd(api.NdText)
		for len(out.L) < len(n.L) {
			var left []string
			for sort, l := range groups {
				if len(l) > 0 {
					left = append(left, sort)
				}
			}
			slices.Sort(left)
			sort := m.pick(left...)
			out.L = append(out.L, groups[sort][0])
			groups[sort] = groups[sort][1:]
		}
		if q, blames, err := types.Infer(out); err != api.OK || !reflect.DeepEqual(p, q) {
			t.Fatalf("Infer of\n%v = %v, %v\n%v; not\n%v", shown(out), blames, err, writtenProgram(q), writtenProgram(p))
		}
	}
}

// P3.7: declarations with new names add themselves, and no blames.
func TestMore(t *testing.T) {
	more := parsed(t, "type t1, t2. const k1: t1 -> i. const k2, k3: t2. pred p1 i t1. fact p2. lasting p3 (t1 -> t2). mode p1 in out. mode p3 any.").L
	check := func(n api.Node, p api.Program, blames []api.Blame, err api.Errno) {
		out := nd(api.NdText, slices.Concat(n.L, more)...)
		q, blames2, err2 := types.Infer(out)
		if err2 != err || !reflect.DeepEqual(blames, blames2) {
			t.Fatalf("Infer of\n%v = %v, %v; not %v, %v", shown(out), blames2, err2, blames, err)
		}
		if err != api.OK {
			return
		}
		x, _, _ := types.Infer(nd(api.NdText, append(parsed(t, "type i.").L, more...)...))
		p.Types = append(slices.Clone(p.Types), x.Types[1:]...)
		p.Consts = append(slices.Clone(p.Consts), x.Consts...)
		p.Preds = append(slices.Clone(p.Preds), x.Preds...)
		if !reflect.DeepEqual(p, q) {
			t.Fatalf("Infer of\n%v is\n%v", shown(out), writtenProgram(q))
		}
	}
	for n, p := range goodTexts(t, 60) {
		check(n, p, nil, api.OK)
	}
	for n := range manyTexts(t, 60) {
		if slices.ContainsFunc(n.L, func(x api.Node) bool { return x.Kind == api.NdType && x.L[0].Name == "i" }) {
			p, blames, err := types.Infer(n)
			check(n, p, blames, err)
		}
	}
}

// P3.8: each item's blame, but for BlTwice, is the one that it has without the other rules and queries.
func TestParts(t *testing.T) {
	compared := 0
	for n := range manyTexts(t, 250) {
		_, blames, _ := types.Infer(n)
		for i, item := range n.L {
			alone := nd(api.NdText)
			place := 0
			for k, x := range n.L {
				if k == i {
					place = len(alone.L)
				}
				if k == i || useKinds[x.Kind] == 0 && x.Kind != api.NdQuery {
					alone.L = append(alone.L, x)
				}
			}
			_, blames2, _ := types.Infer(alone)
			a, isA := blameAt(blames, i)
			b, isB := blameAt(blames2, place)
			if a.Code == api.BlTwice {
				continue
			}
			if isA != isB || a.Code != b.Code || isA && !slices.Equal(a.Path[1:], b.Path[1:]) {
				t.Fatalf("%v has the blame %v in\n%vand %v alone", shown(item), a, shown(n), b)
			}
			compared++
		}
	}
	if compared < 1000 {
		t.Errorf("only %v were compared", compared)
	}
}

// blameAt is the blame of an item.
func blameAt(blames []api.Blame, i int) (api.Blame, bool) {
	for _, b := range blames {
		if b.Path[0] == i {
			return b, true
		}
	}
	return api.Blame{}, false
}

// P3.9, and P3.1, T8: what is trimmed is valid, and has what occurs, and nothing else.
func TestTrimmed(t *testing.T) {
	fewer := 0
	for n, p := range goodTexts(t, 300) {
		if len(p.Rules) > 2 {
			p.Rules = p.Rules[:2]
		}
		p.Queries = nil
		x, err := types.Trim(p)
		if err != api.OK || types.Check(x) != api.OK || !reflect.DeepEqual(x.Rules, p.Rules) || !reflect.DeepEqual(x.Queries, p.Queries) {
			t.Fatalf("Trim of the program of\n%v = %v, %v", shown(n), writtenProgram(x), err)
		}
		if again, err := types.Trim(x); err != api.OK || !reflect.DeepEqual(again, x) {
			t.Fatalf("Trim of Trim = %v, %v", writtenProgram(again), err)
		}
		consts, err := types.Consts(p)
		preds, err2 := types.Preds(p)
		var names, predNames []string
		for _, c := range x.Consts {
			names = append(names, c.Name)
		}
		for _, y := range x.Preds {
			predNames = append(predNames, y.Name)
		}
		if err != api.OK || err2 != api.OK || !slices.Equal(names, consts) || !slices.Equal(predNames, preds) {
			t.Fatalf("Consts = %v, Preds = %v; but Trim has %v, %v", consts, preds, names, predNames)
		}
		expectNeeded(t, x)
		if len(x.Consts) < len(p.Consts) {
			fewer++
		}
	}
	if fewer < 50 {
		t.Errorf("only %v programs were trimmed", fewer)
	}
}

// expectNeeded checks that a program is not valid without any of its types, constants and predicates.
func expectNeeded(t *testing.T, p api.Program) {
	t.Helper()
	for i := range p.Types {
		q := p
		q.Types = slices.Delete(slices.Clone(p.Types), i, i+1)
		if types.Check(q) != api.ErrProgram {
			t.Fatalf("the type %v is not needed in\n%v", p.Types[i], writtenProgram(p))
		}
	}
	for i := range p.Consts {
		q := p
		q.Consts = slices.Delete(slices.Clone(p.Consts), i, i+1)
		if types.Check(q) != api.ErrProgram {
			t.Fatalf("the constant %v is not needed in\n%v", p.Consts[i], writtenProgram(p))
		}
	}
	for i := range p.Preds {
		q := p
		q.Preds = slices.Delete(slices.Clone(p.Preds), i, i+1)
		if types.Check(q) != api.ErrProgram {
			t.Fatalf("the predicate %v is not needed in\n%v", p.Preds[i], writtenProgram(p))
		}
	}
}

// P3.10, and P3.1, T3: types and their trees.
func TestTypesAndTrees(t *testing.T) {
	m := newMaker(t, 12, 1)
	for range 2000 {
		typ := m.typ(6)
		n, err := types.Tree(typ)
		if err != api.OK || syntax.Check(n) != api.OK || !reflect.DeepEqual(refType(n), typ) {
			t.Fatalf("Tree of %v = %v, %v", typeText(typ), shown(n), err)
		}
		back, err := types.Type(n)
		if err != api.OK || !reflect.DeepEqual(back, typ) {
			t.Fatalf("Type of %v = %v, %v", shown(n), back, err)
		}
		if again, err := types.Tree(back); err != api.OK || !reflect.DeepEqual(again, n) {
			t.Fatalf("Tree of Type of %v = %v, %v", shown(n), again, err)
		}
		if got := types.Order(typ); got != orderOf(typ) {
			t.Fatalf("Order of %v = %v", typeText(typ), got)
		}
	}
}

// orderOf is the order of a type: how many arrows are one on the left side of the other, at most.
func orderOf(t api.Type) int {
	most := 0
	for _, x := range flat(t)[:len(flat(t))-1] {
		most = max(most, orderOf(x)+1)
	}
	return most
}
