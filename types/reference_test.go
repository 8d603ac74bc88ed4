package types_test

import (
	"fmt"
	"maps"
	"slices"
	"strings"

	"peculium/api"
	"peculium/lex"
)

// This file reads trees another way: nodes are a list, equations are solved from the beginning for each node, and terms are written with the levels of their binders.

var (
	modeWords = map[string]int{"any": api.MdNone, "in": api.MdIn, "out": api.MdOut}
	predKinds = map[int]int{api.NdPred: api.PrBack, api.NdFact: api.PrFact, api.NdLast: api.PrLast}
	useKinds  = map[int]int{api.NdRule: api.UsLast, api.NdOnce: api.UsOnce, api.NdMost: api.UsMost}
	signs     = map[int]string{api.NdTensor: "*", api.NdWith: "&", api.NdPlus: "+", api.NdLolli: "-o", api.NdImp: "=>", api.NdBang: "!", api.NdMonad: "{}", api.NdOne: "one", api.NdTop: "top", api.NdAll: "all", api.NdEx: "ex"}
	formSigns = map[int]string{api.FoTensor: "*", api.FoWith: "&", api.FoPlus: "+", api.FoLolli: "-o", api.FoImp: "=>", api.FoBang: "!", api.FoMonad: "{}", api.FoOne: "one", api.FoTop: "top", api.FoAll: "all", api.FoEx: "ex"}
)

func base(name string) api.Type { return api.Type{Name: name} }

// fn is the type of functions of some types, to the last one.
func fn(list ...api.Type) api.Type {
	if len(list) == 1 {
		return list[0]
	}
	return api.Type{Name: "->", Args: []api.Type{list[0], fn(list[1:]...)}}
}

// flat has the arguments of a type, and behind them its target.
func flat(t api.Type) []api.Type {
	if t.Name != "->" {
		return []api.Type{t}
	}
	return append([]api.Type{t.Args[0]}, flat(t.Args[1])...)
}

func typeText(t api.Type) string {
	var parts []string
	for _, x := range t.Args {
		parts = append(parts, typeText(x))
	}
	return t.Name + "(" + strings.Join(parts, ",") + ")"
}

// patterned reports whether a type is a variable type.
func patterned(t api.Type) bool {
	l := flat(t)
	return len(l) <= 9 && !slices.ContainsFunc(l, func(x api.Type) bool { return x.Name == "->" })
}

// refType reads the tree of a type.
func refType(n api.Node) api.Type {
	if n.Kind == api.NdName {
		return base(n.Name)
	}
	return fn(refType(n.L[0]), refType(n.L[1]))
}

// refDecl has what a text declares; of what is declared twice the first one.
type refDecl struct {
	types  map[string]bool
	consts map[string]api.Type
	preds  map[string]api.Pred
}

func declOf(items []api.Node) refDecl {
	d := refDecl{map[string]bool{}, map[string]api.Type{}, map[string]api.Pred{}}
	for _, n := range items {
		last := len(n.L) - 1
		switch n.Kind {
		case api.NdType:
			for _, x := range n.L {
				d.types[x.Name] = true
			}
		case api.NdConst:
			for _, x := range n.L[:last] {
				if !d.has(x.Name) {
					d.consts[x.Name] = refType(n.L[last])
				}
			}
		case api.NdPred, api.NdFact, api.NdLast:
			if !d.has(n.Name) {
				x := api.Pred{Name: n.Name, Kind: predKinds[n.Kind]}
				for _, t := range n.L {
					x.Types = append(x.Types, refType(t))
				}
				d.preds[n.Name] = x
			}
		}
	}
	return d
}

func declIn(p api.Program) refDecl {
	d := refDecl{map[string]bool{}, map[string]api.Type{}, map[string]api.Pred{}}
	for _, name := range p.Types {
		d.types[name] = true
	}
	for _, c := range p.Consts {
		d.consts[c.Name] = c.Type
	}
	for _, x := range p.Preds {
		d.preds[x.Name] = x
	}
	return d
}

func (d refDecl) has(name string) bool {
	_, isConst := d.consts[name]
	_, isPred := d.preds[name]
	return isConst || isPred
}

// refVar is a variable of a tree: its type, what is known of it, and how many binders are around its own one.
type refVar struct {
	name   string
	typ    api.Type
	chosen bool
	outer  bool
	depth  int
}

// refNode is a node of a formula's tree.
type refNode struct {
	path []int
	node api.Node
	atom bool
	term bool
	env  []*refVar // the binders around, the innermost last
	v    *refVar   // what it binds, or the variable that it denotes
	typ  api.Type  // of a name in a term: that of what it denotes
	no   bool      // a name in a term that denotes nothing
	ask  api.Type
	l    []*refNode
}

// ref is a formula that is read.
type ref struct {
	refDecl
	left  bool
	given bool // there are no other outer variables than those that were given
	nodes []*refNode
	outer []*refVar
	count int
	// of each node, in order, its equation
	equations [][2]api.Type
	solution  map[string]api.Type
}

func (r *ref) fresh() api.Type {
	r.count++
	return base(fmt.Sprint("?", r.count))
}

// readRef reads a formula that stands on a side.
func readRef(d refDecl, n api.Node, path []int, left bool) *ref {
	r := &ref{refDecl: d, left: left}
	r.read(n, path, nil, left, false, api.Type{})
	return r
}

// readTerm reads a term with a type and variables.
func readTerm(d refDecl, vars []api.Named, t api.Type, n api.Node) *ref {
	r := &ref{refDecl: d, given: true}
	for _, v := range vars {
		r.outer = append(r.outer, &refVar{name: v.Name, typ: v.Type, outer: true, depth: -1})
	}
	r.read(n, nil, nil, false, true, t)
	return r
}

func (r *ref) read(n api.Node, path []int, env []*refVar, left, term bool, ask api.Type) *refNode {
	x := &refNode{path: path, node: n, env: env, term: term, ask: ask, atom: !term && n.Kind == api.NdName}
	r.nodes = append(r.nodes, x)
	below := func(i int, env []*refVar, left, term bool, ask api.Type) {
		x.l = append(x.l, r.read(n.L[i], append(slices.Clone(path), i), env, left, term, ask))
	}
	at := len(r.equations)
	r.equations = append(r.equations, [2]api.Type{})
	switch n.Kind {
	case api.NdLam, api.NdAll, api.NdEx:
		last := len(n.L) - 1
		x.v = &refVar{name: n.Name, typ: r.fresh(), depth: len(env)}
		x.v.chosen = n.Kind == api.NdAll && left || n.Kind == api.NdEx && !left
		if last == 1 {
			x.v.typ = refType(n.L[0])
		}
		body := r.fresh()
		if term {
			r.equations[at] = [2]api.Type{ask, fn(x.v.typ, body)}
		}
		below(last, append(slices.Clone(env), x.v), left, term, body)
	case api.NdName, api.NdVar:
		var asked []api.Type
		if x.atom {
			asked = r.preds[n.Name].Types
		} else {
			r.denote(x)
			for range n.L {
				asked = append(asked, r.fresh())
			}
			r.equations[at] = [2]api.Type{x.typ, fn(append(slices.Clone(asked), ask)...)}
		}
		for i := range n.L {
			if i >= len(asked) {
				asked = append(asked, r.fresh())
			}
			below(i, env, left, true, asked[i])
		}
	default:
		for i := range n.L {
			front := (n.Kind == api.NdLolli || n.Kind == api.NdImp) && i == 0 || (n.Kind == api.NdFrom || n.Kind == api.NdIf) && i == 1
			below(i, env, left != front, false, api.Type{})
		}
	}
	return x
}

// denote finds what a name in a term denotes.
func (r *ref) denote(x *refNode) {
	name := x.node.Name
	all := slices.Concat(r.outer, x.env)
	for i := len(all) - 1; i >= 0; i-- {
		if all[i].name == name && (!all[i].outer || x.node.Kind == api.NdVar) {
			x.v, x.typ = all[i], all[i].typ
			return
		}
	}
	if x.no = x.node.Kind == api.NdVar && r.given; x.no {
		return
	}
	if x.node.Kind == api.NdVar {
		x.v = &refVar{name: name, typ: r.fresh(), chosen: true, outer: true, depth: -1}
		x.typ = x.v.typ
		r.outer = append(r.outer, x.v)
		return
	}
	t, ok := r.consts[name]
	x.typ, x.no = t, !ok
}

// put replaces what is known of the types that are to be found.
func put(known map[string]api.Type, t api.Type) api.Type {
	if x, ok := known[t.Name]; ok {
		return put(known, x)
	}
	out := api.Type{Name: t.Name}
	for _, x := range t.Args {
		out.Args = append(out.Args, put(known, x))
	}
	return out
}

// solve solves equations, if they can be.
func solve(equations [][2]api.Type) (map[string]api.Type, bool) {
	known := map[string]api.Type{}
	work := slices.Clone(equations)
	for len(work) > 0 {
		a, b := put(known, work[0][0]), put(known, work[0][1])
		work = work[1:]
		if b.Name != "" && b.Name[0] == '?' {
			a, b = b, a
		}
		switch {
		case typeText(a) == typeText(b):
		case a.Name[0] == '?':
			if strings.Contains(typeText(b), a.Name+"(") {
				return nil, false
			}
			known[a.Name] = b
		case a.Name != b.Name:
			return nil, false
		default:
			work = append(work, [2]api.Type{a.Args[0], b.Args[0]}, [2]api.Type{a.Args[1], b.Args[1]})
		}
	}
	return known, true
}

// blame is the first blame of the lines 5 to 8, if there is one.
func (r *ref) blame() (api.Blame, bool) {
	for _, x := range r.nodes {
		pred, ok := r.preds[x.node.Name]
		if x.atom && !ok || x.no {
			return api.Blame{Path: x.path, Code: api.BlUnknown}, true
		}
		if x.atom && len(pred.Types) != len(x.l) {
			return api.Blame{Path: x.path, Code: api.BlMany}, true
		}
	}
	for i := range r.nodes {
		if _, ok := solve(r.equations[:i+1]); !ok {
			return api.Blame{Path: r.nodes[i].path, Code: api.BlWrong}, true
		}
	}
	r.solution, _ = solve(r.equations)
	for _, x := range r.nodes {
		if x.v != nil && strings.Contains(typeText(put(r.solution, x.v.typ)), "?") {
			return api.Blame{Path: x.path, Code: api.BlOpen}, true
		}
	}
	for _, x := range r.nodes {
		if x.v == nil || !x.v.chosen {
			continue
		}
		binds := !x.term || x.v.outer
		if binds && !patterned(put(r.solution, x.v.typ)) || x.term && !r.keeps(x) {
			return api.Blame{Path: x.path, Code: api.BlPattern}, true
		}
	}
	return api.Blame{}, false
}

// written is a term with the levels of its binders in the place of numbers: the head of a bound variable is its level.
type written struct {
	lam   bool
	head  string
	bound int // the level of the head; -1 of a constant, -2 of a TmVar
	l     []written
}

func (w written) String() string {
	out := w.head
	if w.bound >= 0 {
		out = fmt.Sprint("#", w.bound)
	}
	if w.lam {
		out = "\\"
	}
	for _, x := range w.l {
		out += "(" + x.String() + ")"
	}
	return out
}

// write is the canonical term of a node with a number of binders around it, whose variables have the levels that are told. What becomes too large ends with a panic.
func (r *ref) write(x *refNode, depth int, levels map[*refVar]int) written {
	if x.node.Kind == api.NdLam {
		levels = maps.Clone(levels)
		levels[x.v] = depth
		return written{lam: true, l: []written{r.write(x.l[0], depth+1, levels)}}
	}
	types := flat(put(r.solution, x.ask))
	more := types[:len(types)-1]
	w := written{head: x.node.Name, bound: -1}
	if x.v != nil {
		w = written{head: fmt.Sprint("V", slices.Index(r.outer, x.v)), bound: -2}
		if level, ok := levels[x.v]; ok {
			w = written{bound: level}
		}
	}
	for _, y := range x.l {
		w.l = append(w.l, r.write(y, depth+len(more), levels))
	}
	for i, t := range more {
		w.l = append(w.l, expanded(depth+i, t, depth+len(more)))
	}
	for range more {
		w = written{lam: true, l: []written{w}}
	}
	return w
}

// expanded is the canonical term of a bound variable, by its level.
func expanded(level int, t api.Type, depth int) written {
	types := flat(t)
	more := types[:len(types)-1]
	w := written{bound: level}
	for i, x := range more {
		w.l = append(w.l, expanded(depth+i, x, depth+len(more)))
	}
	for range more {
		w = written{lam: true, l: []written{w}}
	}
	return w
}

// keeps reports whether the canonical term of a node whose variable is chosen keeps the pattern rule: the binders around it count as in the tree, those by which it is expanded are further ones.
func (r *ref) keeps(x *refNode) bool {
	levels := map[*refVar]int{x.v: -1}
	for i, v := range x.env {
		levels[v] = i
	}
	w := r.write(x, len(x.env), levels)
	for w.lam {
		w = w.l[0]
	}
	met := map[int]bool{}
	for _, y := range w.l {
		chosen := y.bound >= 0 && y.bound < len(x.env) && x.env[y.bound].chosen
		if y.lam || y.bound < 0 || len(y.l) > 0 || chosen || y.bound <= x.v.depth || met[y.bound] {
			return false
		}
		met[y.bound] = true
	}
	return true
}

// text writes the formula of a node with levels of binders.
func (r *ref) text(x *refNode, depth int, levels map[*refVar]int) string {
	var parts []string
	if x.v != nil {
		levels = maps.Clone(levels)
		levels[x.v] = depth
		depth++
	}
	for _, y := range x.l {
		if y.term {
			parts = append(parts, r.write(y, depth, levels).String())
		} else {
			parts = append(parts, r.text(y, depth, levels))
		}
	}
	sign := signs[x.node.Kind]
	switch x.node.Kind {
	case api.NdFrom, api.NdIf:
		slices.Reverse(parts)
		sign = map[int]string{api.NdFrom: "-o", api.NdIf: "=>"}[x.node.Kind]
	case api.NdName:
		sign = x.node.Name
	case api.NdAll, api.NdEx:
		sign += " " + x.node.Name + ":" + typeText(put(r.solution, x.v.typ))
	}
	return sign + "[" + strings.Join(parts, " ") + "]"
}

// whole writes the formula that a rule or a query has, and a query's variables.
func (r *ref) whole() string {
	out, end, depth := "", "", 0
	levels := map[*refVar]int{}
	for i, v := range r.outer {
		typ := typeText(put(r.solution, v.typ))
		if r.left {
			out, end, depth = out+"all "+v.name+":"+typ+"[", end+"]", depth+1
			levels[v] = i
		} else {
			out += v.name + ":" + typ + ". "
		}
	}
	return out + r.text(r.nodes[0], depth, levels) + end
}

// termText and formText write terms and formulas in the same way.
func termText(t api.Term, depth int) string {
	out := t.Name
	switch t.Kind {
	case api.TmLam:
		return "\\(" + termText(t.Args[0], depth+1) + ")"
	case api.TmBound:
		out = fmt.Sprint("#", depth-1-t.N)
	case api.TmVar:
		out = fmt.Sprint("V", t.N)
	}
	for _, x := range t.Args {
		out += "(" + termText(x, depth) + ")"
	}
	return out
}

func formText(f api.Form, depth int) string {
	var parts []string
	sign := formSigns[f.Kind]
	switch f.Kind {
	case api.FoAtom:
		sign = f.Name
	case api.FoAll, api.FoEx:
		sign += " " + f.Name + ":" + typeText(f.Type)
		depth++
	}
	for _, x := range f.Args {
		parts = append(parts, termText(x, depth))
	}
	for _, x := range f.L {
		parts = append(parts, formText(x, depth))
	}
	return sign + "[" + strings.Join(parts, " ") + "]"
}

func queryText(q api.Query) string {
	out := ""
	for _, v := range q.Vars {
		out += v.Name + ":" + typeText(v.Type) + ". "
	}
	return out + formText(q.Form, 0)
}

// paths has the paths of all nodes of a tree, each one ahead of its L.
func paths(n api.Node) [][]int {
	list := [][]int{nil}
	for i, x := range n.L {
		for _, p := range paths(x) {
			list = append(list, append([]int{i}, p...))
		}
	}
	return list
}

// at points to the node at a path.
func at(n *api.Node, path []int) *api.Node {
	for _, i := range path {
		n = &n.L[i]
	}
	return n
}

// inType reports whether a path leads to a node of a type.
func inType(n api.Node, path []int) bool {
	for k := range path {
		over := at(&n, path[:k])
		last := len(over.L) - 1
		switch over.Kind {
		case api.NdPred, api.NdFact, api.NdLast:
			return true
		case api.NdConst:
			return path[k] == last
		case api.NdLam, api.NdAll, api.NdEx:
			if last == 1 && path[k] == 0 {
				return true
			}
		}
	}
	return false
}

// declaredBy has the names that an item declares, each with its sort in front, and the paths at which they are blamed.
func declaredBy(i int, n api.Node) (names []string, at [][]int) {
	add := func(name string, path ...int) { names, at = append(names, name), append(at, path) }
	for k, x := range n.L {
		if n.Kind == api.NdType {
			add("type "+x.Name, i, k)
		}
		if n.Kind == api.NdConst && k < len(n.L)-1 {
			add("term "+x.Name, i, k)
		}
	}
	switch {
	case predKinds[n.Kind] != 0:
		add("term "+n.Name, i)
	case useKinds[n.Kind] != 0:
		add("rule "+n.Name, i)
	case n.Kind == api.NdQuery:
		add("query "+n.Name, i)
	}
	return names, at
}

// blameOf is the blame of an item of a text, if it has one; and, if it has a formula, what was read.
func blameOf(n api.Node, i int) (api.Blame, bool, *ref) {
	item, d := n.L[i], declOf(n.L)
	if item.Kind == api.NdModule || item.Kind == api.NdUse || item.Kind == api.NdExport {
		return api.Blame{Path: []int{i}, Code: api.BlItem}, true, nil
	}
	met := map[string]bool{}
	for k := range i {
		names, _ := declaredBy(k, n.L[k])
		for _, name := range names {
			met[name] = true
		}
	}
	names, where := declaredBy(i, item)
	for k, name := range names {
		if met[name] {
			return api.Blame{Path: where[k], Code: api.BlTwice}, true, nil
		}
		met[name] = true
	}
	for _, path := range paths(item) {
		if x := at(&item, path); x.Kind == api.NdName && inType(item, path) && !d.types[x.Name] {
			return api.Blame{Path: append([]int{i}, path...), Code: api.BlType}, true, nil
		}
	}
	if item.Kind == api.NdMode {
		x, ok := d.preds[item.Name]
		if !ok || len(x.Types) != len(item.L) {
			return api.Blame{Path: []int{i}, Code: api.BlMode}, true, nil
		}
		if slices.ContainsFunc(n.L[:i], func(y api.Node) bool { return y.Kind == api.NdMode && y.Name == item.Name }) {
			return api.Blame{Path: []int{i}, Code: api.BlTwice}, true, nil
		}
	}
	if useKinds[item.Kind] == 0 && item.Kind != api.NdQuery {
		return api.Blame{}, false, nil
	}
	r := readRef(d, item.L[0], []int{i, 0}, item.Kind != api.NdQuery)
	b, is := r.blame()
	return b, is, r
}

// blamesOf are the blames of a text.
func blamesOf(n api.Node) []api.Blame {
	var list []api.Blame
	for i := range n.L {
		if b, is, _ := blameOf(n, i); is {
			list = append(list, b)
		}
	}
	return list
}

// programText writes the program that a text without blames should be.
func programText(n api.Node) string {
	var types, consts, preds, rules, queries []string
	d := declOf(n.L)
	for i, item := range n.L {
		_, _, r := blameOf(n, i)
		names, _ := declaredBy(i, item)
		switch {
		case item.Kind == api.NdType:
			types = append(types, names...)
		case item.Kind == api.NdConst:
			for _, name := range names {
				consts = append(consts, name+":"+typeText(d.consts[strings.TrimPrefix(name, "term ")]))
			}
		case predKinds[item.Kind] != 0:
			x := d.preds[item.Name]
			out := fmt.Sprint(names[0], x.Kind)
			for _, t := range x.Types {
				out += " " + typeText(t)
			}
			for _, m := range n.L {
				if m.Kind == api.NdMode && m.Name == item.Name {
					for _, word := range m.L {
						out += fmt.Sprint(modeWords[word.Name])
					}
				}
			}
			preds = append(preds, out)
		case useKinds[item.Kind] != 0:
			rules = append(rules, fmt.Sprint(names[0], useKinds[item.Kind], r.whole()))
		case item.Kind == api.NdQuery:
			queries = append(queries, names[0]+r.whole())
		}
	}
	return strings.Join(slices.Concat(types, consts, preds, rules, queries), "\n")
}

// writtenProgram writes a program in the same way.
func writtenProgram(p api.Program) string {
	var out []string
	for _, name := range p.Types {
		out = append(out, "type "+name)
	}
	for _, c := range p.Consts {
		out = append(out, "term "+c.Name+":"+typeText(c.Type))
	}
	for _, x := range p.Preds {
		s := fmt.Sprint("term ", x.Name, x.Kind)
		for _, t := range x.Types {
			s += " " + typeText(t)
		}
		for _, m := range x.Modes {
			s += fmt.Sprint(m)
		}
		out = append(out, s)
	}
	for _, r := range p.Rules {
		out = append(out, fmt.Sprint("rule ", r.Name, r.Use, formText(r.Form, 0)))
	}
	for _, q := range p.Queries {
		out = append(out, "query "+q.Name+queryText(q))
	}
	return strings.Join(out, "\n")
}

// ctxVar is a variable of a binder around a term.
type ctxVar struct {
	typ    api.Type
	chosen bool
}

// refChecker holds programs against the chapter's words.
type refChecker struct {
	refDecl
	vars []api.Named
}

// validProgram reports whether a program that is not too large is valid.
func validProgram(p api.Program) bool {
	d := declIn(p)
	var terms, rules, queries []string
	ok := true
	need := func(is bool) { ok = ok && is }
	for _, c := range p.Consts {
		terms = append(terms, c.Name)
		need(d.simple(c.Type))
	}
	for _, x := range p.Preds {
		terms = append(terms, x.Name)
		need(x.Kind == api.PrBack || x.Kind == api.PrFact || x.Kind == api.PrLast)
		need(len(x.Modes) == 0 || len(x.Modes) == len(x.Types))
		for _, m := range x.Modes {
			need(m == api.MdNone || m == api.MdIn || m == api.MdOut)
		}
		for _, t := range x.Types {
			need(d.simple(t))
		}
	}
	if !ok {
		return false
	}
	for _, r := range p.Rules {
		rules = append(rules, r.Name)
		need(r.Use == api.UsLast || r.Use == api.UsOnce || r.Use == api.UsMost)
		need(refChecker{d, nil}.form(nil, r.Form, true))
	}
	for _, q := range p.Queries {
		queries = append(queries, q.Name)
		var names []string
		for _, v := range q.Vars {
			names = append(names, v.Name)
			need(lex.IsVar(v.Name) && d.simple(v.Type) && patterned(v.Type))
		}
		need(distinct(names))
		need(ok && refChecker{d, q.Vars}.form(nil, q.Form, false))
	}
	for _, names := range [][]string{p.Types, terms, rules, queries} {
		need(distinct(names) && !slices.ContainsFunc(names, func(s string) bool { return !lex.IsName(s) }))
	}
	return ok
}

func distinct(names []string) bool {
	l := slices.Sorted(slices.Values(names))
	return len(slices.Compact(l)) == len(names)
}

func (d refDecl) simple(t api.Type) bool {
	if t.Name != "->" {
		return d.types[t.Name] && len(t.Args) == 0
	}
	return len(t.Args) == 2 && d.simple(t.Args[0]) && d.simple(t.Args[1])
}

// form reports whether a formula on a side is well-typed and keeps the pattern rule.
func (r refChecker) form(ctx []ctxVar, f api.Form, left bool) bool {
	sizes := map[int]int{api.FoTensor: 2, api.FoWith: 2, api.FoPlus: 2, api.FoLolli: 2, api.FoImp: 2, api.FoBang: 1, api.FoMonad: 1, api.FoAll: 1, api.FoEx: 1}
	if f.Kind < api.FoAtom || f.Kind > api.FoMonad || len(f.L) != sizes[f.Kind] {
		return false
	}
	atom, quantifier := f.Kind == api.FoAtom, f.Kind == api.FoAll || f.Kind == api.FoEx
	switch {
	case !atom && len(f.Args) > 0, !atom && !quantifier && f.Name != "", !quantifier && typeText(f.Type) != "()":
		return false
	case atom:
		x, ok := r.preds[f.Name]
		if !ok || len(x.Types) != len(f.Args) {
			return false
		}
		for i, t := range f.Args {
			if !r.term(ctx, t, x.Types[i]) {
				return false
			}
		}
	case quantifier:
		v := ctxVar{f.Type, f.Kind == api.FoAll && left || f.Kind == api.FoEx && !left}
		if !lex.IsName(f.Name) && !lex.IsVar(f.Name) || !r.simple(f.Type) || v.chosen && !patterned(f.Type) {
			return false
		}
		ctx = append(slices.Clone(ctx), v)
	}
	for i, x := range f.L {
		front := i == 0 && (f.Kind == api.FoLolli || f.Kind == api.FoImp)
		if !r.form(ctx, x, left != front) {
			return false
		}
	}
	return true
}

func (r refChecker) term(ctx []ctxVar, t api.Term, typ api.Type) bool {
	ctx = slices.Clone(ctx)
	types := flat(typ)
	for _, x := range types[:len(types)-1] {
		if t.Kind != api.TmLam || t.N != 0 || t.Name != "" || len(t.Args) != 1 {
			return false
		}
		ctx, t = append(ctx, ctxVar{x, false}), t.Args[0]
	}
	var v ctxVar
	at := -1
	switch {
	case t.Kind == api.TmCon && t.N == 0:
		v.typ = r.consts[t.Name]
	case t.Kind == api.TmBound && t.Name == "" && t.N >= 0 && t.N < len(ctx):
		at = len(ctx) - 1 - t.N
		v = ctx[at]
	case t.Kind == api.TmVar && t.Name == "" && t.N >= 0 && t.N < len(r.vars):
		v = ctxVar{r.vars[t.N].Type, true}
	}
	args := flat(v.typ)
	if args[len(args)-1].Name != types[len(types)-1].Name || len(args)-1 != len(t.Args) || len(t.Args) > 8 {
		return false
	}
	met := map[int]bool{}
	for i, x := range t.Args {
		if !r.term(ctx, x, args[i]) {
			return false
		}
		level := len(ctx) - 1 - x.N
		if v.chosen && (x.Kind != api.TmBound || len(x.Args) > 0 || ctx[level].chosen || level <= at || met[level]) {
			return false
		}
		met[level] = true
	}
	return true
}
