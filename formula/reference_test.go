package formula_test

import (
	"cmp"
	"reflect"
	"slices"
	"testing"
	"unsafe"

	"peculium/api"
	"peculium/lex"
	"peculium/term"
	"peculium/types"
)

// This is a second way to what package formula does, nearer to the words of the chapter, and slower.

// same reports whether two values are equal, whereby empty lists are nil.
func same[T any](a, b T) bool { return reflect.DeepEqual(nilled(a), nilled(b)) }

// copied is a value in new memory.
func copied[T any](x T) T { return nilled(x) }

// nilled is a copy of a value with nil for each empty list.
func nilled[T any](x T) T {
	return rebuilt(reflect.ValueOf(&x).Elem()).Interface().(T)
}

func rebuilt(v reflect.Value) reflect.Value {
	out := reflect.New(v.Type()).Elem()
	switch v.Kind() {
	case reflect.Struct:
		for n := range v.NumField() {
			out.Field(n).Set(rebuilt(v.Field(n)))
		}
	case reflect.Slice:
		for n := range v.Len() {
			out = reflect.Append(out, rebuilt(v.Index(n)))
		}
	default:
		out.Set(v)
	}
	return out
}

// memory gathers where the lists of a value stand, those without elements but with room, too.
func memory(v reflect.Value, visit func(at unsafe.Pointer)) {
	switch v.Kind() {
	case reflect.Struct:
		for n := range v.NumField() {
			memory(v.Field(n), visit)
		}
	case reflect.Slice:
		if v.Cap() > 0 {
			visit(v.UnsafePointer())
		}
		for n := range v.Len() {
			memory(v.Index(n), visit)
		}
	}
}

// ownMemory fails unless the lists of a result share no memory with one another, and none with the arguments.
func ownMemory(t *testing.T, call string, result any, arguments ...any) {
	t.Helper()
	met := map[unsafe.Pointer]bool{}
	for _, x := range arguments {
		memory(reflect.ValueOf(x), func(at unsafe.Pointer) { met[at] = true })
	}
	memory(reflect.ValueOf(result), func(at unsafe.Pointer) {
		if met[at] {
			t.Errorf("%v shares memory", call)
		}
		met[at] = true
	})
}

// refSize returns the nodes and the depth of a formula without end neither of nodes nor of levels.
func refSize(f api.Form) (nodes, depth int) {
	nodes = 1
	for _, t := range f.Args {
		n, d := refTermSize(t)
		if f.Kind == api.FoAtom {
			nodes += n
		}
		depth = max(depth, d)
	}
	for _, x := range f.L {
		n, d := refSize(x)
		nodes, depth = nodes+n, max(depth, d)
	}
	return nodes, depth + 1
}

func refTermSize(t api.Term) (nodes, depth int) {
	for _, x := range t.Args {
		n, d := refTermSize(x)
		nodes, depth = nodes+n, max(depth, d)
	}
	return nodes + 1, depth + 1
}

// refRaw returns the error of Raw.
func refRaw(f api.Form) api.Errno {
	nodes, depth := refSize(f)
	switch {
	case nodes > 4000:
		return api.ErrLong
	case depth > 100:
		return api.ErrDeep
	case !refIsRaw(f):
		return api.ErrForm
	}
	return api.OK
}

// elements tells how many elements of L the formulas of each kind have.
var elements = [13]int{0, 0, 0, 0, 2, 2, 2, 2, 2, 1, 1, 1, 1}

func refIsRaw(f api.Form) bool {
	if f.Kind < api.FoAtom || f.Kind > api.FoMonad || len(f.L) != elements[f.Kind] || slices.ContainsFunc(f.L, func(x api.Form) bool { return !refIsRaw(x) }) {
		return false
	}
	noType := same(f.Type, api.Type{})
	switch f.Kind {
	case api.FoAtom:
		return noType && lex.IsName(f.Name) && len(f.Args) <= 8 && !slices.ContainsFunc(f.Args, func(t api.Term) bool { return term.Raw(t) != api.OK })
	case api.FoAll, api.FoEx:
		err := term.CheckType(api.Program{Types: []string{"i"}}, f.Type)
		return len(f.Args) == 0 && (lex.IsName(f.Name) || lex.IsVar(f.Name)) && (err == api.OK || err == api.ErrBase)
	}
	return noType && f.Name == "" && len(f.Args) == 0
}

// production tells that formulas of a kind, whose L are of some words, are of a word; the kind 0, that those of another word are.
type production struct {
	kind  int
	parts []string
}

// The words that stand for atoms, by their kinds.
var terminals = map[string]int{"back": api.PrBack, "fact": api.PrFact, "last": api.PrLast, "atom": anyKind}

const anyKind = 99

// grammar has the shapes of chapter 6, but for what is told of variables there.
var grammar = shapes()

func shapes() map[string][]production {
	x := func(kind int, parts ...string) production { return production{kind, parts} }
	yields := func(word string) []production {
		return []production{x(0, "fact"), x(api.FoBang, "last"), x(api.FoOne), x(api.FoTensor, word, word), x(api.FoEx, word)}
	}
	goals := func(word string) []production {
		return []production{x(api.FoAll, word), x(api.FoLolli, "clause", word), x(api.FoLolli, "fact", word), x(api.FoImp, "clause", word), x(api.FoImp, "last", word)}
	}
	return map[string][]production{
		"plain": append(goals("plain"), x(0, "atom"), x(api.FoOne), x(api.FoTop), x(api.FoTensor, "plain", "plain"), x(api.FoWith, "plain", "plain"),
			x(api.FoPlus, "plain", "plain"), x(api.FoBang, "plain"), x(api.FoEx, "plain")),
		"clause":  {x(0, "back"), x(api.FoWith, "clause", "clause"), x(api.FoAll, "clause"), x(api.FoLolli, "plain", "clause"), x(api.FoImp, "plain", "clause")},
		"yield":   yields("yield"),
		"end":     append(yields("end"), x(api.FoTop)),
		"monadic": append(goals("monadic"), x(api.FoMonad, "end")),
		"rule":    {x(api.FoAll, "rule"), x(0, "chain")},
		"chain":   {x(api.FoLolli, "fact", "chain"), x(api.FoImp, "last", "chain"), x(api.FoLolli, "fact", "made"), x(api.FoImp, "last", "made")},
		"made":    {x(api.FoMonad, "yield")},
		"any": {x(0, "atom"), x(api.FoOne), x(api.FoTop), x(api.FoTensor, "any", "any"), x(api.FoWith, "any", "any"), x(api.FoPlus, "any", "any"),
			x(api.FoLolli, "any", "any"), x(api.FoImp, "any", "any"), x(api.FoBang, "any"), x(api.FoAll, "any"), x(api.FoEx, "any"), x(api.FoMonad, "any")},
	}
}

// derives reports whether a raw formula is of a word.
func derives(p api.Program, word string, f api.Form) bool {
	if kind, ok := terminals[word]; ok {
		at := slices.IndexFunc(p.Preds, func(x api.Pred) bool { return x.Name == f.Name })
		return f.Kind == api.FoAtom && at >= 0 && (kind == anyKind || p.Preds[at].Kind == kind)
	}
	return slices.ContainsFunc(grammar[word], func(x production) bool {
		if x.kind == 0 {
			return derives(p, x.parts[0], f)
		}
		if x.kind != f.Kind {
			return false
		}
		for n, part := range x.parts {
			if !derives(p, part, f.L[n]) {
				return false
			}
		}
		return true
	})
}

// refKind is Kind, refMonadic Monadic, and refGoal whether a formula is a goal.
func refKind(p api.Program, f api.Form) int {
	switch {
	case refRaw(f) != api.OK:
		return api.HyNone
	case derives(p, "clause", f):
		return api.HyBack
	case derives(p, "fact", f):
		return api.HyFact
	case derives(p, "last", f):
		return api.HyLast
	case derives(p, "rule", f) && refAllMet(f):
		return api.HyRule
	}
	return api.HyNone
}

func refMonadic(p api.Program, f api.Form) bool {
	return refRaw(f) == api.OK && derives(p, "monadic", f) && refIntroducesNoVar(f)
}

func refGoal(p api.Program, f api.Form) bool {
	return refRaw(f) == api.OK && derives(p, "plain", f) || refMonadic(p, f)
}

// refAllMet reports whether the variable of each FoAll around a rule occurs in an antecedent.
func refAllMet(f api.Form) bool {
	if f.Kind != api.FoAll {
		return true
	}
	rule, index := f.L[0], 0
	for rule.Kind == api.FoAll {
		rule, index = rule.L[0], index+1
	}
	for ; rule.Kind != api.FoMonad; rule = rule.L[1] {
		if slices.ContainsFunc(rule.L[0].Args, func(t api.Term) bool { return refOccurs(t, index) }) {
			return refAllMet(f.L[0])
		}
	}
	return false
}

func refOccurs(t api.Term, index int) bool {
	if t.Kind == api.TmLam {
		return refOccurs(t.Args[0], index+1)
	}
	return t.Kind == api.TmBound && t.N == index || slices.ContainsFunc(t.Args, func(x api.Term) bool { return refOccurs(x, index) })
}

// refIntroducesNoVar reports whether no TmVar occurs in what a monadic goal introduces.
func refIntroducesNoVar(f api.Form) bool {
	switch f.Kind {
	case api.FoAll:
		return refIntroducesNoVar(f.L[0])
	case api.FoLolli, api.FoImp:
		return len(refNumbers(f.L[0], api.TmVar)) == 0 && refIntroducesNoVar(f.L[1])
	}
	return true
}

// encoded is the term that a formula is, if quantifiers are constants with a lambda.
func encoded(f api.Form) api.Term {
	if f.Kind == api.FoAtom {
		return con("p", f.Args...)
	}
	t := con("k")
	for _, x := range f.L {
		t.Args = append(t.Args, encoded(x))
	}
	if f.Kind == api.FoAll || f.Kind == api.FoEx {
		t.Args[0] = lams(1, t.Args[0])
	}
	return t
}

// decoded is a formula with the terms of an encoded one.
func decoded(f api.Form, t api.Term) api.Form {
	f = copied(f)
	if f.Kind == api.FoAtom {
		f.Args = copied(t.Args)
		return f
	}
	for n, x := range t.Args {
		if f.Kind == api.FoAll || f.Kind == api.FoEx {
			x = x.Args[0]
		}
		f.L[n] = decoded(f.L[n], x)
	}
	return f
}

// refNumbers returns the numbers of the heads of a kind.
func refNumbers(f api.Form, kind int) []int {
	if kind == api.TmVar {
		return term.Vars(encoded(f))
	}
	return term.Pars(encoded(f))
}

// refChanged is what an operation of layer 4 or 5 makes of a formula, if it has no error with its term.
func refChanged(f api.Form, op func(t api.Term) (api.Term, api.Errno)) (api.Form, bool) {
	t, err := op(encoded(f))
	if err != api.OK {
		return api.Form{}, false
	}
	return decoded(f, t), true
}

// refBind is Bind by way of a variable, which gets the bound variable as its value.
func refBind(f api.Form, kind, number int, x api.Named) (api.Form, bool) {
	t, err := term.Shift(encoded(f), 1, 0)
	if err != api.OK {
		return api.Form{}, false
	}
	var list []api.Term
	for n := range 1 + max(0, slices.Max(append(refNumbers(f, api.TmVar), 0))) {
		list = append(list, vari(n))
	}
	var down func(t api.Term) api.Term
	down = func(t api.Term) api.Term {
		if t.Kind == api.TmPar && t.N == number {
			t.Kind, t.N = api.TmVar, len(list)
		}
		for n, a := range t.Args {
			t.Args[n] = down(a)
		}
		return t
	}
	t, err = term.Put(down(t), append(list, bound(0)))
	if err != api.OK {
		return api.Form{}, false
	}
	return api.Form{Kind: kind, Name: x.Name, Type: x.Type, L: []api.Form{decoded(f, t)}}, true
}

// refTyped reports whether a small formula is well-typed, and keeps the pattern rule. Layer 3 tells it: of a query with the variables that occur, whose parameters are bound by FoAll around it; and in front of it, if it stands on the left.
func refTyped(p api.Program, vars, pars []api.Type, f api.Form, left bool) bool {
	q := api.Query{Name: "q"}
	occurring := refNumbers(f, api.TmVar)
	values := slices.Repeat([]api.Term{vari(9)}, len(vars))
	for n, v := range occurring {
		if v >= len(vars) {
			return false
		}
		q.Vars = append(q.Vars, api.Named{Name: "V" + string(rune('a'+n)), Type: vars[v]})
		values[v] = vari(n)
	}
	f, ok := refChanged(f, func(t api.Term) (api.Term, api.Errno) { return term.Put(t, values) })
	if !ok || len(q.Vars) > 8 {
		panic("this is no small formula")
	}
	if left {
		f = of(api.FoLolli, f, one)
	}
	for n, ty := range slices.Backward(pars) {
		f, ok = refBind(f, api.FoAll, n, api.Named{Name: "x", Type: ty})
		if !ok {
			panic("this is no small formula")
		}
	}
	q.Form = f
	p.Rules, p.Queries = nil, []api.Query{q}
	return len(refNumbers(f, api.TmPar)) == 0 && types.Check(p) == api.OK
}

// field is a number or a string by which formulas are compared.
type field struct {
	n int
	s string
}

// refFields is what a raw formula consists of, in the order in which it is compared.
func refFields(f api.Form) []field {
	list := []field{{n: f.Kind}}
	switch f.Kind {
	case api.FoAtom:
		list = append(list, field{s: f.Name}, field{n: len(f.Args)})
		for _, t := range f.Args {
			list = append(list, refTermFields(t)...)
		}
	case api.FoAll, api.FoEx:
		list = append(list, refTypeFields(f.Type)...)
	}
	for _, x := range f.L {
		list = append(list, refFields(x)...)
	}
	return list
}

func refTermFields(t api.Term) []field {
	list := []field{{n: t.Kind}, {n: t.N}, {s: t.Name}, {n: len(t.Args)}}
	for _, x := range t.Args {
		list = append(list, refTermFields(x)...)
	}
	return list
}

func refTypeFields(ty api.Type) []field {
	list := []field{{s: ty.Name}, {n: len(ty.Args)}}
	for _, x := range ty.Args {
		list = append(list, refTypeFields(x)...)
	}
	return list
}

func refCompare(f, g api.Form) int {
	if refRaw(f) != api.OK || refRaw(g) != api.OK {
		return cmp.Compare(rank(f), rank(g))
	}
	return slices.CompareFunc(refFields(f), refFields(g), func(a, b field) int {
		return cmp.Or(cmp.Compare(a.n, b.n), cmp.Compare(a.s, b.s))
	})
}

func rank(f api.Form) int {
	if refRaw(f) == api.OK {
		return 1
	}
	return 0
}
