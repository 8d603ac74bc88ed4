package kernel_test

import (
	"maps"
	"reflect"
	"slices"
	"testing"
	"unsafe"

	"peculium/api"
	"peculium/formula"
	"peculium/term"
)

// This is a second way to what package kernel does, nearer to the words of the chapter, and slower.

// same reports whether two values are equal, whereby empty lists are nil.
func same[T any](a, b T) bool { return reflect.DeepEqual(copied(a), copied(b)) }

// copied is a copy of a value in new memory, with nil for each empty list.
func copied[T any](x T) T {
	return rebuilt(reflect.ValueOf(&x).Elem()).Interface().(T)
}

func rebuilt(v reflect.Value) reflect.Value {
	out := reflect.New(v.Type()).Elem()
	switch v.Kind() {
	case reflect.Struct:
		for n := range v.NumField() {
			out.Field(n).Set(rebuilt(v.Field(n)))
		}
	case reflect.Slice:
		for n := range v.Len() {
			out = reflect.Append(out, rebuilt(v.Index(n)))
		}
	default:
		out.Set(v)
	}
	return out
}

// memory gathers where the lists of a value stand, those without elements but with room, too.
func memory(v reflect.Value, visit func(at unsafe.Pointer)) {
	switch v.Kind() {
	case reflect.Struct:
		for n := range v.NumField() {
			memory(v.Field(n), visit)
		}
	case reflect.Slice:
		if v.Cap() > 0 {
			visit(v.UnsafePointer())
		}
		for n := range v.Len() {
			memory(v.Index(n), visit)
		}
	}
}

// ownMemory fails unless the lists of a result share no memory with one another, and none with the arguments.
func ownMemory(t *testing.T, call string, result any, arguments ...any) {
	t.Helper()
	met := map[unsafe.Pointer]bool{}
	for _, x := range arguments {
		memory(reflect.ValueOf(x), func(at unsafe.Pointer) { met[at] = true })
	}
	memory(reflect.ValueOf(result), func(at unsafe.Pointer) {
		if met[at] {
			t.Errorf("%v shares memory", call)
		}
		met[at] = true
	})
}

// refFormSize returns the nodes and the levels of a raw formula.
func refFormSize(f api.Form) (nodes, levels int) {
	nodes = 1
	for _, x := range f.Args {
		nodes, levels = nodes+term.Size(x), max(levels, term.Depth(x))
	}
	for _, x := range f.L {
		n, d := refFormSize(x)
		nodes, levels = nodes+n, max(levels, d)
	}
	return nodes, levels + 1
}

// refParts are the proofs directly within a proof.
func refParts(pf api.Proof) []api.Proof {
	var list []api.Proof
	for _, x := range pf.Spine {
		list = append(list, x.L...)
	}
	return append(list, pf.L...)
}

// refProofs are the proofs that a proof consists of.
func refProofs(pf api.Proof) []api.Proof {
	list := []api.Proof{pf}
	for _, x := range refParts(pf) {
		list = append(list, refProofs(x)...)
	}
	return list
}

// refTerms are the Terms of the proofs that a proof consists of.
func refTerms(pf api.Proof) []api.Term {
	var list []api.Term
	for _, x := range refProofs(pf) {
		list = append(list, x.Term)
		for _, y := range x.Spine {
			list = append(list, y.Term)
		}
		for _, y := range x.Moves {
			list = append(list, y.Terms...)
		}
	}
	return list
}

func refTermNodes(t api.Term) int {
	n := 1
	for _, x := range t.Args {
		n += refTermNodes(x)
	}
	return n
}

func refSize(pf api.Proof) int {
	n := 0
	for _, x := range refProofs(pf) {
		n += 1 + len(x.Spine) + len(x.Moves)
	}
	for _, x := range refTerms(pf) {
		if x.Kind != 0 || x.Name != "" || len(x.Args) > 0 {
			n += refTermNodes(x)
		}
	}
	return n
}

func refLevels(pf api.Proof) int {
	n := 0
	for _, x := range refParts(pf) {
		n = max(n, refLevels(x))
	}
	return n + 1
}

func refDepth(pf api.Proof) int {
	n := 0
	switch pf.Kind {
	case api.PfAtom:
		for _, x := range pf.Spine {
			for _, y := range x.L {
				n = max(n, refDepth(y))
			}
		}
		return 1 + n
	case api.PfMonad:
		if len(pf.L) > 0 {
			n = refDepth(pf.L[0])
		}
		return len(pf.Moves) + n
	}
	for _, x := range pf.L {
		n = max(n, refDepth(x))
	}
	return n
}

// refTooLarge returns the error of a proof that is too large.
func refTooLarge(pf api.Proof) api.Errno {
	isDeep := func(t api.Term) bool { return refTermLevels(t) > 100 }
	switch {
	case refSize(pf) > 20000:
		return api.ErrLong
	case refLevels(pf) > 2000 || slices.ContainsFunc(refTerms(pf), isDeep):
		return api.ErrDeep
	}
	return api.OK
}

func refTermLevels(t api.Term) int {
	n := 0
	for _, x := range t.Args {
		n = max(n, refTermLevels(x))
	}
	return n + 1
}

// refFields tells, by kinds, which field of a proof may be there, and how many proofs L has.
var refFields = map[int]struct {
	field string
	parts int
}{
	api.PfAtom: {"N Spine", 0}, api.PfOne: {"", 0}, api.PfTop: {"Uses", 0}, api.PfTensor: {"", 2}, api.PfWith: {"", 2}, api.PfLeft: {"", 1}, api.PfRight: {"", 1},
	api.PfLolli: {"", 1}, api.PfImp: {"", 1}, api.PfBang: {"", 1}, api.PfAll: {"", 1}, api.PfEx: {"Term", 1}, api.PfMonad: {"Moves", 1},
}

func refFormed(pf api.Proof) bool {
	for _, x := range refProofs(pf) {
		fields, ok := refFields[x.Kind]
		if !ok || len(x.L) != fields.parts {
			return false
		}
		x.Kind, x.L = 0, nil
		turns := x.Spine
		switch fields.field {
		case "N Spine":
			x.N, x.Spine = 0, nil
		case "Uses":
			x.Uses = nil
		case "Term":
			x.Term = api.Term{}
		case "Moves":
			x.Moves = nil
		}
		if !same(x, api.Proof{}) {
			return false
		}
		for _, y := range turns {
			is := map[int]bool{
				api.TuLeft: same(y, toLeft), api.TuRight: same(y, toRight),
				api.TuAll:   same(y, at(y.Term)),
				api.TuLolli: len(y.L) == 1 && same(y, by(y.L[0])),
				api.TuImp:   len(y.L) == 1 && same(y, imp(y.L[0])),
			}
			if !is[y.Kind] {
				return false
			}
		}
	}
	return true
}

// refSet is a set of numbers.
type refSet map[int]bool

func refUnion(list ...refSet) refSet {
	out := refSet{}
	for _, s := range list {
		maps.Copy(out, s)
	}
	return out
}

func refMeet(a, b refSet) bool {
	return slices.ContainsFunc(slices.Collect(maps.Keys(a)), func(n int) bool { return b[n] })
}

// refScope is what is there at a part of a proof.
type refScope struct {
	p    api.Program
	hyps []api.Given
	pars []api.Type
	path []int
}

// refStop is how a check ends that comes to nothing.
type refStop struct {
	path []int
	err  api.Errno
}

func (s refScope) need(met bool) {
	if !met {
		panic(refStop{s.path, api.ErrRefused})
	}
}

// with returns the scope with a hypothesis more.
func (s refScope) with(f api.Form, use int) refScope {
	if len(s.hyps) == 400 {
		panic(refStop{nil, api.ErrLong})
	}
	s.hyps = append(slices.Clone(s.hyps), api.Given{Form: f, Use: use})
	return s
}

// fresh returns the scope with a parameter more, and a quantifier opened with it.
func (s refScope) fresh(f api.Form) (refScope, api.Form) {
	if len(s.pars) == 60 {
		panic(refStop{nil, api.ErrLong})
	}
	x, err := term.Eta(par(len(s.pars)), f.Type)
	s.need(err == api.OK)
	body, err := formula.Open(f, x)
	s.need(err == api.OK)
	s.pars = append(slices.Clone(s.pars), f.Type)
	return s, body
}

func (s refScope) chosen(f api.Form, t api.Term) api.Form {
	s.need(term.Check(s.p, s.pars, nil, t, f.Type) == api.OK)
	body, err := formula.Open(f, t)
	s.need(err == api.OK)
	return body
}

func (s refScope) taken(n int) refSet {
	s.need(n >= 0 && n < len(s.hyps))
	if s.hyps[n].Use == api.UsLast {
		return nil
	}
	return refSet{n: true}
}

func (s refScope) part(index int, g api.Form, pf api.Proof) refSet {
	s.path = append(slices.Clone(s.path), index)
	return s.check(g, pf)
}

func isAtom(f, g api.Form) bool {
	return f.Kind == api.FoAtom && g.Kind == api.FoAtom && same(f, g)
}

// check returns what a formed proof of a goal uses.
func (s refScope) check(g api.Form, pf api.Proof) refSet {
	s.need(g.Kind == map[int]int{
		api.PfAtom: api.FoAtom, api.PfOne: api.FoOne, api.PfTop: api.FoTop, api.PfTensor: api.FoTensor, api.PfWith: api.FoWith, api.PfLeft: api.FoPlus, api.PfRight: api.FoPlus,
		api.PfLolli: api.FoLolli, api.PfImp: api.FoImp, api.PfBang: api.FoBang, api.PfAll: api.FoAll, api.PfEx: api.FoEx, api.PfMonad: api.FoMonad,
	}[pf.Kind])
	switch pf.Kind {
	case api.PfAtom:
		return s.atom(g, pf)
	case api.PfTop:
		used := refSet{}
		for k, n := range pf.Uses {
			s.need((k == 0 || pf.Uses[k-1] < n) && len(s.taken(n)) == 1)
			used[n] = true
		}
		return used
	case api.PfTensor:
		a, b := s.part(0, g.L[0], pf.L[0]), s.part(1, g.L[1], pf.L[1])
		s.need(!refMeet(a, b))
		return refUnion(a, b)
	case api.PfWith:
		a, b := s.part(0, g.L[0], pf.L[0]), s.part(1, g.L[1], pf.L[1])
		for n, h := range s.hyps {
			s.need(h.Use != api.UsOnce || a[n] == b[n])
		}
		return refUnion(a, b)
	case api.PfLeft:
		return s.part(0, g.L[0], pf.L[0])
	case api.PfRight:
		return s.part(0, g.L[1], pf.L[0])
	case api.PfLolli:
		used := s.with(g.L[0], api.UsOnce).part(0, g.L[1], pf.L[0])
		s.need(used[len(s.hyps)])
		delete(used, len(s.hyps))
		return used
	case api.PfImp:
		return s.with(g.L[0], api.UsLast).part(0, g.L[1], pf.L[0])
	case api.PfBang:
		s.need(len(s.part(0, g.L[0], pf.L[0])) == 0)
	case api.PfAll:
		below, body := s.fresh(g)
		return below.part(0, body, pf.L[0])
	case api.PfEx:
		return s.part(0, s.chosen(g, pf.Term), pf.L[0])
	case api.PfMonad:
		return s.monad(g, pf)
	}
	return refSet{}
}

func (s refScope) atom(g api.Form, pf api.Proof) refSet {
	used := s.taken(pf.N)
	f := s.hyps[pf.N].Form
	for k, x := range pf.Spine {
		s.need(f.Kind == map[int]int{api.TuLeft: api.FoWith, api.TuRight: api.FoWith, api.TuAll: api.FoAll, api.TuLolli: api.FoLolli, api.TuImp: api.FoImp}[x.Kind])
		switch x.Kind {
		case api.TuLeft:
			f = f.L[0]
			continue
		case api.TuAll:
			f = s.chosen(f, x.Term)
			continue
		case api.TuLolli:
			more := s.part(-1-k, f.L[0], x.L[0])
			s.need(!refMeet(used, more))
			used = refUnion(used, more)
		case api.TuImp:
			s.need(len(s.part(-1-k, f.L[0], x.L[0])) == 0)
		}
		f = f.L[1]
	}
	s.need(isAtom(f, g))
	return used
}

func (s refScope) monad(g api.Form, pf api.Proof) refSet {
	before, used := len(s.hyps), refSet{}
	for _, x := range pf.Moves {
		s.need(x.N >= 0 && x.N < len(s.p.Rules) && formula.Kind(s.p, s.p.Rules[x.N].Form) == api.HyRule)
		f := s.p.Rules[x.N].Form
		quantifiers, antecedents := 0, 0
		for y := f; y.Kind != api.FoMonad; y = y.L[len(y.L)-1] {
			if y.Kind == api.FoAll {
				quantifiers++
			} else {
				antecedents++
			}
		}
		s.need(len(x.Terms) == quantifiers)
		for _, y := range x.Terms {
			f = s.chosen(f, y)
		}
		s.need(len(x.Uses) == antecedents)
		for _, n := range x.Uses {
			take := s.taken(n)
			s.need(isAtom(s.hyps[n].Form, f.L[0]) && (len(take) == 1) == (f.Kind == api.FoLolli) && !refMeet(used, take))
			used, f = refUnion(used, take), f.L[1]
		}
		s = s.bind(f.L[0])
	}
	last := s.part(0, g.L[0], pf.L[0])
	s.need(!refMeet(used, last))
	used = refUnion(used, last)
	for n := before; n < len(s.hyps); n++ {
		s.need(s.hyps[n].Use == api.UsLast || used[n])
		delete(used, n)
	}
	return used
}

func (s refScope) bind(f api.Form) refScope {
	switch f.Kind {
	case api.FoTensor:
		return s.bind(f.L[0]).bind(f.L[1])
	case api.FoAtom:
		return s.with(f, api.UsOnce)
	case api.FoBang:
		return s.with(f.L[0], api.UsLast)
	case api.FoEx:
		s, f = s.fresh(f)
		return s.bind(f)
	}
	return s
}

// refUnder returns what a proof uses that is checked for a sequent, increasing, or how that ends.
func refUnder(s api.Sequent, pf api.Proof) (used []int, stop refStop) {
	defer func() {
		if x, ok := recover().(refStop); ok {
			used, stop = nil, x
		}
	}()
	if err := refTooLarge(pf); err != api.OK {
		return nil, refStop{nil, err}
	}
	if !refFormed(pf) {
		return nil, refStop{nil, api.ErrRefused}
	}
	scope := refScope{p: s.Program, pars: s.Params}
	for _, r := range s.Program.Rules {
		scope = scope.with(r.Form, r.Use)
	}
	for _, x := range s.Givens {
		scope = scope.with(x.Form, x.Use)
	}
	return slices.Sorted(maps.Keys(scope.check(s.Goal, pf))), refStop{}
}

// refResults are the results of all calls for a claim.
func refResults(p api.Program, params []api.Type, g api.Form, pf api.Proof) allResults {
	used, stop := refUnder(api.Sequent{Program: p, Params: params, Goal: g}, pf)
	r := allResults{Check: stop.err, Used: stop.err, Uses: used, Blame: stop.err}
	for n, x := range p.Rules {
		if r.Check == api.OK && x.Use == api.UsOnce && !slices.Contains(used, n) {
			r.Check = api.ErrRefused
		}
	}
	switch {
	case r.Check == api.OK:
		r.Blame = api.ErrNone
	case r.Check == api.ErrRefused && refFormed(pf):
		r.Blame, r.Path = api.OK, stop.path
	}
	return r
}
