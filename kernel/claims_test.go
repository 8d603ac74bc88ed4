package kernel_test

import (
	"slices"

	"peculium/api"
	"peculium/formula"
)

// claim is a program, a goal with parameters, and a proof of it.
type claim struct {
	p      api.Program
	params []api.Type
	goal   api.Form
	pf     api.Proof
}

func (x claim) sequent() api.Sequent {
	return api.Sequent{Program: x.p, Params: x.params, Goal: x.goal}
}

func (x claim) String() string { return textOf(x.p, x.goal, x.pf) }

// room is what is there where a goal is made: hypotheses and parameters, the linear hypotheses that the proof has to use, and affine ones that it may use.
type room struct {
	p              api.Program
	hyps           []api.Given
	pars           []api.Type
	linear, affine []int
}

// with returns the room with a hypothesis more, which is to be used if it is linear.
func (w room) with(f api.Form, use int) room {
	if use == api.UsOnce {
		w.linear = append(slices.Clip(w.linear), len(w.hyps))
	}
	w.hyps = append(slices.Clip(w.hyps), api.Given{Form: f, Use: use})
	return w
}

// fresh returns the room with a parameter more.
func (w room) fresh(ty api.Type) room {
	w.pars = append(slices.Clip(w.pars), ty)
	return w
}

// has returns the room with other hypotheses that are to be used.
func (w room) has(linear, affine []int) room {
	w.linear, w.affine = linear, affine
	return w
}

// parted are two rooms among which all resources are parted.
func (m maker) parted(w room) (room, room) {
	a, b := w.has(nil, nil), w.has(nil, nil)
	for _, n := range w.linear {
		x := pick(m, &a, &b)
		x.linear = append(x.linear, n)
	}
	for _, n := range w.affine {
		x := pick(m, &a, &b)
		x.affine = append(x.affine, n)
	}
	return a, b
}

// claims yields claims that are accepted, and for which the chapter tells results.
func (m maker) claims(number int) func(yield func(claim) bool) {
	return func(yield func(claim) bool) {
		for number > 0 {
			x := m.claim()
			if formula.Goal(x.p, api.Scope{Pars: x.params}, x.goal) != api.OK {
				continue // it has a variable that a proof chooses in a place where that may not stand
			}
			number--
			if !yield(x) {
				return
			}
		}
	}
}

func (m maker) claim() claim {
	w := roomOf(m.program(), []api.Type{i, pick(m, i, ii, o), pick(m, ii, i)}[:m.Intn(4)])
	make := pick(m, m.plain, m.plain, m.plain, m.monadic)
	g, pf := make(w, 1+m.Intn(5))
	return claim{w.p, w.pars, g, pf}
}

// roomOf is the room of a whole proof.
func roomOf(p api.Program, params []api.Type) room {
	w := room{p: p, pars: params, linear: numbersOf(p, api.UsOnce), affine: numbersOf(p, api.UsMost)}
	for _, r := range p.Rules {
		w.hyps = append(w.hyps, api.Given{Form: r.Form, Use: r.Use})
	}
	return w
}

// plain makes a plain goal and its proof.
func (m maker) plain(w room, levels int) (api.Form, api.Proof) {
	if levels <= 0 || m.Intn(8) == 0 {
		return m.leaf(w)
	}
	levels--
	switch m.Intn(11) {
	case 0, 1:
		a, b := m.parted(w)
		f, x := m.plain(a, levels)
		g, y := m.plain(b, levels)
		return of(api.FoTensor, f, g), pair(x, y)
	case 2:
		f, x := m.plain(w, levels)
		g, y := m.plain(w, levels)
		return of(api.FoWith, f, g), both(x, y)
	case 3:
		f, x := m.plain(w, levels)
		g, _ := m.plain(w.has(nil, nil), levels)
		if m.Intn(2) == 0 {
			return of(api.FoPlus, f, g), part(api.PfLeft, x)
		}
		return of(api.FoPlus, g, f), part(api.PfRight, x)
	case 4, 5:
		return m.introduced(w, levels, m.plain)
	case 6:
		if len(w.linear) > 0 {
			return m.leaf(w)
		}
		f, x := m.plain(w.has(nil, nil), levels)
		return of(api.FoBang, f), part(api.PfBang, x)
	case 7:
		return m.forAll(w, levels, m.plain)
	case 8, 9:
		return m.forSome(w, levels, m.plain)
	}
	return m.direct(w, min(levels, 2))
}

// forAll makes a goal for any value of a new parameter.
func (m maker) forAll(w room, levels int, make func(room, int) (api.Form, api.Proof)) (api.Form, api.Proof) {
	ty := pick(m, i, i, o, ii, higher)
	f, x := make(w.fresh(ty), levels)
	return bind(f, api.FoAll, len(w.pars), ty), every(x)
}

// forSome makes a goal for some value of a variable: a parameter, a constant, or, if it does not occur, any term.
func (m maker) forSome(w room, levels int, make func(room, int) (api.Form, api.Proof)) (api.Form, api.Proof) {
	f, x := make(w, levels)
	switch {
	case len(w.pars) > 0 && m.Intn(2) == 0:
		n := m.Intn(len(w.pars))
		return bind(f, api.FoEx, n, w.pars[n]), some(eta(par(n), w.pars[n]), x)
	case m.Intn(3) > 0:
		return bind(hidden(f), api.FoEx, 1000, i), some(c, x)
	}
	ty := pick(m, i, o, ii, ioi)
	return bind(f, api.FoEx, 1000, ty), some(m.term(ty, w.pars, nil, 2), x)
}

// hidden returns a formula in which the parameter 1000 stands for the constant c.
func hidden(f api.Form) api.Form {
	f = copied(f)
	var hide func(t *api.Term)
	hide = func(t *api.Term) {
		if t.Kind == api.TmCon && t.Name == "c" {
			*t = par(1000)
		}
		for n := range t.Args {
			hide(&t.Args[n])
		}
	}
	for n := range f.Args {
		hide(&f.Args[n])
	}
	for n := range f.L {
		f.L[n] = hidden(f.L[n])
	}
	return f
}

func bind(f api.Form, kind, par int, ty api.Type) api.Form {
	out, err := formula.Bind(f, kind, par, api.Named{Name: "x", Type: ty})
	if err != api.OK {
		panic(err)
	}
	return out
}

// someAtom makes an atom of a kind of predicates.
func (m maker) someAtom(w room, kind int) api.Form {
	var list []api.Pred
	for _, x := range m.pool.Preds {
		if x.Kind == kind {
			list = append(list, x)
		}
	}
	x := pick(m, list...)
	f := atom(x.Name)
	for _, ty := range x.Types {
		f.Args = append(f.Args, m.term(ty, w.pars, nil, 1))
	}
	return f
}

// introduced makes a goal with a hypothesis more, which may be a fact, or a clause with goals of its own.
func (m maker) introduced(w room, levels int, make func(room, int) (api.Form, api.Proof)) (api.Form, api.Proof) {
	switch m.Intn(4) {
	case 0:
		f := m.someAtom(w, api.PrFact)
		g, x := make(w.with(f, api.UsOnce), levels)
		return of(api.FoLolli, f, g), given(x)
	case 1:
		f := m.someAtom(w, pick(m, api.PrLast, api.PrBack))
		g, x := make(w.with(f, api.UsLast), levels)
		return of(api.FoImp, f, g), lasts(x)
	}
	// The clause is made of the goal that it proves, and of goals in front.
	use := pick(m, api.UsOnce, api.UsLast)
	g := m.someAtom(w, api.PrBack)
	f, spine := g, []api.Turn(nil)
	below := w.with(one, use)
	first, rest := m.parted(w)
	for left := m.Intn(4); left > 0 || len(first.linear) > 0; left-- {
		var part room
		part, first = m.parted(first)
		if left <= 1 {
			part.linear, first.linear = append(part.linear, first.linear...), nil
		}
		f, spine = m.extended(f, spine, below.has(part.linear, part.affine), levels-1)
	}
	pf := hyp(len(w.hyps), spine...)
	if len(rest.linear) > 0 || m.Intn(3) == 0 {
		h, y := m.plain(below.has(rest.linear, rest.affine), levels-1)
		g, pf = of(api.FoTensor, g, h), pair(pf, y)
	}
	if use == api.UsLast {
		return of(api.FoImp, f, g), lasts(pf)
	}
	return of(api.FoLolli, f, g), given(pf)
}

// extended makes a clause longer, and the turns by which it is taken apart, so that the resources of a room are used.
func (m maker) extended(f api.Form, spine []api.Turn, w room, levels int) (api.Form, []api.Turn) {
	ahead := func(x api.Turn) []api.Turn { return append([]api.Turn{x}, spine...) }
	kind := m.Intn(5)
	switch {
	case len(w.linear) > 0 || kind == 0:
		g, x := m.plain(w, levels)
		return of(api.FoLolli, g, f), ahead(by(x))
	case kind == 1:
		g, x := m.plain(w.has(nil, nil), levels)
		return of(api.FoImp, g, f), ahead(imp(x))
	case kind == 2:
		return of(api.FoWith, f, m.someAtom(w, api.PrBack)), ahead(toLeft)
	case kind == 3:
		return of(api.FoWith, m.someAtom(w, api.PrBack), f), ahead(toRight)
	case len(w.pars) > 0 && m.Intn(2) == 0:
		n := m.Intn(len(w.pars))
		return bind(f, api.FoAll, n, w.pars[n]), ahead(at(eta(par(n), w.pars[n])))
	}
	return bind(hidden(f), api.FoAll, 1000, i), ahead(at(c))
}

// leaf makes a goal without parts.
func (m maker) leaf(w room) (api.Form, api.Proof) {
	if m.Intn(4) > 0 {
		if f, pf, ok := m.byHyp(w, 1); ok {
			return f, pf
		}
	}
	if len(w.linear) == 0 && m.Intn(2) == 0 {
		return one, ones
	}
	uses := slices.Clone(w.linear)
	for _, n := range w.affine {
		if m.Intn(2) == 0 {
			uses = append(uses, n)
		}
	}
	slices.Sort(uses)
	return top, tops(uses...)
}

// direct makes an atom that follows from a hypothesis, if one is found.
func (m maker) direct(w room, levels int) (api.Form, api.Proof) {
	for range 10 {
		if f, pf, ok := m.byHyp(w, levels); ok {
			return f, pf
		}
	}
	return m.leaf(w)
}

// byHyp takes a hypothesis apart, with the goals in front proved by what the room has.
func (m maker) byHyp(w room, levels int) (api.Form, api.Proof, bool) {
	n := m.Intn(len(w.hyps))
	if len(w.linear) > 0 && m.Intn(2) == 0 {
		n = pick(m, w.linear...)
	}
	not := func(x int) bool { return x == n }
	rest := w.has(slices.DeleteFunc(slices.Clone(w.linear), not), slices.DeleteFunc(slices.Clone(w.affine), not))
	switch use := w.hyps[n].Use; {
	case use == api.UsOnce && len(rest.linear) == len(w.linear), use == api.UsMost && len(rest.affine) == len(w.affine):
		return api.Form{}, api.Proof{}, false
	}
	f, turns, ok := m.apart(rest, w.hyps[n].Form, levels)
	return f, hyp(n, turns...), ok
}

// apart takes a clause apart.
func (m maker) apart(w room, f api.Form, levels int) (api.Form, []api.Turn, bool) {
	var turn api.Turn
	switch f.Kind {
	case api.FoAtom:
		return f, nil, len(w.linear) == 0
	case api.FoWith:
		turn.Kind = pick(m, api.TuLeft, api.TuRight)
		f = f.L[turn.Kind-api.TuLeft]
	case api.FoAll:
		turn = at(m.likely(w, f.Type))
		f, _ = formula.Open(f, turn.Term)
	case api.FoLolli:
		first, rest := m.parted(w)
		pf, ok := m.solve(first, f.L[0], levels-1)
		if !ok {
			return f, nil, false
		}
		turn, f, w = by(pf), f.L[1], rest
	case api.FoImp:
		pf, ok := m.solve(w.has(nil, nil), f.L[0], levels-1)
		if !ok {
			return f, nil, false
		}
		turn, f = imp(pf), f.L[1]
	default:
		return f, nil, false
	}
	f, turns, ok := m.apart(w, f, levels)
	return f, append([]api.Turn{turn}, turns...), ok
}

// likely makes a term for a variable: mostly one that a hypothesis has.
func (m maker) likely(w room, ty api.Type) api.Term {
	if ty.Name == "i" && m.Intn(5) > 0 {
		for range 5 {
			h := pick(m, w.hyps...).Form
			if h.Kind == api.FoAtom && len(h.Args) > 0 && h.Name != "k" && h.Name != "h" {
				return h.Args[0]
			}
		}
	}
	return m.term(ty, w.pars, nil, 1)
}

// solve proves a goal that is given, if it is easy.
func (m maker) solve(w room, g api.Form, levels int) (api.Proof, bool) {
	switch g.Kind {
	case api.FoOne:
		return ones, len(w.linear) == 0
	case api.FoTop:
		return tops(w.linear...), true
	case api.FoTensor:
		a, b := m.parted(w)
		x, isX := m.solve(a, g.L[0], levels)
		y, isY := m.solve(b, g.L[1], levels)
		return pair(x, y), isX && isY
	case api.FoWith:
		x, isX := m.solve(w, g.L[0], levels)
		y, isY := m.solve(w, g.L[1], levels)
		return both(x, y), isX && isY
	case api.FoLolli:
		x, ok := m.solve(w.with(g.L[0], api.UsOnce), g.L[1], levels)
		return given(x), ok
	case api.FoAll:
		body, _ := formula.Open(g, eta(par(len(w.pars)), g.Type))
		x, ok := m.solve(w.fresh(g.Type), body, levels)
		return every(x), ok
	case api.FoAtom:
		for k := 0; k < 6 && levels >= 0; k++ {
			if f, pf, ok := m.byHyp(w, levels); ok && same(f, g) {
				return pf, true
			}
		}
	}
	return api.Proof{}, false
}

// monadic makes a monadic goal and its proof.
func (m maker) monadic(w room, levels int) (api.Form, api.Proof) {
	if levels > 0 {
		switch m.Intn(6) {
		case 0:
			return m.forAll(w, levels-1, m.monadic)
		case 1:
			f := m.someAtom(w, pick(m, api.PrFact, api.PrBack))
			g, x := m.monadic(w.with(f, api.UsOnce), levels-1)
			return of(api.FoLolli, f, g), given(x)
		case 2:
			f := m.someAtom(w, pick(m, api.PrLast, api.PrBack))
			g, x := m.monadic(w.with(f, api.UsLast), levels-1)
			return of(api.FoImp, f, g), lasts(x)
		}
	}
	var moves []api.Move
	for range 2 + m.Intn(6*(levels+1)) {
		if x, next, ok := m.someMove(w); ok {
			moves, w = append(moves, x), next
		}
	}
	f, x := m.end(w, 3)
	return of(api.FoMonad, f), does(x, moves...)
}

// someMove makes a move of a rule, if it finds facts for it.
func (m maker) someMove(w room) (api.Move, room, bool) {
	n := m.Intn(len(w.p.Rules))
	if formula.Kind(w.p, w.p.Rules[n].Form) != api.HyRule {
		return api.Move{}, w, false
	}
	x, f := api.Move{N: n}, w.p.Rules[n].Form
	for f.Kind == api.FoAll {
		y := m.likely(w, f.Type)
		f, _ = formula.Open(f, y)
		x.Terms = append(x.Terms, y)
	}
	linear := slices.Clone(w.linear)
	for ; f.Kind != api.FoMonad; f = f.L[1] {
		found := -1
		for k, h := range w.hyps {
			isThere := h.Use == api.UsLast
			if f.Kind == api.FoLolli {
				isThere = slices.Contains(linear, k)
			}
			if isThere && same(h.Form, f.L[0]) && (found < 0 || m.Intn(2) == 0) {
				found = k
			}
		}
		if found < 0 {
			return api.Move{}, w, false
		}
		x.Uses = append(x.Uses, found)
		linear = slices.DeleteFunc(linear, func(k int) bool { return k == found && f.Kind == api.FoLolli })
	}
	return x, behind(w.has(linear, w.affine), f.L[0]), true
}

// behind returns a room with what stands in a monad.
func behind(w room, f api.Form) room {
	switch f.Kind {
	case api.FoTensor:
		return behind(behind(w, f.L[0]), f.L[1])
	case api.FoBang:
		return w.with(f.L[0], api.UsLast)
	case api.FoAtom:
		return w.with(f, api.UsOnce)
	case api.FoEx:
		body, _ := formula.Open(f, eta(par(len(w.pars)), f.Type))
		return behind(w.fresh(f.Type), body)
	}
	return w
}

// end makes what stands in a monad of a goal, and its proof.
func (m maker) end(w room, levels int) (api.Form, api.Proof) {
	if levels > 0 {
		switch m.Intn(4) {
		case 0:
			return m.forSome(w, levels-1, m.end)
		case 1, 2:
			a, b := m.parted(w)
			f, x := m.end(a, levels-1)
			g, y := m.end(b, levels-1)
			return of(api.FoTensor, f, g), pair(x, y)
		}
	}
	if len(w.linear) == 1 {
		if f := w.hyps[w.linear[0]].Form; formula.Kind(w.p, f) == api.HyFact {
			return f, hyp(w.linear[0])
		}
	}
	for n, h := range w.hyps {
		if len(w.linear) == 0 && h.Use == api.UsLast && formula.Kind(w.p, h.Form) == api.HyLast && m.Intn(2) == 0 {
			return of(api.FoBang, h.Form), part(api.PfBang, hyp(n))
		}
	}
	if len(w.linear) == 0 && m.Intn(3) > 0 {
		return one, ones
	}
	return top, tops(w.linear...)
}

// spots are the proofs that a proof consists of; what is changed in them is changed in it.
func spots(pf *api.Proof) []*api.Proof {
	list := []*api.Proof{pf}
	for k := range pf.Spine {
		for n := range pf.Spine[k].L {
			list = append(list, spots(&pf.Spine[k].L[n])...)
		}
	}
	for n := range pf.L {
		list = append(list, spots(&pf.L[n])...)
	}
	return list
}

// damaged changes something of a proof: it may be none of the goal any more, or not even formed.
func (m maker) damaged(pf api.Proof) api.Proof {
	pf = copied(pf)
	for range 1 + m.Intn(2) {
		x := pick(m, spots(&pf)...)
		if m.Intn(6) == 0 {
			m.ruin(x)
		} else {
			m.mislead(x, copied(*pick(m, spots(&pf)...)))
		}
	}
	return pf
}

// ruin changes a proof so that it is mostly not formed.
func (m maker) ruin(x *api.Proof) {
	switch m.Intn(8) {
	case 0:
		x.Kind = pick(m, 1+m.Intn(13), 0, -1, 14, 1<<40)
	case 1:
		x.N = m.someNumber(x.N)
	case 2:
		x.Uses = append(x.Uses, m.Intn(4))
	case 3:
		x.Term = m.damagedTerm(c)
	case 4:
		x.L = pick(m, append(x.L, ones), x.L[:len(x.L)/2])
	case 5:
		x.Spine = append(x.Spine, pick(m, toLeft, toRight, at(c), by(ones), imp(ones), api.Turn{}, api.Turn{Kind: 6}))
	case 6:
		x.Moves = append(x.Moves, move(m.Intn(6), []api.Term{c}, 1))
	case 7:
		if len(x.Spine) > 0 {
			y := &x.Spine[m.Intn(len(x.Spine))]
			y.Kind = m.Intn(7)
			y.Term = pick(m, y.Term, c, api.Term{N: 1}, api.Term{Name: "c"})
		}
	}
}

// mislead changes a proof so that it mostly stays formed; other is one that stands elsewhere.
func (m maker) mislead(x *api.Proof, other api.Proof) {
	if m.Intn(8) == 0 {
		*x = other
		return
	}
	switch x.Kind {
	case api.PfAtom:
		if len(x.Spine) == 0 || m.Intn(3) == 0 {
			x.N = m.someNumber(x.N)
		} else {
			m.misleadTurns(x)
		}
	case api.PfOne, api.PfTop:
		x.Kind = api.PfTop
		x.Uses = append(x.Uses, m.Intn(12))
		if n := m.Intn(len(x.Uses)); m.Intn(2) == 0 {
			x.Uses[n] = m.someNumber(x.Uses[n])
		} else {
			x.Uses = slices.Delete(x.Uses, n, n+1)
		}
		if m.Intn(2) == 0 {
			slices.Sort(x.Uses)
			x.Uses = slices.Compact(x.Uses)
		}
	case api.PfTensor, api.PfWith:
		if m.Intn(2) == 0 {
			x.Kind = api.PfTensor + api.PfWith - x.Kind
		} else {
			slices.Reverse(x.L)
		}
	case api.PfEx:
		x.Term = pick(m, m.damagedTerm(x.Term), m.term(i, []api.Type{i, i}, nil, 1), lam(con("f", bound(0))))
	case api.PfMonad:
		m.misleadMoves(x)
	default:
		x.Kind = pick(m, api.PfLeft, api.PfRight, api.PfLolli, api.PfImp, api.PfBang, api.PfAll)
	}
}

func (m maker) someNumber(n int) int {
	return pick(m, n+1, n-1, n+1, n-1, m.Intn(12), m.Intn(20), -1, 399, 400, 1<<62, -1<<63)
}

func (m maker) misleadTurns(pf *api.Proof) {
	n := m.Intn(len(pf.Spine))
	x := &pf.Spine[n]
	switch m.Intn(4) {
	case 0:
		switch x.Kind {
		case api.TuLeft, api.TuRight:
			x.Kind = api.TuLeft + api.TuRight - x.Kind
		case api.TuAll:
			x.Term = pick(m, m.damagedTerm(x.Term), c, d, con("e"), par(0), con("f", c), lam(con("f", bound(0))))
		default:
			x.Kind = api.TuLolli + api.TuImp - x.Kind
		}
	case 1:
		*x = pick(m, toLeft, toRight, at(c), by(ones), imp(ones), by(tops(m.Intn(9))))
	case 2:
		pf.Spine = slices.Delete(pf.Spine, n, n+1)
	case 3:
		pf.Spine = slices.Insert(pf.Spine, n, *x)
	}
}

func (m maker) misleadMoves(pf *api.Proof) {
	if len(pf.Moves) == 0 {
		pf.Moves = append(pf.Moves, move(m.Intn(6), []api.Term{c}, 1))
		return
	}
	n := m.Intn(len(pf.Moves))
	x := &pf.Moves[n]
	switch m.Intn(8) {
	case 0:
		x.N = m.someNumber(x.N)
	case 1:
		x.Terms = append(x.Terms, c)
	case 2:
		x.Terms = x.Terms[:len(x.Terms)/2]
	case 3:
		for k := range x.Terms {
			x.Terms[k] = m.damagedTerm(x.Terms[k])
		}
	case 4, 5:
		if len(x.Uses) > 0 {
			k := m.Intn(len(x.Uses))
			x.Uses[k] = m.someNumber(x.Uses[k])
		}
	case 6:
		pf.Moves = slices.Delete(pf.Moves, n, n+1)
	case 7:
		pf.Moves = slices.Insert(pf.Moves, n, *x)
	}
}
