package kernel_test

import (
	"slices"
	"testing"

	"peculium/api"
	"peculium/kernel"
)

// wrong is the kind of what is none.
func wrong(kind int) api.Proof { return api.Proof{Kind: kind} }

// unformed are proofs that are not formed, in each way.
func unformed() map[string]api.Proof {
	list := map[string]api.Proof{
		"the zero proof": {}, "a kind below all": wrong(-1), "a kind behind all": wrong(14), "a huge kind": wrong(1 << 62), "the least kind": wrong(-1 << 63),
	}
	formed := map[string]api.Proof{
		"an atom": hyp(3, at(c)), "one": ones, "top": tops(1), "a tensor": pair(ones, ones), "a with": both(ones, ones), "a left": part(api.PfLeft, ones), "a right": part(api.PfRight, ones),
		"a lolli": given(ones), "an imp": lasts(ones), "a bang": part(api.PfBang, ones), "an all": every(ones), "an ex": some(c, ones), "a monad": does(ones, move(1, nil, 2)),
	}
	for what, pf := range formed {
		for _, n := range []int{0, 1, 2, 3} {
			x := pf
			x.L = slices.Repeat([]api.Proof{ones}, n)
			if n != len(pf.L) {
				list[what+" with another number of parts"] = x
			}
		}
		if pf.Kind != api.PfAtom {
			x := pf
			x.N = -1
			list[what+" with a number"] = x
			x = pf
			x.Spine = []api.Turn{toLeft}
			list[what+" with a turn"] = x
		}
		if pf.Kind != api.PfTop {
			x := pf
			x.Uses = []int{0}
			list[what+" with uses"] = x
		}
		if pf.Kind != api.PfMonad {
			x := pf
			x.Moves = []api.Move{{}}
			list[what+" with a move"] = x
		}
		for name, t := range map[string]api.Term{"a term": c, "an N": {N: 1}, "a name": {Name: "c"}, "args": {Args: []api.Term{c}}, "a kind": {Kind: api.TmPar}} {
			if x := pf; pf.Kind != api.PfEx {
				x.Term = t
				list[what+" with "+name] = x
			}
		}
		list["within "+what] = pair(ones, api.Proof{Kind: pf.Kind, L: append(slices.Clone(pf.L), wrong(14))})
	}
	for what, x := range map[string]api.Turn{
		"no kind": {}, "a kind behind all": {Kind: 6}, "a kind below all": {Kind: -1},
		"left with a term": {Kind: api.TuLeft, Term: c}, "left with a proof": {Kind: api.TuLeft, L: []api.Proof{ones}},
		"right with an N": {Kind: api.TuRight, Term: api.Term{N: 1}}, "right with a proof": {Kind: api.TuRight, L: []api.Proof{ones}},
		"all with a proof":   {Kind: api.TuAll, Term: c, L: []api.Proof{ones}},
		"lolli without one":  {Kind: api.TuLolli},
		"lolli with two":     {Kind: api.TuLolli, L: []api.Proof{ones, ones}},
		"lolli with a term":  {Kind: api.TuLolli, Term: c, L: []api.Proof{ones}},
		"lolli with a wrong": {Kind: api.TuLolli, L: []api.Proof{wrong(0)}},
		"imp without one":    {Kind: api.TuImp},
		"imp with a name":    {Kind: api.TuImp, Term: api.Term{Name: "c"}, L: []api.Proof{ones}},
		"imp with a wrong":   {Kind: api.TuImp, L: []api.Proof{wrong(14)}},
		"imp with args":      {Kind: api.TuImp, Term: api.Term{Args: []api.Term{{}}}, L: []api.Proof{ones}},
	} {
		list["a turn: "+what] = hyp(0, x)
		list["a further turn: "+what] = part(api.PfBang, hyp(0, at(c), x, toLeft))
	}
	return list
}

// P8.1: what is formed, and what is not, in each way.
func TestFormed(t *testing.T) {
	none := api.Term{}
	for n, pf := range []api.Proof{
		hyp(0), hyp(-1), hyp(1<<62, at(c)), hyp(2, toLeft, toRight, at(c), by(ones), imp(hyp(1))), ones, tops(), tops(3, 1, 1, -5),
		pair(ones, ones), both(ones, tops()), part(api.PfLeft, ones), part(api.PfRight, ones), given(ones), lasts(ones), part(api.PfBang, ones), every(ones),
		some(c, ones), some(none, ones), some(api.Term{Kind: 77, N: -1, Name: "X"}, ones), does(ones), does(ones, move(-1, nil)), does(ones, move(1<<62, []api.Term{none, c}, -1, 0)),
		hyp(0, at(none)), hyp(0, at(api.Term{N: 3})),
	} {
		if err := kernel.Formed(pf); err != api.OK || !refFormed(pf) {
			t.Errorf("row %v: %v", n, err)
		}
	}
	p := inferred(t, declared)
	for what, pf := range unformed() {
		if refFormed(pf) {
			t.Errorf("%v is formed in the second way", what)
		}
		got := resultsOf(p, nil, one, pf)
		if err := kernel.Formed(pf); err != api.ErrRefused || !same(got, allResults{Check: api.ErrRefused, Blame: api.ErrRefused, Used: api.ErrRefused}) {
			t.Errorf("%v: %v, %v", what, err, got)
		}
		if x, err := kernel.Weaken(pf, -1, -1); err != api.ErrRefused || !same(x, api.Proof{}) {
			t.Errorf("Weaken of %v: %v", what, err)
		}
		if x, err := kernel.Instance(pf, []api.Term{{}}, -1); err != api.ErrRefused || !same(x, api.Proof{}) {
			t.Errorf("Instance of %v: %v", what, err)
		}
		if l := kernel.Hyps(pf); l != nil {
			t.Errorf("Hyps of %v: %v", what, l)
		}
		if kernel.Size(pf) != refSize(pf) || kernel.Levels(pf) != refLevels(pf) || kernel.Depth(pf) != refDepth(pf) || !kernel.Same(pf, copied(pf)) {
			t.Errorf("%v: %v nodes, %v levels, depth %v", what, kernel.Size(pf), kernel.Levels(pf), kernel.Depth(pf))
		}
	}
}

// P8.1: nodes, levels and depth of some proofs.
func TestSizes(t *testing.T) {
	two := []api.Term{c, con("f", c)}
	for n, x := range []struct {
		pf                   api.Proof
		nodes, levels, depth int
	}{
		{ones, 1, 1, 0},
		{hyp(7), 1, 1, 1},
		{tops(1, 2, 3), 1, 1, 0},
		{api.Proof{}, 1, 1, 0},
		{pc(1), 5, 2, 2},
		{pair(pc(1), ones), 7, 3, 2},
		{both(ones, pair(ones, hyp(1))), 5, 3, 1},
		{some(con("f", c), ones), 4, 2, 0},
		{some(api.Term{}, ones), 2, 2, 0},
		{some(api.Term{N: 5}, ones), 2, 2, 0},
		{some(api.Term{Name: "c"}, ones), 3, 2, 0},
		{some(api.Term{Args: []api.Term{{}, {}}}, ones), 5, 2, 0},
		{some(api.Term{Kind: -1}, ones), 3, 2, 0},
		{does(hyp(3)), 2, 2, 1},
		{does(hyp(3), move(1, two, 1, 2, 3), move(1, nil)), 7, 2, 3},
		{does(does(hyp(3), move(1, nil)), move(1, two)), 8, 3, 3},
		{does(pair(hyp(1), hyp(2)), move(1, []api.Term{{}, {}, {N: 1}})), 5, 3, 2},
		{hyp(0, toLeft, toRight, toLeft), 4, 1, 1},
		{hyp(0, by(hyp(1, by(hyp(2))))), 5, 3, 3},
		{hyp(0, by(hyp(1, imp(hyp(2)))), imp(ones)), 7, 3, 3},
		{hyp(0, by(ones), imp(hyp(2, by(hyp(2))))), 7, 3, 3},
		{nested(5, hyp(1)), 6, 6, 1},
		// What is not formed has all of these, too.
		{api.Proof{Kind: api.PfMonad, Moves: make([]api.Move, 3)}, 4, 1, 3},
		{api.Proof{Kind: api.PfMonad, L: []api.Proof{ones, hyp(1, by(hyp(1)))}}, 5, 3, 0},
		{api.Proof{Kind: api.PfAtom, L: []api.Proof{hyp(1, by(hyp(1)))}}, 4, 3, 1},
		{api.Proof{Kind: api.PfOne, L: []api.Proof{hyp(1), hyp(1, by(hyp(1)))}}, 5, 3, 2},
		{api.Proof{Kind: 99, L: []api.Proof{hyp(1), hyp(1, by(hyp(1)))}}, 5, 3, 2},
		{api.Proof{Kind: api.PfTensor, Spine: []api.Turn{by(hyp(1))}, Moves: make([]api.Move, 2), Term: c}, 6, 2, 0},
		{api.Proof{Kind: api.PfAtom, Spine: []api.Turn{{L: []api.Proof{ones, hyp(1), hyp(1, by(hyp(2)))}}}}, 7, 3, 3},
	} {
		if nodes, levels, depth := kernel.Size(x.pf), kernel.Levels(x.pf), kernel.Depth(x.pf); nodes != x.nodes || levels != x.levels || depth != x.depth {
			t.Errorf("row %v: %v nodes, %v levels, depth %v", n, nodes, levels, depth)
		}
		if refSize(x.pf) != x.nodes || refLevels(x.pf) != x.levels || refDepth(x.pf) != x.depth {
			t.Errorf("row %v: %v nodes, %v levels, depth %v in the second way", n, refSize(x.pf), refLevels(x.pf), refDepth(x.pf))
		}
	}
}

// P8.1: Same looks at all fields.
func TestSame(t *testing.T) {
	pf := pair(hyp(0, toLeft, at(con("f", c)), by(some(c, tops(1, 2))), imp(ones)), does(hyp(1), move(2, []api.Term{c, d}, 3, 4)))
	if !kernel.Same(pf, copied(pf)) {
		t.Errorf("a copy is not the same")
	}
	empty := copied(pf)
	for _, x := range spots(&empty) {
		x.L, x.Uses, x.Moves, x.Spine = append([]api.Proof{}, x.L...), append([]int{}, x.Uses...), append([]api.Move{}, x.Moves...), append([]api.Turn{}, x.Spine...)
		x.Term.Args = append([]api.Term{}, x.Term.Args...)
	}
	if !kernel.Same(pf, empty) || !kernel.Same(empty, pf) {
		t.Errorf("nil is not the same as an empty list")
	}
	for n, change := range []func(x *api.Proof){
		func(x *api.Proof) { x.Kind = api.PfWith }, func(x *api.Proof) { x.N = 1 }, func(x *api.Proof) { x.Uses = []int{0} }, func(x *api.Proof) { x.Term.N = 1 },
		func(x *api.Proof) { x.Term.Kind = 1 }, func(x *api.Proof) { x.Term.Name = "c" }, func(x *api.Proof) { x.Term.Args = []api.Term{{}} },
		func(x *api.Proof) { x.L = x.L[:1] }, func(x *api.Proof) { x.L = append(x.L, ones) }, func(x *api.Proof) { x.L[0].N = 7 }, func(x *api.Proof) { x.L[0].Spine[0].Kind = api.TuRight },
		func(x *api.Proof) { x.L[0].Spine[1].Term.Args[0].Name = "d" }, func(x *api.Proof) { x.L[0].Spine[2].L[0].L[0].Uses[1] = 3 },
		func(x *api.Proof) { x.L[0].Spine[2].L[0].Term = d }, func(x *api.Proof) { x.L[0].Spine[3].L = nil }, func(x *api.Proof) { x.L[0].Spine = x.L[0].Spine[:3] },
		func(x *api.Proof) { x.L[1].Moves[0].N = 3 }, func(x *api.Proof) { x.L[1].Moves[0].Terms[1] = c }, func(x *api.Proof) { x.L[1].Moves[0].Uses[1] = 5 },
		func(x *api.Proof) { x.L[1].Moves[0].Uses = []int{3} }, func(x *api.Proof) { x.L[1].Moves[0].Terms = nil }, func(x *api.Proof) { x.L[1].Moves = nil },
		func(x *api.Proof) { x.L[1].L[0].N = 2 }, func(x *api.Proof) { x.L[0], x.L[1] = x.L[1], x.L[0] },
	} {
		y := copied(pf)
		change(&y)
		if kernel.Same(pf, y) || kernel.Same(y, pf) || !kernel.Same(y, copied(y)) {
			t.Errorf("change %v", n)
		}
	}
	odd := api.Proof{Kind: -1, N: -5, Uses: []int{-1}, Term: api.Term{N: 9}, Spine: []api.Turn{{Kind: 50}}, Moves: []api.Move{{}}}
	if !kernel.Same(odd, copied(odd)) || !kernel.Same(api.Proof{}, api.Proof{}) || kernel.Same(odd, api.Proof{}) {
		t.Errorf("proofs that are not formed")
	}
}

// P8.1: the numbers that are raised, and those that are told.
func TestNumbers(t *testing.T) {
	pf := pair(hyp(4, at(c), by(hyp(5)), imp(hyp(3))), does(both(tops(2, 4, 9), hyp(100000)), move(6, []api.Term{par(4)}, 3, 7, -1), move(4, nil, 100001, 1<<62)))
	if l := kernel.Hyps(pf); !slices.Equal(l, []int{-1, 3, 4, 5, 6, 7, 100000, 100001, 1 << 62}) {
		t.Errorf("Hyps = %v", l)
	}
	want := pair(hyp(14, at(c), by(hyp(15)), imp(hyp(3))), does(both(tops(2, 14, 19), hyp(100010)), move(16, []api.Term{par(4)}, 3, 17, -1), move(14, nil, 100001, 1<<62)))
	if x, err := kernel.Weaken(pf, 4, 10); err != api.OK || !kernel.Same(x, want) {
		t.Errorf("Weaken = %v, %v", text(x), err)
	}
	for n, x := range []struct {
		pf       api.Proof
		from, by int
		want     api.Proof
		err      api.Errno
	}{
		{hyp(0), 0, 400, hyp(400), api.OK},
		{hyp(0), 0, 401, api.Proof{}, api.ErrArg},
		{hyp(0), 0, -1, api.Proof{}, api.ErrArg},
		{hyp(0), -1, 0, api.Proof{}, api.ErrArg},
		{hyp(400), 400, 1, hyp(401), api.OK},
		{hyp(399), 400, 1, hyp(399), api.OK},
		{hyp(0), 401, 0, api.Proof{}, api.ErrArg},
		{hyp(0), -1 << 63, 1 << 62, api.Proof{}, api.ErrArg},
		{hyp(-3), 0, 1, hyp(-3), api.OK},
		{hyp(100000), 0, 400, hyp(100400), api.OK},
		{hyp(100001), 0, 400, hyp(100001), api.OK},
		{tops(1, 0, 100000, 100001, -1), 1, 2, tops(3, 0, 100002, 100001, -1), api.OK},
		// What has no number has none that is raised.
		{ones, 0, 1, ones, api.OK}, {tops(), 0, 1, tops(), api.OK}, {given(ones), 0, 3, given(ones), api.OK},
		{does(ones, move(0, nil)), 0, 1, does(ones, move(1, nil)), api.OK}, {some(par(3, bound(3)), ones), 0, 3, some(par(3, bound(3)), ones), api.OK},
		{hyp(1, at(api.Term{N: 7})), 0, 3, hyp(4, at(api.Term{N: 7})), api.OK},
	} {
		if got, err := kernel.Weaken(x.pf, x.from, x.by); err != x.err || !same(got, x.want) {
			t.Errorf("row %v: Weaken = %v, %v", n, text(got), err)
		}
	}
	for n, x := range []struct {
		pf   api.Proof
		want []int
	}{
		{ones, nil}, {tops(1, 2), nil}, {hyp(0), []int{0}}, {given(hyp(3, by(hyp(1)))), []int{1, 3}}, {pair(hyp(3), hyp(3)), []int{3}},
		{does(tops(4), move(2, nil, 2, 1)), []int{1, 2}}, {pair(hyp(5), pair(hyp(4), pair(hyp(4), hyp(-2)))), []int{-2, 4, 5}},
	} {
		if got := kernel.Hyps(x.pf); !slices.Equal(got, x.want) {
			t.Errorf("row %v: Hyps = %v", n, got)
		}
	}
	many := does(ones, move(0, nil))
	for n := range 100000 {
		many.Moves[0].Uses = append(many.Moves[0].Uses, (n*7919)%50000)
	}
	if l := kernel.Hyps(many); len(l) != 50000 || !slices.IsSorted(l) {
		t.Errorf("Hyps of many: %v", len(l))
	}
}

// P8.1: proofs of all kinds, and such that are damaged, held against the second way.
func TestProofsRandom(t *testing.T) {
	t.Parallel()
	m := newMaker(t, 2)
	notFormed := 0
	for x := range m.claims(1500) {
		for n := range 3 {
			pf := x.pf
			if n > 0 {
				pf = m.damaged(pf)
			}
			want := refTooLarge(pf)
			if want == api.OK && !refFormed(pf) {
				want = api.ErrRefused
				notFormed++
			}
			if err := kernel.Formed(pf); err != want {
				t.Fatalf("Formed of %v = %v, not %v", text(pf), err, want)
			}
			if kernel.Size(pf) != refSize(pf) || kernel.Levels(pf) != refLevels(pf) || kernel.Depth(pf) != refDepth(pf) {
				t.Fatalf("%v: %v nodes, %v levels, depth %v", text(pf), kernel.Size(pf), kernel.Levels(pf), kernel.Depth(pf))
			}
			if kernel.Same(pf, x.pf) != same(pf, x.pf) {
				t.Fatalf("Same of %v and %v", text(pf), text(x.pf))
			}
			from, by := m.Intn(12), m.Intn(4)
			got, err := kernel.Weaken(pf, from, by)
			if err != want || err == api.OK && !same(got, refWeaken(pf, from, by)) {
				t.Fatalf("Weaken of %v = %v, %v", text(pf), text(got), err)
			}
			if names := kernel.Hyps(pf); want == api.OK && !slices.Equal(names, refHyps(pf)) || want != api.OK && names != nil {
				t.Fatalf("Hyps of %v = %v", text(pf), names)
			}
		}
	}
	if notFormed < 200 {
		t.Errorf("too few that are not formed: %v", notFormed)
	}
}

// refNumbers visits the numbers of hypotheses in a formed proof, those of tops only if that is asked for.
func refNumbers(pf *api.Proof, tops bool, visit func(n *int)) {
	for _, x := range spots(pf) {
		if x.Kind == api.PfAtom {
			visit(&x.N)
		}
		for n := range x.Uses {
			if tops {
				visit(&x.Uses[n])
			}
		}
		for k := range x.Moves {
			visit(&x.Moves[k].N)
			for n := range x.Moves[k].Uses {
				visit(&x.Moves[k].Uses[n])
			}
		}
	}
}

func refWeaken(pf api.Proof, from, by int) api.Proof {
	pf = copied(pf)
	refNumbers(&pf, true, func(n *int) {
		if *n >= from && *n <= 100000 {
			*n += by
		}
	})
	return pf
}

func refHyps(pf api.Proof) []int {
	var list []int
	refNumbers(&pf, false, func(n *int) { list = append(list, *n) })
	slices.Sort(list)
	return slices.Compact(list)
}
