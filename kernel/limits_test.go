package kernel_test

import (
	"slices"
	"testing"

	"peculium/api"
	"peculium/formula"
	"peculium/kernel"
)

// refusedAll fails unless all functions with a proof and an error return an error for one, whatever else is wrong.
func refusedAll(t *testing.T, what string, p api.Program, pf api.Proof, want api.Errno) {
	t.Helper()
	if err := kernel.Formed(pf); err != want {
		t.Errorf("%v: Formed = %v", what, err)
	}
	if got := resultsOf(p, nil, one, pf); !same(got, allResults{Check: want, Blame: want, Used: want}) {
		t.Errorf("%v: %v", what, got)
	}
	many := api.Sequent{Program: p, Givens: make([]api.Given, 401), Params: make([]api.Type, 61)}
	if used, err := kernel.Under(many, pf); err != want || used != nil {
		t.Errorf("%v: Under = %v, %v", what, used, err)
	}
	if x, err := kernel.Weaken(pf, -1, -1); err != want || !same(x, api.Proof{}) {
		t.Errorf("%v: Weaken = %v", what, err)
	}
	if x, err := kernel.Instance(pf, make([]api.Term, 61), -1); err != want || !same(x, api.Proof{}) {
		t.Errorf("%v: Instance = %v", what, err)
	}
	if l := kernel.Hyps(pf); l != nil {
		t.Errorf("%v: Hyps = %v", what, l)
	}
}

// P8.1: as many nodes as a proof may have, and one more.
func TestMostNodes(t *testing.T) {
	p := inferred(t, declared+"rule r0: l c. rule r1: l c => {one}. rule r2: l X => {one}.")
	moves := slices.Repeat([]api.Move{move(1, nil, 0)}, 19998)
	most := does(ones, moves...)
	if got := resultsOf(p, nil, of(api.FoMonad, one), most); !same(got, allResults{Blame: api.ErrNone}) || kernel.Size(most) != 20000 || kernel.Depth(most) != 19998 || kernel.Formed(most) != api.OK {
		t.Errorf("20000 nodes: %v, %v, %v", got, kernel.Size(most), kernel.Depth(most))
	}
	if x, err := kernel.Weaken(most, 2, 1); err != api.OK || !kernel.Same(x, most) || !same(kernel.Hyps(most), []int{0, 1}) {
		t.Errorf("Weaken, Same and Hyps of 20000 nodes: %v", err)
	}
	if x, err := kernel.Instance(most, nil, 0); err != api.OK || !kernel.Same(x, most) {
		t.Errorf("Instance of 20000 nodes: %v", err)
	}
	more := does(ones, append(slices.Clone(moves), move(1, nil, 0))...)
	if kernel.Size(more) != 20001 || kernel.Depth(more) != 0 || kernel.Same(more, more) || kernel.Levels(more) != 2 {
		t.Errorf("20001 nodes: %v, %v, %v, %v", kernel.Size(more), kernel.Depth(more), kernel.Same(more, more), kernel.Levels(more))
	}
	refusedAll(t, "20001 nodes", p, more, api.ErrLong)
	// Nodes of each sort are counted.
	for what, x := range map[string]api.Proof{
		"turns":           hyp(0, slices.Repeat([]api.Turn{toLeft}, 19999)...),
		"terms of turns":  hyp(0, at(ofSize(3999)), at(ofSize(3999)), at(ofSize(3999)), at(ofSize(3999)), at(ofSize(3998))),
		"a term":          some(ofSize(19998), ones),
		"terms of a move": does(ones, move(2, slices.Repeat([]api.Term{con("f", c)}, 9998), 1), move(1, nil, 0)),
		"proofs in turns": hyp(0, slices.Repeat([]api.Turn{by(ones)}, 9999)...),
	} {
		left := 20000 - refSize(x)
		x = copied(x)
		for range left {
			x = part(api.PfBang, x)
		}
		if kernel.Size(x) != 20000 || kernel.Formed(x) != api.OK || !kernel.Same(x, copied(x)) {
			t.Errorf("20000 nodes, %v: %v, %v", what, kernel.Size(x), kernel.Formed(x))
		}
		if x = part(api.PfBang, x); kernel.Size(x) != 20001 || kernel.Depth(x) != 0 || kernel.Same(x, copied(x)) {
			t.Errorf("20001 nodes, %v: %v, %v", what, kernel.Size(x), kernel.Depth(x))
		}
		refusedAll(t, what, p, x, api.ErrLong)
	}
	if x := does(ones, api.Move{Terms: make([]api.Term, 100000), Uses: make([]int, 100000)}); kernel.Size(x) != 3 || kernel.Formed(x) != api.OK {
		t.Errorf("terms without nodes: %v, %v", kernel.Size(x), kernel.Formed(x))
	}
}

// P8.1: as many levels as a proof may have, and one more.
func TestMostLevels(t *testing.T) {
	p := inferred(t, declared+"rule r0: z. rule r1: z -o z.")
	chain := func(n int) api.Proof {
		x := hyp(0)
		for range n - 1 {
			x = hyp(1, by(x))
		}
		return x
	}
	most := chain(2000)
	if got := resultsOf(p, nil, atom("z"), most); !same(got, allResults{Blame: api.ErrNone}) || kernel.Levels(most) != 2000 || kernel.Depth(most) != 2000 || kernel.Size(most) != 3999 {
		t.Errorf("2000 levels: %v, %v, %v", got, kernel.Levels(most), kernel.Depth(most))
	}
	bad := copied(most)
	*spots(&bad)[1999] = ones
	path := slices.Repeat([]int{-1}, 1999)
	if got := resultsOf(p, nil, atom("z"), bad); !same(got, allResults{Check: api.ErrRefused, Used: api.ErrRefused, Path: path}) {
		t.Errorf("2000 levels, of which the last one is wrong: %v", got)
	}
	if x, err := kernel.Weaken(most, 0, 2); err != api.OK || kernel.Levels(x) != 2000 || !same(kernel.Hyps(x), []int{2, 3}) {
		t.Errorf("Weaken of 2000 levels: %v", err)
	}
	more := chain(2001)
	if kernel.Levels(more) != 2001 || kernel.Depth(more) != 0 || !kernel.Same(more, copied(more)) {
		t.Errorf("2001 levels: %v, %v, %v", kernel.Levels(more), kernel.Depth(more), kernel.Same(more, more))
	}
	refusedAll(t, "2001 levels", p, more, api.ErrDeep)
	if x := nested(5000, ones); kernel.Levels(x) != 2001 || kernel.Size(x) != 5001 {
		t.Errorf("5001 levels: %v, %v", kernel.Levels(x), kernel.Size(x))
	}
	refusedAll(t, "5001 levels", p, nested(5000, ones), api.ErrDeep)
	// Nodes are counted first.
	wide := part(api.PfTensor, more, does(ones, make([]api.Move, 16000)...))
	refusedAll(t, "too many nodes and levels", p, wide, api.ErrLong)
	if kernel.Levels(wide) != 2001 {
		t.Errorf("too many nodes and levels: %v", kernel.Levels(wide))
	}
	// Levels of what has too many nodes are told, too.
	if x := shared(40); kernel.Levels(x) != 41 || kernel.Size(x) != 20001 || kernel.Depth(x) != 0 || kernel.Same(x, x) {
		t.Errorf("2 to the power of 40 proofs: %v levels, %v nodes", kernel.Levels(x), kernel.Size(x))
	}
	if x := shared(1999); kernel.Levels(x) != 2000 || kernel.Levels(pair(x, x)) != 2001 || kernel.Levels(pair(pair(x, x), ones)) != 2001 {
		t.Errorf("proofs that share what is alike: %v levels", kernel.Levels(x))
	}
	// A proof is met again on a lower level, and a chain hangs on it.
	low := nested(1000, ones)
	l := []api.Proof{low}
	if x := part(api.PfTensor, api.Proof{Kind: api.PfBang, L: l}, nested(998, api.Proof{Kind: api.PfBang, L: l})); kernel.Levels(x) != 2001 || kernel.Levels(x.L[1]) != 2000 || kernel.Levels(part(api.PfTensor, x.L[0], nested(7, x.L[1]))) != 2001 {
		t.Errorf("what is met again: %v, %v levels", kernel.Levels(x), kernel.Levels(x.L[1]))
	}
	// Levels of terms.
	for what, make := range map[string]func(x api.Term) api.Proof{
		"of a proof": func(x api.Term) api.Proof { return some(x, ones) },
		"of a turn":  func(x api.Term) api.Proof { return hyp(0, toLeft, at(x)) },
		"of a move":  func(x api.Term) api.Proof { return does(ones, move(0, []api.Term{c, x})) },
		"within":     func(x api.Term) api.Proof { return hyp(0, by(pair(ones, some(x, ones)))) },
		"of no kind": func(x api.Term) api.Proof { return some(api.Term{Args: x.Args}, ones) },
		"of another": func(x api.Term) api.Proof { return api.Proof{Kind: api.PfOne, Term: x} },
	} {
		if err := kernel.Formed(make(ofDepth(100))); err != api.OK && what != "of another" {
			t.Errorf("a term %v of 100 levels: %v", what, err)
		}
		refusedAll(t, "a term "+what+" of 101 levels", p, make(ofDepth(101)), api.ErrDeep)
		refusedAll(t, "a term "+what+" of 30000 levels", p, make(ofDepth(30000)), api.ErrLong)
	}
}

// P8.1: as many hypotheses as there may be, and one more.
func TestMostHyps(t *testing.T) {
	p := inferred(t, declared+"rule r0: l c. rule r1: l c => {a c}. rule r2: l c => {!m * one}. rule r3: l c => {a c * (b * !m)}. rule r4: z. rule r5: (all x: i. a x -o p x) -o z.")
	tops := func(from, to int) api.Proof {
		x := api.Proof{Kind: api.PfTop}
		for n := from; n < to; n++ {
			x.Uses = append(x.Uses, n)
		}
		return x
	}
	n := len(p.Rules)
	g := of(api.FoMonad, top)
	steps := func(rule, n int) []api.Move { return slices.Repeat([]api.Move{move(rule, nil, 0)}, n) }
	for what, x := range map[string]struct {
		pf   api.Proof
		want api.Errno
	}{
		"400 hypotheses":                  {does(tops(n, 400), steps(1, 400-n)...), api.OK},
		"401 hypotheses":                  {does(tops(n, 400), steps(1, 401-n)...), api.ErrLong},
		"401, and a part that is refused": {does(ones, steps(1, 401-n)...), api.ErrLong},
		"401, and a move that is refused": {does(tops(n, 400), append(steps(1, 401-n), move(0, nil))...), api.ErrLong},
		"a move that is refused, and 401": {does(tops(n, 400), append(steps(1, 400-n), move(0, nil), move(1, nil, 0))...), api.ErrRefused},
		"400 and one that binds nothing":  {does(tops(n, 400), append(steps(1, 400-n), move(0, nil))...), api.ErrRefused},
		"400 that last":                   {does(ones, steps(2, 400-n)...), api.ErrRefused},
		"401 that last":                   {does(ones, steps(2, 401-n)...), api.ErrLong},
		"400 by threes, and a rest":       {does(tops(0, 0), append(steps(3, (400-n)/3), steps(1, 1)...)...), api.ErrRefused},
		"401 by threes":                   {does(tops(0, 0), append(steps(3, (400-n)/3), steps(3, 1)...)...), api.ErrLong},
	} {
		got := resultsOf(p, nil, g, x.pf)
		want := allResults{Check: x.want, Used: x.want, Blame: x.want}
		switch x.want {
		case api.OK:
			want.Blame = api.ErrNone
		case api.ErrRefused:
			want.Blame, want.Path = api.OK, got.Path
		}
		if !same(got, want) || !same(got, refResults(p, nil, g, x.pf)) {
			t.Errorf("%v: %v, not %v", what, got, want)
		}
	}
	// With 400 hypotheses a lasting or a linear one more is one too many; what is not introduced any more does not count.
	full := steps(1, 400-n)
	for what, x := range map[string]struct {
		goal api.Form
		pf   api.Proof
		less int
		want api.Errno
	}{
		"a lolli with 400":     {of(api.FoLolli, atom("b"), top), given(tops(0, 0)), 0, api.ErrLong},
		"a lolli with 399":     {of(api.FoLolli, atom("b"), top), given(tops(398, 400)), 1, api.OK},
		"an imp with 400":      {of(api.FoImp, atom("m"), top), lasts(tops(0, 0)), 0, api.ErrLong},
		"an imp with 399":      {of(api.FoImp, atom("m"), top), lasts(tops(398, 399)), 1, api.OK},
		"another lolli by 400": {of(api.FoLolli, atom("b"), top), ones, 0, api.ErrRefused},
	} {
		s := api.Sequent{Program: p, Goal: x.goal, Givens: slices.Repeat([]api.Given{{Form: atom("a", c), Use: api.UsOnce}}, len(full)-x.less)}
		judge(t, s)
		if _, err := kernel.Under(s, x.pf); err != x.want {
			t.Errorf("%v: %v, not %v", what, err, x.want)
		}
		s.Goal, x.pf = of(api.FoTensor, of(api.FoTensor, x.goal, one), one), pair(pair(x.pf, ones), ones)
		if _, err := kernel.Under(s, x.pf); err != x.want {
			t.Errorf("%v within a tensor: %v, not %v", what, err, x.want)
		}
	}
	for given, want := range map[int]api.Errno{400 - n: api.OK, 401 - n: api.ErrLong, 5000: api.ErrLong} {
		s := api.Sequent{Program: p, Goal: one, Givens: slices.Repeat([]api.Given{{Form: atom("a", c), Use: api.UsOnce}}, given)}
		if used, err := kernel.Under(s, ones); err != want || used != nil {
			t.Errorf("%v hypotheses: %v, %v", given+n, used, err)
		}
		if _, err := kernel.Under(s, part(api.PfTensor, ones)); err != api.ErrRefused {
			t.Errorf("%v hypotheses, and what is not formed: %v", given+n, err)
		}
	}
	// The greatest number can be used.
	s := api.Sequent{Program: p, Goal: atom("a", d), Givens: slices.Repeat([]api.Given{{Form: atom("a", d), Use: api.UsOnce}}, 400-n)}
	if used, err := kernel.Under(s, hyp(399)); err != api.OK || !same(used, []int{399}) {
		t.Errorf("the hypothesis 399: %v, %v", used, err)
	}
	if used, err := kernel.Under(s, hyp(400)); err != api.ErrRefused || used != nil {
		t.Errorf("the hypothesis 400: %v, %v", used, err)
	}
}

// P8.1: as many parameters as there may be, and one more.
func TestMostPars(t *testing.T) {
	p := inferred(t, declared+"rule r0: l c. rule r1: l c => {ex x: i. !l x}. rule r2: l c => {ex x: i. ex y: o. one}. rule r3: p X.")
	params := slices.Repeat([]api.Type{i}, 60)
	every60 := func(n int, f api.Form, x api.Proof) (api.Form, api.Proof) {
		for range n {
			f, x = all(i, f), every(x)
		}
		return f, x
	}
	for _, n := range []int{0, 1, 30, 60} {
		for more := range 3 {
			f, x := every60(n, atom("p", c), hyp(3, at(c)))
			want := api.OK
			if more > 0 {
				f, x = every60(n+more, one, tops(1<<40))
				want = api.ErrLong
			}
			if err := kernel.Check(p, params[:60-n], f, x); err != want {
				t.Errorf("%v parameters, and %v more: %v", 60-n, n+more, err)
			}
		}
	}
	for what, x := range map[string]struct {
		params int
		f      api.Form
		pf     api.Proof
		want   api.Errno
	}{
		"the last one":             {59, all(i, atom("p", bound(0))), every(hyp(3, at(par(59)))), api.OK},
		"one behind it":            {59, all(i, atom("p", bound(0))), every(hyp(3, at(par(60)))), api.ErrRefused},
		"side by side":             {59, of(api.FoTensor, all(i, one), all(i, one)), pair(every(ones), every(ones)), api.OK},
		"one within the other":     {59, all(i, of(api.FoTensor, one, all(i, one))), every(pair(ones, every(ones))), api.ErrLong},
		"refused first":            {59, all(i, of(api.FoTensor, one, all(i, one))), every(pair(tops(), every(ones))), api.ErrRefused},
		"bound by moves":           {50, of(api.FoMonad, one), does(ones, slices.Repeat([]api.Move{move(1, nil, 0)}, 10)...), api.OK},
		"one more bound":           {50, of(api.FoMonad, one), does(ones, slices.Repeat([]api.Move{move(1, nil, 0)}, 11)...), api.ErrLong},
		"bound by twos":            {50, of(api.FoMonad, one), does(ones, slices.Repeat([]api.Move{move(2, nil, 0)}, 5)...), api.OK},
		"one more bound by twos":   {51, of(api.FoMonad, one), does(ones, slices.Repeat([]api.Move{move(2, nil, 0)}, 5)...), api.ErrLong},
		"bound and for all":        {58, all(i, of(api.FoMonad, one)), every(does(ones, move(1, nil, 0))), api.OK},
		"one more bound within":    {59, all(i, of(api.FoMonad, one)), every(does(ones, move(1, nil, 0))), api.ErrLong},
		"a quantifier with no eta": {60, all(fn(slices.Repeat([]api.Type{i}, 10)...), one), every(ones), api.ErrLong},
		"no eta":                   {59, all(fn(slices.Repeat([]api.Type{i}, 10)...), one), every(ones), api.ErrRefused},
		"no eta of an argument":    {59, all(fn(i, fn(slices.Repeat([]api.Type{i}, 10)...), i), one), every(ones), api.ErrRefused},
		"8 arguments":              {59, all(fn(slices.Repeat([]api.Type{i}, 9)...), one), every(ones), api.OK},
	} {
		if err := kernel.Check(p, params[:x.params], x.f, x.pf); err != x.want {
			t.Errorf("%v: %v, not %v", what, err, x.want)
		}
		if path, err := kernel.Blame(p, params[:x.params], x.f, x.pf); x.want == api.ErrLong && (err != api.ErrLong || path != nil) {
			t.Errorf("%v: %v, %v", what, path, err)
		}
	}
	// A type whose eta-long form has too many levels.
	ty := i
	for range 49 {
		ty = fn(ty, i)
	}
	for _, want := range []api.Errno{api.OK, api.ErrRefused} {
		if err := kernel.Check(p, nil, all(ty, one), every(ones)); err != want {
			t.Errorf("%v: %v", formula.Text(all(ty, one)), err)
		}
		ty = fn(ty, i)
	}
}

// P8.1: what is opened may not become too large; the part that opens it is blamed.
func TestOpenedTooLarge(t *testing.T) {
	p := inferred(t, eights+"pred p i. pred q i i i i i i i i. pred z. rule r0: z. rule r1: all x. z -o q x x x x x x x x. rule r2: all x. p x.")
	tree := func(n int) api.Term { // 8 to the power of n leaves
		x := con("c")
		for range n {
			x = con("g", slices.Repeat([]api.Term{x}, 8)...)
		}
		return x
	}
	x := tree(3) // 585 nodes
	if _, err := formula.Open(p.Rules[1].Form, x); err != api.ErrLong {
		t.Fatalf("Open = %v", err)
	}
	goal := atom("q", slices.Repeat([]api.Term{tree(2)}, 8)...)
	for what, y := range map[string]struct {
		f    api.Form
		pf   api.Proof
		path []int
	}{
		"as large as may be":         {goal, hyp(1, at(tree(2)), by(hyp(0))), accepted},
		"too large in a turn":        {goal, hyp(1, at(x), by(ones)), nil},
		"too large for some":         {api.Form{Kind: api.FoEx, Name: "x", Type: i, L: []api.Form{atom("q", slices.Repeat([]api.Term{bound(0)}, 8)...)}}, some(x, ones), nil},
		"too deep for some":          {of(api.FoBang, api.Form{Kind: api.FoEx, Name: "x", Type: i, L: []api.Form{of(api.FoBang, of(api.FoBang, atom("p", bound(0))))}}), part(api.PfBang, some(ofDepth(98), ones)), []int{0}},
		"as deep as may be for some": {of(api.FoBang, api.Form{Kind: api.FoEx, Name: "x", Type: i, L: []api.Form{of(api.FoBang, of(api.FoBang, atom("p", bound(0))))}}), part(api.PfBang, some(ofDepth(97), nested(2, hyp(2, at(ofDepth(97)))))), accepted},
		"a term of 4000 nodes":       {api.Form{Kind: api.FoEx, Name: "x", Type: i, L: []api.Form{one}}, some(typedOf(4000), ones), accepted},
		"a term of 4001 nodes":       {api.Form{Kind: api.FoEx, Name: "x", Type: i, L: []api.Form{one}}, some(con("f", typedOf(4000)), ones), nil},
	} {
		got, want := resultsOf(p, nil, y.f, y.pf), allResults{Check: api.ErrRefused, Used: api.ErrRefused, Path: y.path}
		if slices.Equal(y.path, accepted) {
			want = allResults{Blame: api.ErrNone}
		}
		if !same(got, want) {
			t.Errorf("%v: %v, not %v", what, got, want)
		}
	}
}
