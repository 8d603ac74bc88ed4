package kernel_test

import (
	"fmt"
	"slices"
	"testing"

	"peculium/api"
	"peculium/kernel"
)

// world is the program of most tables.
const world = declared + `
rule r0: all x. a x -o p x.
once r1: a c.
rule r2: all x. a x -o {a (f x) * !l x}.
most r3: z & p d.
rule r4: l c.
rule r5: l X => p X -o q X Y.
rule r6: h F -o p (lam (\x. F x)).
rule r7: a X -o l Y => b -o {ex Z. (a Z * one) * ex G: i -> i. k G}.
rule r8: l X => m => {a X}.
rule r9: p X & (z & p (f X)).
`

// The numbers of the hypotheses that follow the rules of world.
const first, second, third = 10, 11, 12

// row is a proof of a goal, and the path at which it is refused, or accepted.
type row struct {
	goal string
	pf   api.Proof
	path []int
}

var accepted = []int{1 << 30}

// hold holds what comes of rows.
func hold(t *testing.T, p api.Program, params []api.Type, rows []row) {
	t.Helper()
	for n, x := range rows {
		s := api.Sequent{Program: p, Params: params, Goal: goal(t, p, x.goal)}
		judge(t, s)
		got := resultsOf(p, params, s.Goal, x.pf)
		want := allResults{Check: api.OK, Blame: api.ErrNone, Used: got.Used, Uses: got.Uses}
		if !slices.Equal(x.path, accepted) {
			want.Check, want.Blame, want.Path = api.ErrRefused, api.OK, x.path
		}
		if !same(got, want) || len(x.path) > 0 && want.Check != api.OK && got.Used != api.ErrRefused {
			t.Errorf("row %v: %v by %v: %v, not %v", n, x.goal, text(x.pf), got, want)
		}
		if want := refResults(p, params, s.Goal, x.pf); !same(got, want) {
			t.Errorf("row %v: %v by %v: %v, not %v as by the second way", n, x.goal, text(x.pf), got, want)
		}
	}
}

// pc is the proof of p c by the rule 0, and a c by the hypothesis n.
func pc(n int) api.Proof { return hyp(0, at(c), by(hyp(n))) }

// spent is a proof of top that uses the rule 1.
var spent = tops(1)

// P8.1: every row of the chapter's examples.
func TestExamples(t *testing.T) {
	p := inferred(t, declared+`rule r0: all x. a x -o p x. once r1: a c. rule r2: all x. a x -o {a (f x) * !l x}.`)
	step := move(2, []api.Term{c}, 1)
	hold(t, p, nil, []row{
		{"p c", pc(1), accepted},
		{"p c & p c", both(pc(1), pc(1)), accepted},
		{"p c * p c", pair(pc(1), pc(1)), nil},
		{"one", ones, nil},
		{"top", tops(), nil},
		{"top", tops(1), accepted},
		{"{a (f c)}", does(hyp(3), step), accepted},
		{"{one}", does(ones, step), nil},
		{"a d -o a d * p c", given(pair(hyp(3), pc(1))), accepted},
		{"p c", hyp(0, at(c), by(ones)), []int{-2}},
	})
	if used, err := kernel.Used(p, nil, goal(t, p, "p c"), pc(1)); err != api.OK || !slices.Equal(used, []int{1}) || kernel.Depth(pc(1)) != 2 || kernel.Size(pc(1)) != 5 {
		t.Errorf("Used = %v, %v; Depth = %v; Size = %v", used, err, kernel.Depth(pc(1)), kernel.Size(pc(1)))
	}
}

// P8.1: each kind of proof with each kind of goal: only the one with its own kind is accepted.
func TestKinds(t *testing.T) {
	p := inferred(t, world)
	goals := []struct {
		goal  string
		kinds []int
	}{
		{"a c", []int{api.PfAtom}},
		{"one", []int{api.PfOne}},
		{"top", []int{api.PfTop}},
		{"top * top", []int{api.PfTensor}},
		{"top & top", []int{api.PfWith}},
		{"top + top", []int{api.PfLeft, api.PfRight}},
		{"a c -o top", []int{api.PfLolli}},
		{"l c => top", []int{api.PfImp}},
		{"!one", []int{api.PfBang}},
		{"all x: i. top", []int{api.PfAll}},
		{"ex x: i. top", []int{api.PfEx}},
		{"{top}", []int{api.PfMonad}},
	}
	proofs := map[int]api.Proof{
		api.PfAtom: hyp(1), api.PfOne: ones, api.PfTop: spent, api.PfTensor: pair(spent, tops()), api.PfWith: both(spent, spent),
		api.PfLeft: part(api.PfLeft, spent), api.PfRight: part(api.PfRight, spent), api.PfLolli: given(tops(1, first)), api.PfImp: lasts(spent),
		api.PfBang: part(api.PfBang, ones), api.PfAll: every(spent), api.PfEx: some(c, spent), api.PfMonad: does(spent),
	}
	for _, x := range goals {
		g := goal(t, p, x.goal)
		for kind := api.PfAtom; kind <= api.PfMonad; kind++ {
			got, want := resultsOf(p, nil, g, proofs[kind]), refResults(p, nil, g, proofs[kind])
			if is := slices.Contains(x.kinds, kind); is != (got.Used == api.OK) || !same(got, want) || len(got.Path) > 0 {
				t.Errorf("%v by a proof of the kind %v: %v, not %v", x.goal, kind, got, want)
			}
			// Within another proof the part is blamed, not what is around it.
			g, pf := of(api.FoTensor, top, g), pair(tops(), proofs[kind])
			if path, err := kernel.Blame(p, nil, g, pf); slices.Contains(x.kinds, kind) == slices.Equal(path, []int{1}) {
				t.Errorf("%v by a proof of the kind %v within another one: %v, %v", x.goal, kind, path, err)
			}
		}
	}
}

// P8.1: atoms, and the turns by which hypotheses are taken apart.
func TestAtoms(t *testing.T) {
	p := inferred(t, world)
	hold(t, p, []api.Type{i, ii}, []row{
		{"a c", hyp(1), accepted},
		{"a d", hyp(1), nil},
		{"a (f c)", hyp(1), nil},
		{"b", hyp(1), nil},
		{"a c", hyp(-1), nil},
		{"a c", hyp(first), nil},
		{"a c", hyp(400), nil},
		{"a c", hyp(1 << 62), nil},
		{"a c", hyp(-1 << 63), nil},
		{"a c", hyp(0), nil},
		{"p c", hyp(0, at(c)), nil},
		{"p c", hyp(0, by(hyp(1))), nil},
		{"p c", hyp(0, at(c), at(c)), nil},
		{"p c", hyp(0, at(c), imp(hyp(1))), nil},
		{"p c", hyp(0, at(c), toLeft), nil},
		{"p c", hyp(0, at(c), by(hyp(1)), toLeft), nil},
		{"p c", hyp(0, at(c), by(hyp(1)), by(hyp(1))), nil},
		{"p c", hyp(0, at(d), by(hyp(1))), []int{-2}},
		{"p d", hyp(0, at(c), by(hyp(1))), nil},
		{"p c", hyp(0, at(c), by(hyp(2))), []int{-2}},
		// Of a conjunction one part is taken.
		{"z * a c", pair(hyp(3, toLeft), hyp(1)), accepted},
		{"p d * a c", pair(hyp(3, toRight), hyp(1)), accepted},
		{"z * a c", pair(hyp(3, toRight), hyp(1)), []int{0}},
		{"z * a c", pair(hyp(3), hyp(1)), []int{0}},
		{"p P0 * top", pair(hyp(9, at(par(0)), toLeft), spent), accepted},
		{"p (f P0) * top", pair(hyp(9, at(par(0)), toRight, toRight), spent), accepted},
		{"p (f P0) * top", pair(hyp(9, toRight, at(par(0)), toRight), spent), []int{0}},
		{"p (f P0) * top", pair(hyp(9, at(par(0)), toRight, toLeft), spent), []int{0}},
		// What is in front of => uses nothing.
		{"q c e", hyp(5, at(c), at(con("e")), imp(hyp(4)), by(pc(1))), accepted},
		{"q c e", hyp(5, at(con("e")), at(c), imp(hyp(4)), by(pc(1))), nil},
		{"q c e", hyp(5, at(c), at(con("e")), imp(hyp(4)), by(hyp(0))), []int{-4}},
		{"q c e", hyp(5, at(c), at(con("e")), imp(hyp(1)), by(pc(1))), []int{-3}},
		{"q c e", hyp(5, at(c), at(con("e")), by(hyp(4)), by(pc(1))), nil},
		{"q c e", hyp(5, at(c), at(con("e")), by(pc(1)), imp(hyp(4))), nil},
		{"(top => p c) -o p c", given(hyp(first, imp(spent))), []int{0}},
		{"(top => p c) -o top * p c", given(pair(spent, hyp(first, imp(tops())))), accepted},
		{"(top => p c) -o p c", given(hyp(first, imp(tops(3)))), []int{0}},
		{"(top => p c) -o p c", given(hyp(first, imp(tops(first)))), []int{0}},
		// What is in front of -o uses what is not used already.
		{"(top -o top -o p c) -o p c", given(hyp(first, by(spent), by(tops(3)))), accepted},
		{"(top -o top -o p c) -o p c", given(hyp(first, by(tops()), by(spent))), accepted},
		{"(top -o top -o p c) -o p c", given(hyp(first, by(spent), by(spent))), []int{0}},
		{"(top -o top -o p c) -o p c", given(hyp(first, by(tops(3)), by(tops(1, 3)))), []int{0}},
		{"(top -o top -o p c) -o p c", given(hyp(first, by(spent), by(tops(first)))), []int{0}},
		{"(top -o top -o p c) => p c", lasts(hyp(first, by(spent), by(tops(first)))), []int{0, -2}},
		{"(top -o top -o p c) -o p c", given(hyp(first, by(spent), by(ones))), []int{0, -2}},
		{"(p c -o p c) -o p c", given(hyp(first, by(hyp(0, at(c), by(ones))))), []int{0, -1, -2}},
		// Terms for variables.
		{"p P0 * top", pair(hyp(9, at(par(1)), toLeft), spent), []int{0}},
		{"p P0 * top", pair(hyp(9, at(par(2)), toLeft), spent), []int{0}},
		{"p P0 * top", pair(hyp(9, at(vari(0)), toLeft), spent), []int{0}},
		{"p P0 * top", pair(hyp(9, at(bound(0)), toLeft), spent), []int{0}},
		{"p P0 * top", pair(hyp(9, at(api.Term{}), toLeft), spent), []int{0}},
		{"p c * top", pair(hyp(9, at(api.Term{Kind: api.TmCon, Name: "c", N: 1}), toLeft), spent), []int{0}},
		{"p c * top", pair(hyp(9, at(con("e")), toLeft), spent), []int{0}},
		{"p c * top", pair(hyp(9, at(con("x")), toLeft), spent), []int{0}},
		{"p (f P0) * top", pair(hyp(9, at(con("f", par(0))), toLeft), spent), accepted},
		{"p (f P0) * top", pair(hyp(9, at(con("f")), toLeft), spent), []int{0}},
		{"(all F. h (\\x. F x)) => top * h P1", lasts(pair(spent, hyp(first, at(tm(`\ . P1 B0`))))), accepted},
		{"(all F. h (\\x. F x)) => top * h P1", lasts(pair(spent, hyp(first, at(par(1))))), []int{0, 1}},
		{"h (\\x. f x) => top * p (lam f)", lasts(pair(spent, hyp(6, at(tm(`\ . f B0`)), by(hyp(first))))), accepted},
		{"h P1 => top * p (lam (\\x. x))", lasts(pair(spent, hyp(6, at(tm(`\ . B0`)), by(hyp(first))))), []int{0, 1, -2}},
		{"h (\\x. x) => top * p (lam (\\x. x))", lasts(pair(spent, hyp(6, at(tm(`\ . B0`)), by(hyp(first))))), accepted},
	})
}

// P8.1: linear, affine and lasting hypotheses used never, once and twice, and what connectives do with what is used.
func TestUses(t *testing.T) {
	p := inferred(t, world)
	z, lc := hyp(3, toLeft), hyp(4)
	hold(t, p, nil, []row{
		{"a c", hyp(1), accepted},
		{"l c", lc, nil},
		{"a c * a c", pair(hyp(1), hyp(1)), nil},
		{"a c * l c", pair(hyp(1), lc), accepted},
		{"a c * (l c * l c)", pair(hyp(1), pair(lc, lc)), accepted},
		{"a c * z", pair(hyp(1), z), accepted},
		{"a c * (z * z)", pair(hyp(1), pair(z, z)), []int{1}},
		{"(a c * z) * z", pair(pair(hyp(1), z), z), nil},
		{"z", z, nil},
		// Both parts of & use the same linear ones, whatever they do with others.
		{"a c & a c", both(hyp(1), hyp(1)), accepted},
		{"a c & top", both(hyp(1), spent), accepted},
		{"a c & top", both(hyp(1), tops()), nil},
		{"top & a c", both(tops(), hyp(1)), nil},
		{"(a c * z) & a c", both(pair(hyp(1), z), hyp(1)), accepted},
		{"((a c * z) & a c) * z", pair(both(pair(hyp(1), z), hyp(1)), z), nil},
		{"((a c * z) & (a c * l c)) * one", pair(both(pair(hyp(1), z), pair(hyp(1), lc)), ones), accepted},
		{"(z & z) * a c", pair(both(z, z), hyp(1)), accepted},
		{"(one & z) * a c", pair(both(ones, z), hyp(1)), accepted},
		{"(one & z) * (a c * z)", pair(both(ones, z), pair(hyp(1), z)), nil},
		{"a c + z", part(api.PfLeft, hyp(1)), accepted},
		{"z + a c", part(api.PfRight, hyp(1)), accepted},
		{"a c + z", part(api.PfRight, hyp(1)), []int{0}},
		{"a c + z", part(api.PfRight, z), nil},
		// An introduced one that is linear has to be used, one that lasts need not.
		{"b -o a c", given(hyp(1)), nil},
		{"b -o a c * b", given(pair(hyp(1), hyp(first))), accepted},
		{"b -o a c * (b * b)", given(pair(hyp(1), pair(hyp(first), hyp(first)))), []int{0, 1}},
		{"b -o b", given(hyp(first)), nil},
		{"b -o top", given(tops(1, first)), accepted},
		{"b -o top", given(spent), nil},
		{"b -o (a c * b) & top", given(both(pair(hyp(1), hyp(first)), tops(1, first))), accepted},
		{"b -o (a c * b) & top", given(both(pair(hyp(1), hyp(first)), spent)), []int{0}},
		{"(b -o b) * a c", pair(given(hyp(first)), hyp(1)), accepted},
		{"(b -o b) * (b -o b * a c)", pair(given(hyp(first)), given(pair(hyp(first), hyp(1)))), accepted},
		{"(b -o one) * b", pair(given(ones), hyp(first)), []int{0}},
		{"(b -o b) * b", pair(given(hyp(first)), hyp(first)), []int{1}},
		{"b -o z -o b * (z * a c)", given(given(pair(hyp(first), pair(hyp(second), hyp(1))))), accepted},
		{"b -o z -o b * (z * a c)", given(given(pair(hyp(second), pair(hyp(first), hyp(1))))), []int{0, 0, 0}},
		{"m => a c", lasts(hyp(1)), accepted},
		{"m => a c * (m * m)", lasts(pair(hyp(1), pair(hyp(first), hyp(first)))), accepted},
		{"m => a c * !m", lasts(pair(hyp(1), part(api.PfBang, hyp(first)))), accepted},
		{"m => top", lasts(tops(1, first)), []int{0}},
		{"m => b -o a c * (m * b)", lasts(given(pair(hyp(1), pair(hyp(first), hyp(second))))), accepted},
		// What is behind ! uses nothing.
		{"!l c * a c", pair(part(api.PfBang, lc), hyp(1)), accepted},
		{"!a c", part(api.PfBang, hyp(1)), nil},
		{"!z * a c", pair(part(api.PfBang, z), hyp(1)), []int{0}},
		{"!top * a c", pair(part(api.PfBang, tops()), hyp(1)), accepted},
		{"!top", part(api.PfBang, spent), nil},
		{"!(b -o b) * a c", pair(part(api.PfBang, given(hyp(first))), hyp(1)), accepted},
		{"b -o !b * a c", given(pair(part(api.PfBang, hyp(first)), hyp(1))), []int{0, 0}},
		// Top takes linear and affine ones, increasing.
		{"top", tops(1), accepted},
		{"top", tops(1, 3), accepted},
		{"top", tops(3), nil},
		{"top", tops(3, 1), nil},
		{"top", tops(1, 1), nil},
		{"top", tops(1, 4), nil},
		{"top", tops(0, 1), nil},
		{"top", tops(-1, 1), nil},
		{"top", tops(1, first), nil},
		{"top", tops(1, 400), nil},
		{"top", tops(1, 1<<62), nil},
		{"top * top", pair(tops(1), tops(3)), accepted},
		{"top * top", pair(tops(1, 3), tops(3)), nil},
		{"top * top", pair(tops(), tops()), nil},
		{"one * a c", pair(ones, hyp(1)), accepted},
	})
	// Without what is linear.
	p = inferred(t, declared+"most r0: p c. rule r1: p d.")
	hold(t, p, nil, []row{
		{"one", ones, accepted},
		{"top", tops(), accepted},
		{"top", tops(0), accepted},
		{"p c", hyp(0), accepted},
		{"p c * p c", pair(hyp(0), hyp(0)), nil},
		{"p c & p c", both(hyp(0), hyp(0)), accepted},
		{"p c & one", both(hyp(0), ones), accepted},
		{"(p c & one) * p c", pair(both(hyp(0), ones), hyp(0)), nil},
		{"(p c -o one -o z) => z", lasts(hyp(2, by(hyp(0)), by(ones))), accepted},
		{"(p c -o p c -o z) => z", lasts(hyp(2, by(hyp(0)), by(hyp(0)))), []int{0}},
		{"(p c => z) => z", lasts(hyp(2, imp(hyp(0)))), []int{0}},
		{"(p d => z) => z", lasts(hyp(2, imp(hyp(1)))), accepted},
		{"!p c", part(api.PfBang, hyp(0)), nil},
		{"!p d", part(api.PfBang, hyp(1)), accepted},
	})
}

// P8.1: quantifiers, and the numbers of their parameters.
func TestQuantifiers(t *testing.T) {
	p := inferred(t, world)
	hold(t, p, []api.Type{i, ii}, []row{
		{"all x. a x -o a x * top", every(given(pair(hyp(first), spent))), accepted},
		{"all x. (p x -o p x * top)", every(given(pair(hyp(first), spent))), accepted},
		{"all x. (p x -o p P0 * top)", every(given(pair(hyp(first), spent))), []int{0, 0, 0}},
		{"(all x. p x) => top * p P0", lasts(pair(spent, hyp(first, at(par(0))))), accepted},
		{"(all x. p x) => top * all y. p y", lasts(pair(spent, every(hyp(first, at(par(2)))))), accepted},
		{"(all x. p x) => top * all y. p y", lasts(pair(spent, every(hyp(first, at(par(0)))))), []int{0, 1, 0}},
		{"(all x. p x) => top * all y. p y", lasts(pair(spent, every(hyp(first, at(par(3)))))), []int{0, 1, 0}},
		{"(all x. p x) => top * all y: i. all z. p z", lasts(pair(spent, every(every(hyp(first, at(par(3))))))), accepted},
		{"(all x. p x) => top * all y: i. all z. p z", lasts(pair(spent, every(every(hyp(first, at(par(2))))))), []int{0, 1, 0, 0}},
		{"(all x. p x) => top * all y. all z: i. p y", lasts(pair(spent, every(every(hyp(first, at(par(2))))))), accepted},
		// The parameters of one part are not there in another one.
		{"(all x. p x) => (all y. p y) * (top * all z. p z)", lasts(pair(every(hyp(first, at(par(2)))), pair(spent, every(hyp(first, at(par(2))))))), accepted},
		{"(all x. p x) => (all y. p y) * (top * p P0)", lasts(pair(every(hyp(first, at(par(2)))), pair(spent, hyp(first, at(par(2)))))), []int{0, 1, 1}},
		{"top * ex x. p x", pair(spent, some(c, hyp(9, at(c), toLeft))), accepted},
		{"top * ex x. p x", pair(spent, some(c, hyp(9, at(d), toLeft))), []int{1, 0}},
		{"top * ex x. p x", pair(spent, some(par(0), hyp(9, at(par(0)), toLeft))), accepted},
		{"top * ex x. p x", pair(spent, some(par(1), hyp(9, at(c), toLeft))), []int{1}},
		{"top * ex x. p x", pair(spent, some(par(2), hyp(9, at(c), toLeft))), []int{1}},
		{"top * ex x. p x", pair(spent, some(vari(0), hyp(9, at(c), toLeft))), []int{1}},
		{"top * ex x. p x", pair(spent, some(bound(0), hyp(9, at(c), toLeft))), []int{1}},
		{"top * ex x. p x", pair(spent, some(con("e"), hyp(9, at(c), toLeft))), []int{1}},
		{"top * ex x. p x", pair(spent, some(con("f"), hyp(9, at(c), toLeft))), []int{1}},
		{"top * ex x. p x", pair(spent, some(api.Term{}, hyp(9, at(c), toLeft))), []int{1}},
		{"top * ex x. p x", pair(spent, some(api.Term{Kind: 9}, hyp(9, at(c), toLeft))), []int{1}},
		{"top * ex x: i. one", pair(spent, some(api.Term{}, ones)), []int{1}},
		{"top * all x. ex y. (p x => p y)", pair(spent, every(some(par(2), lasts(hyp(first))))), accepted},
		{"ex y. all x. top * (p x => p y)", some(par(0), every(pair(spent, lasts(hyp(first))))), []int{0, 0, 1, 0}},
		{"ex y. all x. top * (p x => p y)", some(par(2), every(pair(spent, lasts(hyp(first))))), nil},
		{"ex F. all x. top * (p (f x) => p (F x))", some(tm(`\ . f B0`), every(pair(spent, lasts(hyp(first))))), accepted},
		{"ex F. all x: i. top * (p (P1 x) => p (F x))", some(tm(`\ . P1 B0`), every(pair(spent, lasts(hyp(first))))), accepted},
		{"ex F. all x. top * (p (f x) => p (F x))", some(tm(`\ . P1 B0`), every(pair(spent, lasts(hyp(first))))), []int{0, 0, 1, 0}},
		{"ex F. all x. top * (p x => p (F x))", some(tm(`\ . B0`), every(pair(spent, lasts(hyp(first))))), accepted},
		{"ex F. all x. top * (p x => p (F x))", some(con("f"), every(pair(spent, lasts(hyp(first))))), nil},
		{"ex F. all x. top * (p x => p (F x))", some(tm(`\ . \ . B0`), every(pair(spent, lasts(hyp(first))))), nil},
		{"ex F. all x. top * (p x => p (F x))", some(tm(`\ . B1`), every(pair(spent, lasts(hyp(first))))), nil},
		{"all F: i -> i. h F -o top * h F", every(given(pair(spent, hyp(first)))), accepted},
		{"all F: (i -> i) -> i. p (F (\\x. f x)) -o top * p (F (\\x. f x))", every(given(pair(spent, hyp(first)))), accepted},
		{"all F: (i -> i) -> i. p (F (\\x. f x)) -o top * p (F (\\x. x))", every(given(pair(spent, hyp(first)))), []int{0, 0, 1}},
		{"all x. a x -o top * p x", every(given(pair(spent, hyp(0, at(par(2)), by(hyp(first)))))), accepted},
	})
}

// P8.1: moves, and what they bind.
func TestMoves(t *testing.T) {
	p := inferred(t, world)
	fc := con("f", c)
	step := move(2, []api.Term{c}, 1)                    // binds a (f c), first, and l c, second
	next := move(2, []api.Term{fc}, first)               // binds a (f (f c)), third, and l (f c)
	more := move(7, []api.Term{fc, c}, first, 4, second) // with b instead of l c as second
	two := con("f", fc)
	hold(t, p, []api.Type{i, ii}, []row{
		{"{a c}", does(hyp(1)), accepted},
		{"{one}", does(ones), nil},
		{"{a (f c)}", does(hyp(first), step), accepted},
		{"{a c}", does(hyp(1), step), nil},
		{"{a (f c) * !l c}", does(pair(hyp(first), part(api.PfBang, hyp(second))), step), accepted},
		{"{a (f c) * (!l c * !l c)}", does(pair(hyp(first), pair(part(api.PfBang, hyp(second)), part(api.PfBang, hyp(4)))), step), accepted},
		{"{a (f c) * a (f c)}", does(pair(hyp(first), hyp(first)), step), []int{0}},
		{"{top}", does(tops(first), step), accepted},
		{"{top}", does(tops(1, first), step), nil},
		{"{top}", does(tops(), step), nil},
		{"{top}", does(tops(first, second), step), []int{0}},
		{"{one}", does(ones, step), nil},
		{"{top * one}", does(pair(tops(3, first), ones), step), accepted},
		{"{a (f (f c))}", does(hyp(third), step, next), accepted},
		{"{a (f (f c))}", does(hyp(first), step, next), []int{0}},
		{"{a (f (f c)) * a (f c)}", does(pair(hyp(third), hyp(first)), step, next), nil},
		{"{top}", does(tops(third), step, step), nil},
		{"{top}", does(tops(third), step, move(2, []api.Term{c}, first)), nil},
		{"{top}", does(tops(third), next, step), nil},
		{"{ex x. a x}", does(some(two, hyp(third)), step, next), accepted},
		{"{ex x. a x * !l x}", does(some(fc, pair(hyp(first), part(api.PfBang, hyp(second)))), step), []int{0, 0, 1, 0}},
		// Rules that are no forward rules, and numbers that are none.
		{"{top}", does(spent, move(0, []api.Term{c}, 1)), nil},
		{"{top}", does(spent, move(1, nil)), nil},
		{"{top}", does(spent, move(3, nil)), nil},
		{"{top}", does(spent, move(4, nil)), nil},
		{"{top}", does(spent, move(-1, nil)), nil},
		{"{top}", does(spent, move(first, nil)), nil},
		{"{top}", does(spent, move(1<<62, nil)), nil},
		// Too few and too many Terms and Uses, and wrong ones.
		{"{top}", does(spent, move(2, nil, 1)), nil},
		{"{top}", does(spent, move(2, []api.Term{c, c}, 1)), nil},
		{"{top}", does(tops(1, first), move(2, []api.Term{c})), nil},
		{"{top}", does(tops(first), move(2, []api.Term{c}, 1, 1)), nil},
		{"{top}", does(tops(1, first), move(2, []api.Term{c}, 4)), nil},
		{"{top}", does(tops(1, first), move(2, []api.Term{c}, -1)), nil},
		{"{top}", does(tops(1, first), move(2, []api.Term{c}, first)), nil},
		{"{top}", does(tops(first), move(2, []api.Term{d}, 1)), nil},
		{"{top}", does(tops(first), move(2, []api.Term{con("e")}, 1)), nil},
		{"{top}", does(tops(first), move(2, []api.Term{vari(0)}, 1)), nil},
		{"{top}", does(tops(first), move(2, []api.Term{{}}, 1)), nil},
		// Antecedents that last are taken from lasting hypotheses, others from the others.
		{"m => {a c * a c}", lasts(does(pair(hyp(second), hyp(1)), move(8, []api.Term{c}, 4, first))), accepted},
		{"m => {a c * top}", lasts(does(pair(hyp(second), spent), move(8, []api.Term{c}, 4, first))), accepted},
		{"m => {top}", lasts(does(tops(1, second, third), move(8, []api.Term{c}, 4, first), move(8, []api.Term{c}, 4, first))), accepted},
		{"m => {top}", lasts(does(tops(1, second), move(8, []api.Term{c}, first, 4))), []int{0}},
		{"m => {top}", lasts(does(tops(1, second), move(8, []api.Term{d}, 4, first))), []int{0}},
		{"m => {top}", lasts(does(tops(1, second), move(8, []api.Term{c}, 4))), []int{0}},
		{"m => {top}", lasts(does(tops(second), move(8, []api.Term{c}, 4, first, 1))), []int{0}},
		{"m => {top}", lasts(does(tops(second), move(8, []api.Term{c, c}, 4, first))), []int{0}},
		{"b -o {top}", given(does(tops(second, third), move(7, []api.Term{c, c}, 1, 4, first))), accepted},
		{"b -o {ex x. a x * ex G. k (\\y. G y)}", given(does(some(par(2), pair(hyp(second), some(tm(`\ . P3 B0`), hyp(third)))), move(7, []api.Term{c, c}, 1, 4, first))), accepted},
		{"b -o {ex x. a x * ex G. k (\\y. G y)}", given(does(some(par(2), pair(hyp(second), some(tm(`\ . P1 B0`), hyp(third)))), move(7, []api.Term{c, c}, 1, 4, first))), []int{0, 0, 0, 1, 0}},
		{"b -o {ex x. a x * top}", given(does(some(par(3), pair(hyp(second), tops(third))), move(7, []api.Term{c, c}, 1, 4, first))), []int{0, 0}},
		{"b -o {ex x. a x * top}", given(does(some(par(1), pair(hyp(second), tops(third))), move(7, []api.Term{c, c}, 1, 4, first))), []int{0, 0}},
		{"b -o {ex x. a x * top}", given(does(some(par(0), pair(hyp(second), tops(third))), move(7, []api.Term{c, c}, 1, 4, first))), []int{0, 0, 0, 0}},
		{"b -o {top}", given(does(tops(second, third), more)), []int{0}},
		{"b -o {top}", given(does(tops(first, second, third), move(7, []api.Term{c, c}, 1, 4, first))), []int{0}},
		{"b -o {top}", given(does(tops(second), move(7, []api.Term{c, c}, 1, 4, first))), []int{0}},
		{"b -o {a (f c) * b}", given(does(pair(hyp(second), hyp(first)), move(2, []api.Term{c}, 1))), accepted},
		{"b -o {a (f c)}", given(does(hyp(second), move(2, []api.Term{c}, 1))), nil},
		{"all x. a x -o {a (f x) * a c}", every(given(does(pair(hyp(second), hyp(1)), move(2, []api.Term{par(2)}, first)))), accepted},
		{"p c -o {top}", given(does(tops(1, first))), accepted},
		{"p c -o {a c}", given(does(hyp(1))), nil},
	})
	// One fact for two antecedents.
	p = inferred(t, declared+"rule r0: a X -o a Y -o {b}. rule r1: b -o {one}. once r2: a c. once r3: a c. most r4: z.")
	both := move(0, []api.Term{c, c}, 2, 3)
	hold(t, p, nil, []row{
		{"{b}", does(hyp(5), both), accepted},
		{"{b}", does(hyp(5), move(0, []api.Term{c, c}, 3, 2)), accepted},
		{"{b}", does(hyp(5), move(0, []api.Term{c, c}, 2, 2)), nil},
		{"{one}", does(ones, both, move(1, nil, 5)), accepted},
		{"{one}", does(ones, both, move(1, nil, 5), move(1, nil, 5)), nil},
		{"{one}", does(ones, both), nil},
		{"{one}", does(ones), nil},
		{"{top}", does(tops(2, 3)), accepted},
		{"{top}", does(tops(2, 3, 4)), accepted},
		{"{b * top}", does(pair(hyp(5), tops(4)), both), accepted},
		{"{b * top}", does(pair(hyp(5), tops(2)), both), nil},
	})
}

// P8.1: what is opened may have terms that are contracted, and what stands for a variable captures nothing.
func TestOpened(t *testing.T) {
	p := inferred(t, declared+`rule r0: (all y: i. h (\x. g (F x y) e)) -o p (lam (\x. lam (\y. F x y))). rule r1: (all y: i. all u: o. q (F y) u) -o p (lam F).`)
	open := func(term string, x api.Proof) api.Proof { return lasts(every(hyp(0, at(tm(term)), by(every(x))))) }
	hold(t, p, nil, []row{
		// The parameter 0 stands below two lambdas, 1 is y of the rule.
		{"(all v: i. all w: i. h (\\x. g (f w) e)) => all v: i. p (lam (\\x. lam (\\y. f y)))", open(`\ . \ . f B0`, hyp(2, at(c), at(par(1)))), accepted},
		{"(all v: i. all w: i. h (\\x. g (f x) e)) => all v: i. p (lam (\\x. lam (\\y. f x)))", open(`\ . \ . f B1`, hyp(2, at(c), at(c))), accepted},
		{"(all v: i. all w: i. h (\\x. g (f v) e)) => all v: i. p (lam (\\x. lam (\\y. f v)))", open(`\ . \ . f P0`, hyp(2, at(par(0)), at(c))), accepted},
		{"(all v: i. all w: i. h (\\x. g (f v) e)) => all v: i. p (lam (\\x. lam (\\y. f v)))", open(`\ . \ . f P0`, hyp(2, at(par(1)), at(c))), []int{0, 0, -2, 0}},
		{"(all v: i. all w: i. h (\\x. g (f w) e)) => all v: i. p (lam (\\x. lam (\\y. f x)))", open(`\ . \ . f B0`, hyp(2, at(c), at(par(1)))), []int{0, 0}},
		{"(all v: i. all w: i. h (\\x. g (f w) e)) => all v: i. p (lam (\\x. lam (\\y. f y)))", open(`\ . \ . f B1`, hyp(2, at(c), at(par(1)))), []int{0, 0, -2, 0}},
		{"(all v: i. all w: i. h (\\x. g (f w) e)) => all v: i. p (lam (\\x. lam (\\y. f y)))", open(`\ . f B0`, hyp(2, at(c), at(par(1)))), []int{0, 0}},
		{"(all v. all u: o. q (f (f v)) u) => p (lam (\\x. f (f x)))", lasts(hyp(1, at(tm(`\ . f ( f B0 )`)), by(every(every(hyp(2, at(par(0)), at(par(1)))))))), accepted},
		{"(all v. all u: o. q (f (f v)) u) => p (lam (\\x. f (f x)))", lasts(hyp(1, at(tm(`\ . f ( f B0 )`)), by(every(every(hyp(2, at(par(1)), at(par(0)))))))), []int{0, -2, 0, 0}},
		{"(all v. all u: o. q (f (f v)) u) => ex F. all x: i. q (F x) e", lasts(some(tm(`\ . f ( f B0 )`), every(hyp(2, at(par(0)), at(con("e")))))), accepted},
		{"(all v. all u: o. q (f (f v)) u) => ex F. all x: i. q (F x) e", lasts(some(tm(`\ . f B0`), every(hyp(2, at(par(0)), at(con("e")))))), []int{0, 0, 0}},
		{"(all v. all u: o. q (f (f v)) u) => ex F. all x: i. q (f (F x)) e", lasts(some(tm(`\ . f B0`), every(hyp(2, at(par(0)), at(con("e")))))), accepted},
	})
}

// P8.1: Under has further hypotheses behind the rules, and need not use all linear ones.
func TestUnder(t *testing.T) {
	p := inferred(t, world)
	for _, x := range []struct {
		givens []string
		uses   []int
		params []api.Type
		goal   string
		pf     api.Proof
		want   []int
		err    api.Errno
	}{
		{nil, nil, nil, "one", ones, nil, api.OK},
		{nil, nil, nil, "a c", hyp(1), []int{1}, api.OK},
		{[]string{"a d"}, []int{api.UsOnce}, nil, "a d", hyp(first), []int{first}, api.OK},
		{[]string{"a d"}, []int{api.UsMost}, nil, "a d", hyp(first), []int{first}, api.OK},
		{[]string{"a d"}, []int{api.UsLast}, nil, "a d", hyp(first), nil, api.OK},
		{[]string{"a d"}, []int{api.UsOnce}, nil, "one", ones, nil, api.OK},
		{[]string{"a d"}, []int{api.UsOnce}, nil, "a d * a d", pair(hyp(first), hyp(first)), nil, api.ErrRefused},
		{[]string{"a d"}, []int{api.UsMost}, nil, "a d * a d", pair(hyp(first), hyp(first)), nil, api.ErrRefused},
		{[]string{"a d"}, []int{api.UsLast}, nil, "a d * a d", pair(hyp(first), hyp(first)), nil, api.OK},
		{[]string{"a d"}, []int{api.UsOnce}, nil, "a d & one", both(hyp(first), ones), nil, api.ErrRefused},
		{[]string{"a d"}, []int{api.UsMost}, nil, "a d & one", both(hyp(first), ones), []int{first}, api.OK},
		{[]string{"p d", "b"}, []int{api.UsOnce, api.UsOnce}, nil, "b * (top * p d)", pair(hyp(second), pair(tops(1, 3), hyp(first))), []int{1, 3, first, second}, api.OK},
		{[]string{"p d", "b"}, []int{api.UsOnce, api.UsOnce}, nil, "z -o z * b", given(pair(hyp(third), hyp(second))), []int{second}, api.OK},
		{[]string{"b"}, []int{api.UsOnce}, nil, "{b}", does(hyp(first)), []int{first}, api.OK},
		{[]string{"b"}, []int{api.UsOnce}, nil, "{top}", does(tops(second, third), move(7, []api.Term{c, c}, 1, 4, first)), []int{1, first}, api.OK},
		{[]string{"b"}, []int{api.UsMost}, nil, "{top}", does(tops(second, third), move(7, []api.Term{c, c}, 1, 4, first)), []int{1, first}, api.OK},
		{[]string{"b"}, []int{api.UsLast}, nil, "{top}", does(tops(second, third), move(7, []api.Term{c, c}, 1, 4, first)), nil, api.ErrRefused},
		{[]string{"l d"}, []int{api.UsLast}, nil, "m => {a d}", lasts(does(hyp(third), move(8, []api.Term{d}, first, second))), nil, api.OK},
		{[]string{"l d"}, []int{api.UsOnce}, nil, "m => {a d}", lasts(does(hyp(third), move(8, []api.Term{d}, first, second))), nil, api.ErrRefused},
		{[]string{"a P1 -o p P1", "a P1"}, []int{api.UsLast, api.UsOnce}, []api.Type{o, i}, "p P1", hyp(first, by(hyp(second))), []int{second}, api.OK},
		{[]string{"all x. p x"}, []int{api.UsOnce}, []api.Type{o, i}, "p P1", hyp(first, at(par(1))), []int{first}, api.OK},
		{[]string{"all x. p x"}, []int{api.UsOnce}, []api.Type{o, i}, "p P1", hyp(first, at(par(0))), nil, api.ErrRefused},
		{nil, nil, nil, "one", tops(), nil, api.ErrRefused},
		{nil, nil, nil, "one", part(api.PfOne, ones), nil, api.ErrRefused},
		// What is bound is no rule.
		{[]string{"b"}, []int{api.UsOnce}, nil, "{top}", does(tops(first), move(first, nil)), nil, api.ErrRefused},
	} {
		s := api.Sequent{Program: p, Params: x.params, Goal: goal(t, p, x.goal)}
		for n, y := range x.givens {
			s.Givens = append(s.Givens, api.Given{Form: goal(t, p, y), Use: x.uses[n]})
		}
		judge(t, s)
		got, err := kernel.Under(s, x.pf)
		want, stop := refUnder(s, x.pf)
		if err != x.err || !slices.Equal(got, x.want) || err != stop.err || !slices.Equal(got, want) {
			t.Errorf("%v under %v by %v: %v, %v, not %v, %v (%v, %v)", x.goal, x.givens, text(x.pf), got, err, x.want, x.err, want, stop)
		}
	}
}

// P8.1: of several conditions that are not met the first one is told.
func TestFirstBlame(t *testing.T) {
	p := inferred(t, world)
	bad := hyp(0, at(c), by(ones))
	hold(t, p, nil, []row{
		{"one * one", pair(tops(), tops()), []int{0}},
		{"one * one", pair(ones, tops()), []int{1}},
		{"one & one", pair(tops(), tops()), nil},
		{"one & (a c * top)", both(ones, pair(hyp(1), tops(1))), []int{1}},
		{"p c * p c", pair(bad, bad), []int{0, -2}},
		{"p c * p c", pair(pc(1), bad), []int{1, -2}},
		{"p c * p c", pair(bad, pc(1)), []int{0, -2}},
		{"p d", bad, []int{-2}},
		{"p d", hyp(0, at(con("e")), by(ones)), nil},
		{"b -o a c * b", given(pair(hyp(1), hyp(1))), []int{0, 1}},
		{"{one}", does(tops(first), move(2, []api.Term{c}, 1)), []int{0}},
		{"{one}", does(tops(1), move(2, []api.Term{c}, 4)), nil},
		{"(top -o top -o z) => z", lasts(hyp(first, by(tops(1)), by(tops(0)))), []int{0, -2}},
		{"(top -o top -o z) => p c", lasts(hyp(first, by(tops(1)), by(tops(1)))), []int{0}},
		{"((b -o z) -o z) => z", lasts(hyp(first, by(given(hyp(first, by(given(tops()))))))), []int{0, -1, 0, -1, 0}},
	})
}

// P8.1: claims that are checked for parameters of some types.
func TestGoalsWithParameters(t *testing.T) {
	p := inferred(t, declared+"rule r0: a X -o p X.")
	for n, x := range []struct {
		params []api.Type
		is     api.Errno
	}{
		{[]api.Type{i}, api.OK}, {[]api.Type{i, o}, api.OK}, {[]api.Type{i, ii, higher}, api.OK},
	} {
		if err := kernel.Check(p, x.params, goal(t, p, "a P0 -o p P0"), given(hyp(0, at(par(0)), by(hyp(1))))); err != x.is {
			t.Errorf("row %v: %v", n, err)
		}
	}
	if got := fmt.Sprint(resultsOf(p, []api.Type{o, i}, goal(t, p, "a P1 -o p P1"), given(hyp(0, at(par(0)), by(hyp(1)))))); got != fmt.Sprint(allResults{api.ErrRefused, api.OK, api.ErrRefused, []int{0}, nil}) {
		t.Errorf("a parameter of another type: %v", got)
	}
}
