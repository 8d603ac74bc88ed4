package kernel_test

import (
	"testing"

	"peculium/api"
	"peculium/kernel"
)

// P8.1: claims of all kinds, and such that are damaged, held against the second way.
func TestChecksRandom(t *testing.T) {
	t.Parallel()
	m := newMaker(t, 1)
	kinds, ends := map[int]int{}, map[api.Errno]int{}
	deepest := 0
	for x := range m.claims(2000) {
		got := resultsOf(x.p, x.params, x.goal, x.pf)
		if got.Check != api.OK || got.Blame != api.ErrNone || got.Used != api.OK {
			t.Fatalf("%v: %v", x, got)
		}
		for _, y := range refProofs(x.pf) {
			kinds[y.Kind]++
		}
		deepest = max(deepest, kernel.Depth(x.pf))
		for n := range 4 {
			y := x
			if n > 0 {
				y.pf = m.damaged(x.pf)
			}
			got, want := resultsOf(y.p, y.params, y.goal, y.pf), refResults(y.p, y.params, y.goal, y.pf)
			if !same(got, want) {
				t.Fatalf("%v%v, not %v", y, got, want)
			}
			ends[got.Blame]++
		}
	}
	for kind := api.PfAtom; kind <= api.PfMonad; kind++ {
		if kinds[kind] < 100 {
			t.Errorf("too few of a kind: %v", kinds)
		}
	}
	for err, least := range map[api.Errno]int{api.OK: 3000, api.ErrNone: 2500, api.ErrRefused: 600, api.ErrDeep: 3} {
		if ends[err] < least {
			t.Errorf("too few that end so: %v", ends)
		}
	}
	if deepest < 4 {
		t.Errorf("no proof is deep: %v", deepest)
	}
}
