package kernel_test

import (
	"fmt"

	"peculium/api"
	"peculium/kernel"
	"peculium/syntax"
	"peculium/types"
)

// The example of README.md.
func Example() {
	n, _, _ := syntax.Parse("type i. const c, d: i. const f: i -> i. pred p i. fact a i. rule r: a X -o p X. once o: a c. rule w: a X -o {a (f X)}. query q: p c. query m: {a (f c)}. query e: ex X. p X.")
	p, _, _ := types.Infer(n)
	c := api.Term{Kind: api.TmCon, Name: "c"}
	fact := api.Proof{Kind: api.PfAtom, N: 1}
	turns := []api.Turn{{Kind: api.TuAll, Term: c}, {Kind: api.TuLolli, L: []api.Proof{fact}}}
	pf := api.Proof{Kind: api.PfAtom, N: 0, Spine: turns}
	g := p.Queries[0].Form
	fmt.Println(kernel.Check(p, nil, g, pf), kernel.Depth(pf), kernel.Size(pf))
	fmt.Println(kernel.Used(p, nil, g, pf))
	some := api.Proof{Kind: api.PfEx, Term: c, L: []api.Proof{pf}}
	fmt.Println(kernel.Check(p, nil, p.Queries[2].Form, some))
	some.Term = api.Term{Kind: api.TmCon, Name: "d"}
	fmt.Println(kernel.Check(p, nil, p.Queries[2].Form, some))
	fmt.Println(kernel.Blame(p, nil, p.Queries[2].Form, some))
	step := api.Move{N: 2, Terms: []api.Term{c}, Uses: []int{1}}
	run := api.Proof{Kind: api.PfMonad, Moves: []api.Move{step}, L: []api.Proof{{Kind: api.PfAtom, N: 3}}}
	fmt.Println(kernel.Check(p, nil, p.Queries[1].Form, run), kernel.Hyps(run))
	run, _ = kernel.Weaken(run, 3, 1)
	fmt.Println(kernel.Hyps(run))
	// Output:
	// 0 2 5
	// [1] 0
	// 0
	// 80
	// [0] 0
	// 0 [1 2 3]
	// [1 2 4]
}
