package formula_test

import (
	"fmt"

	"peculium/api"
	"peculium/formula"
	"peculium/syntax"
	"peculium/term"
	"peculium/types"
)

// The example of README.md.
func Example() {
	n, _, _ := syntax.Parse("type i. const c: i. const f: i -> i. pred p i. fact a i. rule r: p (f X) o- p X. rule s: a X -o {a (f X)}. query q: p X.")
	p, _, _ := types.Infer(n)
	fmt.Println(formula.Check(p), formula.Kind(p, p.Rules[0].Form) == api.HyBack)
	r, err := formula.Rule(p, p.Rules[1].Form)
	fmt.Println(len(r.Vars), r.Ante[0].Fact.Name, formula.Text(r.Then), err)
	c := api.Term{Kind: api.TmCon, Name: "c"}
	body, _ := formula.Open(p.Rules[0].Form, c)
	fmt.Println(formula.Text(body), formula.Text(formula.Heads(body)[0]))
	x, _, _ := term.Read("f P3")
	goal, _ := formula.Put(p.Queries[0].Form, []api.Term{x})
	all, _ := formula.Bind(goal, api.FoAll, 3, api.Named{Name: "x", Type: api.Type{Name: "i"}})
	fmt.Println(formula.Text(goal), "|", formula.Text(all), formula.Goal(p, api.Scope{}, all))
	// Output:
	// 0 true
	// 1 a a ( f V0 ) 0
	// ( p c -o p ( f c ) ) p ( f c )
	// p ( f P3 ) | all : i . p ( f B0 ) 0
}
