package types_test

import (
	"fmt"

	"peculium/api"
	"peculium/syntax"
	"peculium/types"
)

// The example of README.md.
func Example() {
	n, _, _ := syntax.Parse("type i. const f: i -> i. pred p i. pred q (i -> i). rule r: p (f X) o- q F * all y. p (F y).")
	p, blames, err := types.Infer(n)
	fmt.Println(len(p.Rules), blames, err)
	tree, _ := types.Show(p)
	item, _ := syntax.At(tree, []int{4})
	fmt.Println(syntax.Print(item))
	form, _, _ := syntax.ParseForm("p (f X) * q X")
	_, blames, err = types.Query(p, "u", form)
	fmt.Println(blames, err)
	term, _, _ := syntax.ParseTerm("f")
	i := api.Type{Name: "i"}
	x, _, _ := types.Term(p, nil, api.Type{Name: "->", Args: []api.Type{i, i}}, term)
	fmt.Println(x.Kind == api.TmLam, x.Args[0].Name, x.Args[0].Args[0].Kind == api.TmBound)
	// Output:
	// 1 [] 0
	// rule r: all X: i. all F: i -> i. q (\x: i. F x) * (all y: i. p (F y)) -o p (f X). 0
	// [{[1 0] 7}] 30
	// true f true
}
