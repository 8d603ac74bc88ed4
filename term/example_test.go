package term_test

import (
	"fmt"

	"peculium/api"
	"peculium/term"
)

// The example of README.md.
func Example() {
	nat := api.Type{Name: "nat"}
	one := term.Arrow([]api.Type{nat}, "nat")
	p := api.Program{Types: []string{"nat"}, Consts: []api.Const{{Name: "z", Type: nat}, {Name: "s", Type: one}}}
	twice, at, err := term.Read(`\ . V0 ( V0 B0 )`)
	fmt.Println(term.Size(twice), at, err)
	fmt.Println(term.Typed(p, api.Scope{Vars: []api.Type{one}}, twice, one))
	s, _ := term.Eta(api.Term{Kind: api.TmCon, Name: "s"}, one)
	two, _ := term.Put(twice, []api.Term{s})
	fmt.Println(term.Text(s), "|", term.Text(two))
	y, _ := term.Apply(two, []api.Term{{Kind: api.TmCon, Name: "z"}})
	fmt.Println(term.Text(y), term.Check(p, nil, nil, y, nat))
	_, at, err = term.Read("( s ) z")
	fmt.Println(at, err)
	// Output:
	// 4 0 0
	// 0
	// \ . s B0 | \ . s ( s B0 )
	// s ( s z ) 0
	// 6 42
}
