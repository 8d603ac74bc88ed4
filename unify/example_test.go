package unify_test

import (
	"fmt"

	"peculium/api"
	"peculium/term"
	"peculium/unify"
)

// The example of README.md.
func Example() {
	i := api.Type{Name: "i"}
	s, x, _ := unify.Fresh(api.Store{}, 0, term.Arrow([]api.Type{i, i}, "i"))
	s, y, _ := unify.Fresh(s, 0, term.Arrow([]api.Type{i}, "i"))
	a, _, _ := term.Read(`\ . \ . V0 B1 B0`)
	b, _, _ := term.Read(`\ . \ . g ( V1 B0 )`)
	s, is, err := unify.Unify(s, a, b)
	fmt.Println(x, y, is, err)
	v, _ := unify.Value(s, a)
	l, types, _ := unify.Least(s, 5, []api.Term{a})
	fmt.Println(term.Text(v), "|", term.Text(l[0]), len(types))
	c, _, _ := term.Read(`\ . V1 B0`)
	d, _, _ := term.Read(`\ . f ( V1 B0 )`)
	_, is, err = unify.Unify(s, c, d)
	fmt.Println(is, err)
	// Output:
	// 0 1 true 0
	// \ . \ . g ( V1 B0 ) | \ . \ . g ( P5 B0 ) 1
	// false 0
}
