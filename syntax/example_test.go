package syntax_test

import (
	"fmt"

	"peculium/syntax"
)

// The example of README.md.
func Example() {
	n, at, err := syntax.Parse("pred p i (i->i). rule r: p X (\\y: i. y) o- ((q X)).")
	text, _ := syntax.Print(n)
	fmt.Print(at, err, "\n", text)
	rule, _ := syntax.At(n, []int{1, 0})
	plain, _ := syntax.Plain(rule)
	fmt.Println(syntax.Print(plain))
	fmt.Println(syntax.Names(rule))
	_, at, err = syntax.ParseForm("a ) b")
	fmt.Println(at, err)
	// Output:
	// 0 0
	// pred p i (i -> i).
	// rule r: p X (\y: i. y) o- q X.
	// q X -o p X (\y: i. y) 0
	// [p i q] 0
	// 2 20
}
