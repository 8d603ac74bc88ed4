package lex_test

import (
	"fmt"

	"peculium/lex"
)

// The example of README.md.
func Example() {
	text := "rule r: p x -o q. % uses p x"
	list, at, err := lex.Scan(text)
	fmt.Println(len(list), at, err)
	fmt.Println(lex.Tight(list))
	fmt.Println(lex.Place(text, list[3].At))
	// Output:
	// 8 0 0
	// rule r:p x-o q.
	// 1 9 0
}
