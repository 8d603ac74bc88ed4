package module_test

import (
	"fmt"

	"peculium/api"
	"peculium/module"
	"peculium/syntax"
)

// The example of README.md.
func Example() {
	a, _, _ := syntax.Parse("module m. export nat, plus. type nat. const z: nat. const s: nat -> nat. pred plus nat nat nat. rule a: plus z X X.")
	b, _, _ := syntax.Parse("module r. use m. pred two nat. rule b: plus X X Y -o two Y.")
	m, err := module.Read(a)
	fmt.Println(module.Declared(m), err)
	r, _ := module.Read(b)
	l := []api.Module{r, m}
	fmt.Println(module.Order(l, "r"))
	fmt.Println(module.Resolve(l, "r", "plus"))
	fmt.Println(module.Resolve(l, "r", "z"))
	n, _ := module.Linked(l, "r")
	item, _ := syntax.At(n, []int{6})
	fmt.Println(syntax.Print(item))
	p, err := module.Link(l, "r")
	fmt.Println(len(p.Rules), p.Rules[1].Name, err)
	m, _ = module.Rename(m, "z", "zero")
	item, _ = syntax.At(m.Items[4], []int{0})
	fmt.Println(syntax.Print(item))
	// Output:
	// [nat z s plus] 0
	// [m r] 0
	// plus@m 0
	//  73
	// rule b@r: plus@m X X Y -o two@r Y. 0
	// 2 b@r 0
	// plus zero X X 0
}
