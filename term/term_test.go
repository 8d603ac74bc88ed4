package term_test

import (
	"reflect"
	"slices"
	"strings"
	"testing"

	"peculium/api"
	"peculium/term"
)

// ofSize is a term of n nodes, with few levels.
func ofSize(n int) api.Term {
	t := con("f")
	n--
	for left := 8; n > 0; left-- {
		part := (n + left - 1) / left
		t.Args = append(t.Args, ofSize(part))
		n -= part
	}
	return t
}

// ofDepth is a term of n levels, with one node on each.
func ofDepth(n int) api.Term {
	t := con("z")
	for range n - 1 {
		t = con("s", t)
	}
	return t
}

// endless is a term that is within itself.
func endless(width int) api.Term {
	args := make([]api.Term, width)
	for i := range args {
		args[i] = con("f")
		args[i].Args = args
	}
	return args[0]
}

// endlessType is a type that is within itself.
func endlessType(width int) api.Type {
	args := make([]api.Type, width)
	for i := range args {
		args[i] = api.Type{Name: "->", Args: args}
	}
	return args[0]
}

// shared is a term with 2 to the power of n nodes, which shares all those that are alike.
func shared(n int) api.Term {
	t := con("z")
	for range n {
		t = con("f", t, t)
	}
	return t
}

// sharedType is such a type.
func sharedType(n int) api.Type {
	t := nat
	for range n {
		t = fn(t, t)
	}
	return t
}

// noTerms are terms that are not raw, or too large, and the errors of Raw.
func noTerms() map[string]struct {
	t api.Term
	e api.Errno
} {
	type row = struct {
		t api.Term
		e api.Errno
	}
	many := make([]api.Term, 9)
	for i := range many {
		many[i] = con("z")
	}
	beyond := ofDepth(100)
	last := &beyond
	for len(last.Args) > 0 {
		last = &last.Args[0]
	}
	last.Args = slices.Repeat([]api.Term{ofSize(4000)}, 8) // these are on the level 101, and below it
	rows := map[string]row{
		"the zero term":             {api.Term{}, api.ErrForm},
		"a Kind -1":                 {api.Term{Kind: -1, Name: "z"}, api.ErrForm},
		"a Kind 6":                  {api.Term{Kind: 6}, api.ErrForm},
		"a constant without name":   {con(""), api.ErrForm},
		"a capital constant":        {con("Z"), api.ErrForm},
		"a keyword":                 {con("all"), api.ErrForm},
		"a linked keyword":          {con("all@m"), api.OK},
		"two links":                 {con("a@b@c"), api.ErrForm},
		"a name with a blank":       {con("a "), api.ErrForm},
		"a name with a comment":     {con("a%"), api.ErrForm},
		"a sign":                    {con("o-"), api.ErrForm},
		"a name of 40 bytes":        {con(strings.Repeat("a", 40)), api.OK},
		"a name of 41 bytes":        {con(strings.Repeat("a", 41)), api.ErrForm},
		"a numbered constant":       {api.Term{Kind: api.TmCon, Name: "z", N: 1}, api.ErrForm},
		"a named variable":          {api.Term{Kind: api.TmVar, Name: "z"}, api.ErrForm},
		"a named parameter":         {api.Term{Kind: api.TmPar, Name: "z"}, api.ErrForm},
		"a named bound variable":    {api.Term{Kind: api.TmBound, Name: "z"}, api.ErrForm},
		"a named lambda":            {api.Term{Kind: api.TmLam, Name: "x", Args: many[:1]}, api.ErrForm},
		"a numbered lambda":         {api.Term{Kind: api.TmLam, N: 1, Args: many[:1]}, api.ErrForm},
		"a lambda without body":     {api.Term{Kind: api.TmLam}, api.ErrForm},
		"a lambda with two bodies":  {api.Term{Kind: api.TmLam, Args: many[:2]}, api.ErrForm},
		"the greatest N":            {con("f", bound(100000), par(100000), variable(100000)), api.OK},
		"a bound variable too high": {bound(100001), api.ErrForm},
		"a parameter too high":      {par(100001), api.ErrForm},
		"a variable too high":       {variable(1 << 60), api.ErrForm},
		"a bound variable below 0":  {bound(-1), api.ErrForm},
		"a parameter below 0":       {par(-1), api.ErrForm},
		"a variable below 0":        {variable(-1 << 63), api.ErrForm},
		"8 Args":                    {con("f", many[:8]...), api.OK},
		"9 Args":                    {con("f", many...), api.ErrForm},
		"9 Args of a variable":      {bound(0, many...), api.ErrForm},
		"what is none within":       {lam(con("f", con("z"), lam(con("s", api.Term{})))), api.ErrForm},
		"4000 nodes":                {ofSize(4000), api.OK},
		"4001 nodes":                {ofSize(4001), api.ErrLong},
		"4001 Args":                 {con("f", slices.Repeat(many[:1], 4001)...), api.ErrLong},
		"4000 nodes, not raw":       {con("f", slices.Repeat([]api.Term{{}}, 3999)...), api.ErrForm},
		"4001 nodes, not raw":       {con("f", slices.Repeat([]api.Term{{}}, 4000)...), api.ErrLong},
		"100 levels":                {ofDepth(100), api.OK},
		"101 levels":                {ofDepth(101), api.ErrDeep},
		"101 levels, not raw":       {api.Term{Args: []api.Term{ofDepth(100)}}, api.ErrDeep},
		"4000 nodes, 101 levels":    {con("f", ofDepth(100), ofSize(3899)), api.ErrDeep},
		"4001 nodes, 101 levels":    {con("f", ofDepth(100), ofSize(3900)), api.ErrLong},
		"100 lambdas":               {lams(100, con("z")), api.ErrDeep},
		"one of it below another":   {con("f", endless(1)), api.ErrDeep},
		"too many levels":           {ofDepth(100000), api.ErrDeep},
		"nodes on many levels":      {beyond, api.ErrDeep},
		"a term within itself":      {endless(1), api.ErrDeep},
		"two terms within":          {endless(2), api.ErrLong},
		"a term that shares":        {shared(11), api.ErrLong},
		"a term that shares more":   {shared(90), api.ErrLong},
	}
	return rows
}

// P4.1: which terms are raw, and not too large.
func TestRaw(t *testing.T) {
	for what, x := range noTerms() {
		if e := term.Raw(x.t); e != x.e {
			t.Errorf("%v: %v; expected %v", what, e, x.e)
		}
		if e := rawErrorOf(x.t); e != x.e {
			t.Errorf("%v: %v, read by words; expected %v", what, e, x.e)
		}
	}
	m := newMaker(1)
	found := map[api.Errno]int{}
	for range 20000 {
		x := m.anything(m.Intn(5))
		want := rawErrorOf(x)
		if e := term.Raw(x); e != want {
			t.Fatalf("Raw(%v) = %v; expected %v", x, e, want)
		}
		found[want]++
	}
	if found[api.OK] < 5000 || found[api.ErrForm] < 5000 {
		t.Errorf("too few of a kind: %v", found)
	}
}

// P4.1: each function refuses what is not raw, or too large, as the chapter says.
func TestNoTerms(t *testing.T) {
	z, one := con("z"), fn(nat, nat)
	for what, x := range noTerms() {
		if x.e == api.OK {
			continue
		}
		bad := x.t
		results := map[string]func() (any, api.Errno){
			"Shift":  func() (any, api.Errno) { return two(term.Shift(bad, -1, -1)) },
			"Lift":   func() (any, api.Errno) { return two(term.Lift(bad, -1, -1)) },
			"Subst":  func() (any, api.Errno) { return two(term.Subst(bad, z)) },
			"into":   func() (any, api.Errno) { return two(term.Subst(z, bad)) },
			"Apply":  func() (any, api.Errno) { return two(term.Apply(bad, slices.Repeat([]api.Term{z}, 9))) },
			"to":     func() (any, api.Errno) { return two(term.Apply(lam(z), []api.Term{z, bad, {}})) },
			"Put":    func() (any, api.Errno) { return two(term.Put(bad, slices.Repeat([]api.Term{z}, 2001))) },
			"of":     func() (any, api.Errno) { return two(term.Put(z, []api.Term{z, bad, {}})) },
			"Eta":    func() (any, api.Errno) { return two(term.Eta(bad, base("->"))) },
			"Check":  func() (any, api.Errno) { return nil, term.Check(program(), nil, nil, bad, base("x")) },
			"Typed":  func() (any, api.Errno) { return nil, term.Typed(program(), api.Scope{Vars: []api.Type{{}}}, bad, one) },
			"Closed": func() (any, api.Errno) { return nil, choose(term.Closed(bad), api.OK, x.e) },
			"Occurs": func() (any, api.Errno) { return nil, choose(term.Occurs(bad, 0), api.OK, x.e) },
			"Same":   func() (any, api.Errno) { return nil, choose(term.Same(bad, bad), api.OK, x.e) },
			"Text":   func() (any, api.Errno) { return nil, choose(term.Text(bad) != "", api.OK, x.e) },
			"Vars":   func() (any, api.Errno) { return nil, choose(len(term.Vars(bad))+len(term.Pars(bad)) > 0, api.OK, x.e) },
		}
		for name, call := range results {
			got, e := call()
			if e != x.e || got != nil && !reflect.DeepEqual(got, api.Term{}) {
				t.Errorf("%v of %v: %v, %v; expected %v", name, what, got, e, x.e)
			}
		}
		if a, b, c := term.Compare(bad, z), term.Compare(z, bad), term.Compare(bad, api.Term{Kind: 7}); a != -1 || b != 1 || c != 0 {
			t.Errorf("Compare of %v: %v, %v, %v", what, a, b, c)
		}
		if term.Same(bad, z) || term.Same(z, bad) {
			t.Errorf("%v is the same as another term", what)
		}
	}
}

func two(t api.Term, e api.Errno) (any, api.Errno) { return t, e }

func choose[T any](is bool, yes, no T) T {
	if is {
		return yes
	}
	return no
}

// P4.1: the size and the depth of any term.
func TestSizeDepth(t *testing.T) {
	for what, x := range map[string]struct {
		t           api.Term
		size, depth int
	}{
		"no term":                     {api.Term{}, 1, 1},
		"a term":                      {con("f", lam(bound(0)), con("z")), 4, 3},
		"no term with Args":           {api.Term{Kind: 9, Args: []api.Term{{}, {Args: []api.Term{{}}}}}, 4, 3},
		"4000 nodes":                  {ofSize(4000), 4000, 5},
		"4001 nodes":                  {ofSize(4001), 4001, 5},
		"5000 nodes":                  {ofSize(5000), 4001, 6},
		"a million nodes":             {ofSize(1000000), 4001, 8},
		"100 levels":                  {ofDepth(100), 100, 100},
		"101 levels":                  {ofDepth(101), 101, 101},
		"102 levels":                  {ofDepth(102), 101, 101},
		"too deep behind what is not": {con("f", ofSize(5000), ofDepth(100)), 4001, 101},
		"deep behind what is not":     {con("f", ofSize(5000), ofDepth(99)), 4001, 100},
		"a term within itself":        {endless(1), 101, 101},
		"terms within themselves":     {endless(5), 4001, 101},
		"a term that shares":          {shared(70), 4001, 71},
		"one that shares more":        {con("s", shared(99)), 4001, 101},
	} {
		if a, b := term.Size(x.t), term.Depth(x.t); a != x.size || b != x.depth {
			t.Errorf("%v: %v, %v; expected %v, %v", what, a, b, x.size, x.depth)
		}
	}
	m := newMaker(2)
	for range 5000 {
		x := m.anything(m.Intn(6))
		all := levels(x, argsOf)
		if a, b := term.Size(x), term.Depth(x); a != len(slices.Concat(all...)) || b != len(all) {
			t.Fatalf("%v: %v, %v", x, a, b)
		}
	}
}

// P4.1: what occurs in a term, and in which order.
func TestOccurs(t *testing.T) {
	x := read(t, `f ( V2 P1 ( V7 P1 ) ) ( \ . V0 B1 ( P0 V2 ) ) P100000`)
	if got := term.Vars(x); !slices.Equal(got, []int{2, 7, 0}) {
		t.Errorf("Vars = %v", got)
	}
	if got := term.Pars(x); !slices.Equal(got, []int{1, 0, 100000}) {
		t.Errorf("Pars = %v", got)
	}
	for v, want := range map[int]bool{0: true, 2: true, 7: true, 1: false, 100000: false, -1: false, 1 << 40: false, -1 << 63: false} {
		if term.Occurs(x, v) != want {
			t.Errorf("Occurs(%v) = %v", v, !want)
		}
	}
	for text, want := range map[string]bool{
		"z": true, "P0 V0": true, "B0": false, `\ . B0`: true, `\ . B1`: false, `\ . \ . B1 B0`: true, `\ . \ . B2`: false,
		`\ . B0 ( \ . B1 B0 ) ( \ . B2 )`: false, `f ( \ . B0 ) B0`: false, `\ . f ( \ . B1 ) B0`: true, `\ . B100000`: false,
	} {
		if got := term.Closed(read(t, text)); got != want {
			t.Errorf("Closed(%v) = %v", text, got)
		}
	}
	if len(term.Vars(con("z"))) > 0 || len(term.Pars(bound(1))) > 0 {
		t.Error("variables of a term without any")
	}
}

// noTypes are types that are not formed, and their errors.
func noTypes() map[string]struct {
	ty api.Type
	e  api.Errno
} {
	type row = struct {
		ty api.Type
		e  api.Errno
	}
	deep := nat
	for range 99 {
		deep = fn(nat, deep)
	}
	unformed := api.Type{Name: "->", Args: slices.Repeat([]api.Type{nat}, 4000)}
	last := fn(slices.Repeat([]api.Type{nat}, 100)...)
	at := &last
	for len(at.Args) > 0 {
		at = &at.Args[1]
	}
	at.Args = []api.Type{sharedType(20)} // below the level 101
	return map[string]row{
		"an arrow of none":           {base("->"), api.ErrForm},
		"an arrow of one":            {api.Type{Name: "->", Args: []api.Type{nat}}, api.ErrForm},
		"an arrow of three":          {api.Type{Name: "->", Args: []api.Type{nat, nat, nat}}, api.ErrForm},
		"a base type of one":         {api.Type{Name: "nat", Args: []api.Type{nat}}, api.ErrForm},
		"a base type of two":         {api.Type{Name: "nat", Args: []api.Type{nat, nat}}, api.ErrForm},
		"what is none within":        {fn(nat, fn(base("->"), nat), nat), api.ErrForm},
		"what is none as the result": {fn(nat, api.Type{Args: []api.Type{nat}}), api.ErrForm},
		"no type, ahead of a base":   {fn(base("x"), base("->")), api.ErrForm},
		"101 levels":                 {fn(nat, deep), api.ErrDeep},
		"101 levels on the left":     {fn(deep, nat), api.ErrDeep},
		"101 levels, not formed":     {fn(base("->"), deep), api.ErrDeep},
		"2047 nodes":                 {sharedType(10), api.OK},
		"4095 nodes":                 {sharedType(11), api.ErrLong},
		"many nodes":                 {sharedType(95), api.ErrLong},
		"too many nodes and levels":  {fn(deep, sharedType(11)), api.ErrLong},
		"4001 nodes, not formed":     {unformed, api.ErrLong},
		"a type within itself":       {api.Type{Name: "->", Args: []api.Type{nat, endlessType(1)}}, api.ErrDeep},
		"types within themselves":    {endlessType(2), api.ErrLong},
		"nodes below many levels":    {last, api.ErrDeep},
		"100 levels":                 {deep, api.OK},
		"a type without name":        {api.Type{}, api.OK},
	}
}

// P4.1: which types are valid.
func TestCheckType(t *testing.T) {
	p := program()
	for what, x := range noTypes() {
		want := x.e
		if want == api.OK {
			want = typeErrorOf(p, x.ty)
		}
		if e := term.CheckType(p, x.ty); e != want || typeErrorOf(p, x.ty) != want {
			t.Errorf("%v: %v, %v by words; expected %v", what, e, typeErrorOf(p, x.ty), want)
		}
	}
	for _, x := range []struct {
		ty api.Type
		e  api.Errno
	}{
		{nat, api.OK}, {fn(fn(nat, thing), nat), api.OK}, {base("Nat"), api.ErrBase}, {api.Type{}, api.ErrBase}, {fn(nat, base("s")), api.ErrBase},
		{fn(slices.Repeat([]api.Type{nat}, 100)...), api.OK}, {fn(slices.Repeat([]api.Type{nat}, 101)...), api.ErrDeep}, {fn(fn(base("j"), nat), nat), api.ErrBase},
	} {
		if e := term.CheckType(p, x.ty); e != x.e {
			t.Errorf("CheckType(%v) = %v; expected %v", x.ty, e, x.e)
		}
	}
	// Whatever the names of a program are, an arrow is no base type.
	odd := api.Program{Types: []string{"->", "", "\xff", "nat", "nat"}}
	for ty, want := range map[string]api.Errno{"->": api.ErrForm, "": api.OK, "\xff": api.OK, "nat": api.OK, "i": api.ErrBase} {
		if e := term.CheckType(odd, base(ty)); e != want {
			t.Errorf("CheckType(%q) = %v; expected %v", ty, e, want)
		}
	}
	// 3999 nodes are the most that a formed type has.
	most := fn(slices.Repeat([]api.Type{sharedType(5)}, 62)...) // 62 * 63 + 61 = 3967 nodes
	most = fn(slices.Concat(slices.Repeat([]api.Type{nat}, 16), []api.Type{most})...)
	if e := term.CheckType(p, most); e != api.OK {
		t.Errorf("a type of 3999 nodes: %v", e)
	}
	if e := term.CheckType(p, fn(nat, most)); e != api.ErrLong {
		t.Errorf("a type of 4001 nodes: %v", e)
	}
	for _, list := range [][]api.Type{slices.Repeat([]api.Type{nat}, 3999), slices.Repeat([]api.Type{nat}, 4000)} {
		x := api.Type{Name: "->", Args: list}
		if e := term.CheckType(p, x); e != choose(len(list) < 4000, api.ErrForm, api.ErrLong) {
			t.Errorf("%v types in an arrow: %v", len(list), e)
		}
	}
}

// P4.1: the parts of types, which types are the same, and types made of parts.
func TestTypeParts(t *testing.T) {
	for _, x := range append(someTypes(), fn(base("j"), base("k")), base(""), fn(slices.Repeat([]api.Type{nat}, 100)...)) {
		args, res := parts(x)
		a, r := term.Parts(x)
		if r != res || len(a) != len(args) || term.Arity(x) != len(args) || len(args) > 0 && !reflect.DeepEqual(a, args) {
			t.Errorf("Parts(%v) = %v, %v; Arity %v", x, a, r, term.Arity(x))
		}
		if got := term.Arrow(a, r); !reflect.DeepEqual(got, x) {
			t.Errorf("Arrow(%v, %v) = %v", a, r, got)
		}
		for _, y := range append(someTypes(), fn(base("j"), base("k")), base("")) {
			if got := term.SameType(x, y); got != reflect.DeepEqual(x, y) {
				t.Errorf("SameType(%v, %v) = %v", x, y, got)
			}
		}
	}
	if !term.SameType(nat, api.Type{Name: "nat", Args: []api.Type{}}) || term.SameType(fn(nat, nat, nat), fn(fn(nat, nat), nat)) {
		t.Error("SameType")
	}
	for what, x := range noTypes() {
		a, r := term.Parts(x.ty)
		if x.e == api.OK {
			if !term.SameType(x.ty, x.ty) {
				t.Errorf("%v is not the same", what)
			}
		} else if len(a) > 0 || r != "" || term.Arity(x.ty) != 0 || term.SameType(x.ty, x.ty) || term.SameType(nat, x.ty) || term.SameType(x.ty, nat) {
			t.Errorf("%v: %v, %v, %v", what, a, r, term.Arity(x.ty))
		}
	}
}

// P4.1: types are made of whatever is given.
func TestArrow(t *testing.T) {
	odd := api.Type{Name: "x", Args: []api.Type{base("->")}}
	if got := term.Arrow([]api.Type{odd, nat}, "->"); !reflect.DeepEqual(got, fn(odd, nat, base("->"))) {
		t.Errorf("Arrow = %v", got)
	}
	if got := term.Arrow(nil, ""); !reflect.DeepEqual(got, api.Type{}) {
		t.Errorf("Arrow of nothing = %v", got)
	}
	long := term.Arrow(slices.Repeat([]api.Type{nat}, 5000), "i")
	count := 0
	for ; long.Name == "->"; long = long.Args[1] {
		count++
	}
	if count != 5000 || long.Name != "i" {
		t.Errorf("Arrow of 5000 types has %v, and the result %v", count, long.Name)
	}
	deep := nat
	for range 1000 {
		deep = fn(deep, nat)
	}
	if got := term.Arrow([]api.Type{deep}, "i"); !reflect.DeepEqual(got, fn(deep, thing)) {
		t.Error("Arrow of a type of many levels")
	}
	if got := term.Arrow([]api.Type{sharedType(15)}, "i"); !reflect.DeepEqual(got, fn(sharedType(15), thing)) {
		t.Error("Arrow of a type of many nodes")
	}
	// Of what has no end there is no copy: it is enough that there is an end to the call.
	term.Arrow([]api.Type{endlessType(1)}, "i")
	term.Arrow([]api.Type{nat, endlessType(2)}, "i")
	term.Arrow([]api.Type{sharedType(90)}, "i")
}

// P4.1: which terms are canonical, of which type, in which scope.
func TestTyped(t *testing.T) {
	p := program()
	one := fn(nat, nat)
	pars, in := []api.Type{nat, one}, []api.Type{fn(one, nat), nat}
	for _, x := range []struct {
		text string
		ty   api.Type
		e    api.Errno
	}{
		{"z", nat, api.OK}, {"z", thing, api.ErrTyped}, {"z z", nat, api.ErrTyped}, {"s", one, api.ErrTyped}, {`\ . s B0`, one, api.OK}, {`\ . s B0`, nat, api.ErrTyped},
		{`\ . s`, one, api.ErrTyped}, {`\ . \ . B0`, one, api.ErrTyped}, {"s z z", nat, api.ErrTyped}, {"f z", nat, api.ErrTyped}, {"f z c", nat, api.ErrTyped},
		{"g c z", thing, api.OK}, {"g z c", thing, api.ErrTyped}, {"P0", nat, api.OK}, {"P1", one, api.ErrTyped}, {"P1 P0", nat, api.OK}, {"P2", nat, api.ErrTyped},
		{"B0", nat, api.OK}, {"B1", nat, api.ErrTyped}, {`B1 ( \ . B0 )`, nat, api.OK}, {`B1 ( \ . B1 )`, nat, api.OK}, {`B1 ( \ . B2 )`, nat, api.ErrTyped}, {"B1 s", nat, api.ErrTyped},
		{"B2", nat, api.ErrTyped}, {"V0", nat, api.ErrTyped}, {"q", nat, api.ErrTyped}, {`h ( \ . B0 z )`, thing, api.ErrTyped}, {`h ( \ . lam ( \ . f B0 B2 ) )`, thing, api.OK},
		{"P100000", nat, api.ErrTyped}, {"B100000", nat, api.ErrTyped},
	} {
		if e := term.Check(p, pars, in, read(t, x.text), x.ty); e != x.e {
			t.Errorf("Check(%s) = %v; expected %v", x.text, e, x.e)
		}
	}
	s := api.Scope{Vars: []api.Type{one, nat}, Pars: []api.Type{nat}, Bound: in}
	for text, e := range map[string]api.Errno{"V0 ( V0 V1 )": api.OK, `V0 ( B1 ( \ . V0 P0 ) )`: api.OK, "V0": api.ErrTyped, "V1 z": api.ErrTyped, "V2": api.ErrTyped, "P1": api.ErrTyped} {
		if got := term.Typed(p, s, read(t, text), nat); got != e {
			t.Errorf("Typed(%s) = %v; expected %v", text, got, e)
		}
	}
}

// P4.1: the first constant with a name tells its type, which has to be valid.
func TestConstants(t *testing.T) {
	p := api.Program{Types: []string{"nat", "i", "nat"}, Consts: []api.Const{
		{Name: "a", Type: nat}, {Name: "a", Type: thing}, {Name: "b", Type: base("j")}, {Name: "b", Type: nat}, {Name: "d", Type: fn(fn(base("j"), nat), nat)}, {Name: "e", Type: base("->")},
		{Name: "l", Type: fn(slices.Repeat([]api.Type{nat}, 9)...)}, {Name: "n", Type: fn(slices.Repeat([]api.Type{nat}, 10)...)}, {Name: "w", Type: fn(sharedType(11), nat)}, {Name: "", Type: nat},
	}}
	z := con("a")
	for what, x := range map[string]struct {
		t  api.Term
		ty api.Type
		e  api.Errno
	}{
		"the first one":              {con("a"), nat, api.OK},
		"the second one":             {con("a"), thing, api.ErrTyped},
		"no valid base":              {con("b"), nat, api.ErrTyped},
		"no valid type":              {con("d", lam(con("a"))), nat, api.ErrTyped},
		"no formed type":             {con("e"), nat, api.ErrTyped},
		"as many Args as there are":  {con("l", z, z, z, z, z, z, z, z), nat, api.OK},
		"more than there can be":     {con("n", z, z, z, z, z, z, z, z), nat, api.ErrTyped},
		"a type that is too large":   {con("w", lam(con("a"))), nat, api.ErrTyped},
		"an unknown one":             {con("x"), nat, api.ErrTyped},
		"a type that is none of it":  {con("a"), base("j"), api.ErrBase},
		"what is none, of no type":   {con(""), base("->"), api.ErrForm},
		"a type that is not formed":  {con("a"), base("->"), api.ErrForm},
		"one with too many levels":   {con("a"), fn(slices.Repeat([]api.Type{nat}, 101)...), api.ErrDeep},
		"one with too many nodes":    {con("a"), sharedType(11), api.ErrLong},
		"a lambda of a constant":     {lam(con("a")), fn(base("i"), nat), api.OK},
		"a lambda of an unknown one": {lam(con("y")), fn(base("i"), nat), api.ErrTyped},
	} {
		if e := term.Check(p, nil, nil, x.t, x.ty); e != x.e {
			t.Errorf("%v: %v; expected %v", what, e, x.e)
		}
	}
}

// P4.1: errors of Typed come in the order of its arguments.
func TestTypedOrder(t *testing.T) {
	p := program()
	j, form, deep, long := base("j"), base("->"), fn(slices.Repeat([]api.Type{nat}, 101)...), sharedType(11)
	list := func(t ...api.Type) []api.Type { return t }
	for i, x := range []struct {
		s  api.Scope
		ty api.Type
		e  api.Errno
	}{
		{api.Scope{Vars: list(nat, j, form), Pars: list(deep), Bound: list(long)}, form, api.ErrBase},
		{api.Scope{Vars: list(nat, form, j), Pars: list(deep), Bound: list(long)}, form, api.ErrForm},
		{api.Scope{Vars: list(nat), Pars: list(deep, j), Bound: list(long)}, form, api.ErrDeep},
		{api.Scope{Vars: list(nat), Pars: list(nat), Bound: list(long, j)}, form, api.ErrLong},
		{api.Scope{Vars: list(nat), Pars: list(nat), Bound: list(nat)}, j, api.ErrBase},
		{api.Scope{Vars: list(nat), Pars: list(nat), Bound: list(nat)}, thing, api.ErrTyped},
		{api.Scope{Vars: slices.Repeat(list(nat), 5000)}, nat, api.OK},
	} {
		if e := term.Typed(p, x.s, con("z"), x.ty); e != x.e {
			t.Errorf("row %v: %v; expected %v", i, e, x.e)
		}
		if i > 1 {
			if e := term.Check(p, x.s.Pars, x.s.Bound, con("z"), x.ty); e != x.e {
				t.Errorf("row %v: Check %v; expected %v", i, e, x.e)
			}
		}
	}
}

// P4.1: terms that are canonical, and such with something changed, held against the definition.
func TestTypedAll(t *testing.T) {
	p, m := program(), newMaker(3)
	found := map[api.Errno]int{}
	for range 30000 {
		s, ty := m.scope(), pick(m, someTypes())
		x := m.typed(p, s, ty, m.Intn(4))
		if m.Intn(3) > 0 {
			at := &x
			for len(at.Args) > 0 && m.Intn(3) > 0 {
				at = &at.Args[m.Intn(len(at.Args))]
			}
			switch m.Intn(4) {
			case 0:
				*at = m.raw(1, 2)
			case 1:
				*at = m.typed(p, s, pick(m, someTypes()), 1)
			case 2:
				at.N += m.Intn(2)
			case 3:
				at.Args = at.Args[:max(len(at.Args)-1, 0)]
			}
		}
		switch m.Intn(40) {
		case 0:
			s.Pars = append(s.Pars, base("j"))
		case 1:
			ty = fn(ty, base("->"))
		}
		want := typedErrorOf(p, s, x, ty)
		if e := term.Typed(p, s, x, ty); e != want {
			t.Fatalf("Typed(%v, %v, %v) = %v; expected %v", s, x, ty, e, want)
		}
		found[want]++
	}
	if found[api.OK] < 8000 || found[api.ErrTyped] < 8000 || found[api.ErrForm] < 500 || found[api.ErrBase] < 500 {
		t.Errorf("too few of a kind: %v", found)
	}
}

// P4.1: arguments are not written, also if there is room behind a list.
func TestArgumentsKept(t *testing.T) {
	p := program()
	room := make([]api.Type, 1, 8)
	room[0] = nat
	term.Check(p, nil, room, read(t, `\ . f B0 B1`), fn(nat, nat))
	if got := room[:2][1]; !reflect.DeepEqual(got, api.Type{}) {
		t.Errorf("Check wrote %v behind the bound variables", got)
	}
	x, s := read(t, `\ . f ( B1 z ) ( V0 B2 )`), read(t, `\ . s ( B0 P3 ) B1`)
	a, b := textOf(x), textOf(s)
	one := fn(nat, nat)
	results := []api.Term{}
	for _, call := range []func() (api.Term, api.Errno){
		func() (api.Term, api.Errno) { return term.Subst(x, s) },
		func() (api.Term, api.Errno) { return term.Apply(x, []api.Term{s, x}) },
		func() (api.Term, api.Errno) { return term.Apply(x, nil) },
		func() (api.Term, api.Errno) { return term.Put(x, []api.Term{s}) },
		func() (api.Term, api.Errno) { return term.Put(x, nil) },
		func() (api.Term, api.Errno) { return term.Subst(con("f", bound(0), bound(0)), x) },
		func() (api.Term, api.Errno) { return term.Shift(x, 3, 0) },
		func() (api.Term, api.Errno) { return term.Shift(x, 0, 0) },
		func() (api.Term, api.Errno) { return term.Lift(s, 3, 0) },
		func() (api.Term, api.Errno) { return term.Eta(bound(2), fn(one, one, nat)) },
	} {
		y, e := call()
		if e != api.OK {
			t.Fatalf("an error %v", e)
		}
		results = append(results, y)
	}
	texts := []string{}
	for _, y := range results {
		texts = append(texts, textOf(y))
	}
	for i := range results {
		spoil(&results[i])
		for k := range results[i+1:] {
			if k += i + 1; textOf(results[k]) != texts[k] {
				t.Errorf("the results %v and %v share memory", i, k)
			}
		}
	}
	if textOf(x) != a || textOf(s) != b {
		t.Error("a result shares memory with an argument")
	}
	ty := fn(one, nat, thing)
	args, _ := term.Parts(ty)
	whole := term.Arrow([]api.Type{one, one}, "nat")
	args[0].Args[0].Name, whole.Args[0].Args[0].Name = "x", "y"
	if !reflect.DeepEqual(ty, fn(fn(nat, nat), nat, thing)) || !reflect.DeepEqual(whole.Args[1].Args[0], fn(nat, nat)) {
		t.Error("types share memory")
	}
}

// spoil changes each node of a term; parts that stand in it twice would be changed twice.
func spoil(t *api.Term) {
	if t.Name == "spoilt" {
		panic("a result has a part in two places")
	}
	t.Name = "spoilt"
	for i := range t.Args {
		spoil(&t.Args[i])
	}
}
