package unify_test

import (
	"reflect"
	"slices"
	"strings"
	"testing"

	"peculium/api"
	"peculium/term"
	"peculium/unify"
)

// P5.1: the rows of the chapter's examples.
func TestExamples(t *testing.T) {
	for _, x := range []struct{ a, b, want string }{
		{`\ . \ . V0 B1 B0`, `\ . \ . f B1`, `\ . \ . f B1, \ . P0 B0`},
		{`\ . \ . V0 B1 B0`, `\ . \ . V0 B0 B1`, `\ . \ . P0, \ . P1 B0`},
		{`\ . \ . V0 B1 B0`, `\ . \ . g ( V1 B0 )`, `\ . \ . g ( P0 B0 ), \ . P0 B0`},
		{`\ . V1 B0`, `\ . f ( V1 B0 )`, "none"},
		{`\ . \ . V1 B1`, `\ . \ . f B0`, "none"},
		{`\ . \ . V1 B1`, `\ . \ . V0 B0 B1`, `\ . \ . P0 B0, \ . P0 B0`},
	} {
		for _, y := range [][2]string{{x.a, x.b}, {x.b, x.a}} {
			s, is := solved(t, sample(), read(y[0]), read(y[1]))
			got := "none"
			if is {
				l, _, _ := unify.Least(s, 0, reads(`\ . \ . V0 B1 B0`, `\ . V1 B0`))
				got = texts(l)
			}
			if got != x.want {
				t.Errorf("Unify(%v, %v): %v; expected %v", y[0], y[1], got, x.want)
			}
		}
	}
	s, _ := solved(t, sample(), read(`\ . \ . V1 B1`), read(`\ . \ . V0 B0 B1`))
	if _, types, _ := unify.Least(s, 0, reads(`\ . \ . V0 B1 B0`, `\ . V1 B0`)); !reflect.DeepEqual(types, []api.Type{vt("i i")}) {
		t.Errorf("types of Least: %v", types)
	}
	for level, want := range []bool{false, true} {
		s, n, _ := unify.Fresh(store(), level, vt("i"))
		if _, is := solved(t, s, api.Term{Kind: api.TmVar, N: n}, read("P0")); is != want {
			t.Errorf("the parameter 0 at the Level %v: %v", level, is)
		}
	}
	for _, x := range []string{"V1 c", `\ . V0 B0 B0`} {
		if e := unify.Fits(sample(), read(x)); e != api.ErrForm {
			t.Errorf("Fits(%v) = %v", x, e)
		}
	}
}

// values returns a store whose values have so many parts together.
func values(n int) api.Store {
	return store(open(0, "i"), api.Val{Type: vt("i"), Is: true, T: ofSize(n - 10)}, known(0, `\ . \ . f B1 B0 c d c d c`))
}

// manyArgs is a type with so many arguments.
func manyArgs(n int) api.Type { return vt(strings.Repeat("i ", n) + "i") }

// is is a variable of the Level 0 and the type i with a value.
func is(t api.Term) api.Val { return api.Val{Type: vt("i"), Is: true, T: t} }

// stores are stores that are valid, and stores that are not, with their errors.
func stores() map[string]struct {
	s api.Store
	e api.Errno
} {
	type row = struct {
		s api.Store
		e api.Errno
	}
	name := strings.Repeat("n", 40)
	of := func(ty api.Type) api.Store { return store(api.Val{Type: ty}) }
	level := func(n int) api.Store { return store(api.Val{Level: n, Type: vt("i")}) }
	endlessType := api.Type{Name: "->", Args: []api.Type{vt("i"), {}}}
	endlessType.Args[1] = endlessType
	endlessLeft := api.Type{Name: "->", Args: []api.Type{{}, vt("i")}}
	endlessLeft.Args[0] = endlessLeft
	return map[string]row{
		"no variables":                        {store(), api.OK},
		"the chapter's":                       {sample(), api.OK},
		"2000 variables":                      {store(slices.Repeat(sample().Vals, 1000)...), api.OK},
		"2001 variables":                      {store(slices.Repeat([]api.Val{open(0, "i")}, 2001)...), api.ErrLong},
		"2001 zero values":                    {api.Store{Vals: make([]api.Val, 2001)}, api.ErrLong},
		"values with 4000 parts":              {values(4000), api.OK},
		"values with 4001 parts":              {values(4001), api.ErrLong},
		"too long ahead of what is wrong":     {store(is(ofSize(4001)), api.Val{Level: -1}), api.ErrLong},
		"a long T that is none":               {store(api.Val{Type: vt("i"), T: ofSize(4001)}), api.ErrStore},
		"an endless T that is none":           {store(api.Val{Type: vt("i"), T: endless(2)}), api.ErrStore},
		"an endless value":                    {store(is(endless(1))), api.ErrLong},
		"a wide endless value":                {store(is(endless(8))), api.ErrLong},
		"a value that shares":                 {store(is(shared(90))), api.ErrLong},
		"a Level below 0":                     {level(-1), api.ErrStore},
		"the Level 60":                        {level(60), api.OK},
		"the Level 61":                        {level(61), api.ErrStore},
		"a huge Level":                        {level(1 << 62), api.ErrStore},
		"the least Level":                     {level(-1 << 63), api.ErrStore},
		"no type":                             {of(api.Type{}), api.ErrStore},
		"a name of 40 bytes":                  {of(vt(name + " " + name)), api.OK},
		"a result's name of 41 bytes":         {of(vt("i n" + name)), api.ErrStore},
		"an argument's name of 41 bytes":      {of(vt("n" + name + " i")), api.ErrStore},
		"an argument without name":            {of(arrow(api.Type{}, vt("i"))), api.ErrStore},
		"a result without name":               {of(arrow(vt("i"), api.Type{})), api.ErrStore},
		"names that are none of a text":       {of(vt("\xff% o-")), api.OK},
		"8 arguments":                         {of(manyArgs(8)), api.OK},
		"9 arguments":                         {of(manyArgs(9)), api.ErrStore},
		"an argument of a function":           {of(arrow(vt("i i"), vt("i"))), api.ErrStore},
		"a base type with Args":               {of(api.Type{Name: "i", Args: []api.Type{vt("i")}}), api.ErrStore},
		"an arrow without Args":               {of(api.Type{Name: "->"}), api.ErrStore},
		"an arrow of one":                     {of(api.Type{Name: "->", Args: []api.Type{vt("i")}}), api.ErrStore},
		"an arrow of three":                   {of(api.Type{Name: "->", Args: []api.Type{vt("i"), vt("i"), vt("i")}}), api.ErrStore},
		"a type without end":                  {of(endlessType), api.ErrStore},
		"an argument without end":             {of(endlessLeft), api.ErrStore},
		"a T without Is":                      {store(api.Val{Type: vt("i"), T: con("c")}), api.ErrStore},
		"an N without Is":                     {store(api.Val{Type: vt("i"), T: api.Term{N: 1}}), api.ErrStore},
		"Args without Is":                     {store(api.Val{Type: vt("i"), T: api.Term{Args: []api.Term{con("c")}}}), api.ErrStore},
		"an empty T":                          {store(api.Val{Type: vt("i"), T: api.Term{Args: []api.Term{}}}), api.OK},
		"a value that is none":                {store(is(api.Term{})), api.ErrStore},
		"a value":                             {store(known(0, `\ . \ . f B1 B0`)), api.OK},
		"a lambda more":                       {store(is(read(`\ . c`))), api.ErrStore},
		"a lambda less":                       {store(api.Val{Type: vt("i i i"), Is: true, T: read(`\ . c`)}), api.ErrStore},
		"a numbered lambda":                   {store(api.Val{Type: vt("i i"), Is: true, T: api.Term{Kind: api.TmLam, N: 1, Args: reads("c")}}), api.ErrStore},
		"a named lambda":                      {store(api.Val{Type: vt("i i"), Is: true, T: api.Term{Kind: api.TmLam, Name: "x", Args: reads("c")}}), api.ErrStore},
		"a lambda with two bodies":            {store(api.Val{Type: vt("i i"), Is: true, T: api.Term{Kind: api.TmLam, Args: reads("c", "c")}}), api.ErrStore},
		"a bound variable that is free":       {store(known(0, `\ . B1`)), api.ErrStore},
		"a bound variable with Args":          {store(known(0, `\ . B0 c ( \ . B1 )`)), api.OK},
		"a parameter below the Level":         {store(known(3, `\ . f P2`)), api.OK},
		"a parameter at the Level":            {store(known(3, `\ . f P3`)), api.ErrStore},
		"a parameter in Args below the Level": {store(known(3, `\ . V1 P2`), open(2, "i i")), api.OK},
		"a parameter in Args at the Level":    {store(known(3, `\ . V1 P3`), open(2, "i i")), api.ErrStore},
		"a parameter in Args too low":         {store(known(3, `\ . V1 P1`), open(2, "i i")), api.ErrStore},
		"a variable of the same Level":        {store(known(3, "V1"), open(3, "i")), api.OK},
		"a variable of a greater Level":       {store(known(3, "V1"), open(4, "i")), api.ErrStore},
		"one with a value":                    {store(known(3, "V1"), known(4, "c")), api.ErrStore},
		"a variable that is not there":        {store(known(0, "V2"), open(0, "i")), api.ErrStore},
		"a variable without Args":             {store(known(0, `\ . V1`), open(0, "i i")), api.ErrStore},
		"a variable applied to a term":        {store(known(0, "V1 c"), open(0, "i i")), api.ErrStore},
		"100 levels":                          {store(is(ofDepth(100))), api.OK},
		"101 levels":                          {store(is(ofDepth(101))), api.ErrStore},
		"100 levels within lambdas":           {store(api.Val{Type: manyArgs(8), Is: true, T: lams(8, ofDepth(100))}), api.OK},
		"101 levels within lambdas":           {store(api.Val{Type: manyArgs(8), Is: true, T: lams(8, ofDepth(101))}), api.ErrStore},
		"a variable within itself":            {store(known(0, "f V0")), api.ErrStore},
		"a variable that is itself":           {store(known(0, "V0")), api.ErrStore},
		"a circle":                            {store(known(0, "f V1"), open(0, "i"), known(0, "g V3 c"), known(0, "f V4"), known(0, "V2")), api.ErrStore},
		"no circle":                           {store(known(0, "f V1"), known(0, "g V2 V2"), open(0, "i"), known(0, "f V0 V1 V2")), api.OK},
	}
}

// P5.1: which stores are valid; a term fits none that is not.
func TestCheck(t *testing.T) {
	for what, x := range stores() {
		if e := unify.Check(x.s); e != x.e {
			t.Errorf("Check of %v: %v; expected %v", what, e, x.e)
		}
		if e := unify.Fits(x.s, con("c")); e != x.e {
			t.Errorf("Fits to %v: %v; expected %v", what, e, x.e)
		}
	}
	found := map[api.Errno]int{}
	testAll(t, 11, 20000, func(t *testing.T, m maker) {
		s := m.valued(m.store(4))
		for range 1 + m.Intn(2) {
			m.damage(&s)
		}
		want := errorOf(s)
		if e := unify.Check(s); e != want {
			t.Fatalf("Check(%v) = %v; expected %v", s, e, want)
		}
		found[want]++
	})
	if found[api.OK] < 2000 || found[api.ErrStore] < 2000 {
		t.Errorf("too few of a kind: %v", found)
	}
}

// damage changes something of a store.
func (m maker) damage(s *api.Store) {
	x := &s.Vals[m.Intn(len(s.Vals))]
	switch m.Intn(4) {
	case 0:
		x.Level = m.Intn(pars + 2)
	case 1:
		*x = api.Val{Level: x.Level, Type: x.Type}
	default:
		if x.Is {
			x.T = m.damaged(x.T)
		}
	}
}

// damaged changes something of a term.
func (m maker) damaged(t api.Term) api.Term {
	if len(t.Args) > 0 && m.Intn(4) > 0 {
		i := m.Intn(len(t.Args))
		t.Args = slices.Clone(t.Args)
		t.Args[i] = m.damaged(t.Args[i])
		return t
	}
	switch m.Intn(5) {
	case 0:
		t.N = m.Intn(5) - 1
	case 1:
		t.Kind = m.Intn(7)
	case 2:
		t.Name = pick(m, []string{"", "c", strings.Repeat("n", 40), strings.Repeat("n", 41)})
	case 3:
		t.Args = append(slices.Clone(t.Args), pick(m, reads("c", "B0", "P0", "P1", "V0", "V1", `\ . B0`)))
	case 4:
		t.Args = slices.Repeat(t.Args, 2)
	}
	return t
}

// P5.1: which terms fit a store.
func TestFits(t *testing.T) {
	s := store(open(0, "i i i"), open(2, "i i"), known(0, `\ . f B0`), open(60, "i"))
	bare := func(kind, n int, name string, args ...api.Term) api.Term {
		return api.Term{Kind: kind, N: n, Name: name, Args: args}
	}
	for what, x := range map[string]struct {
		t api.Term
		e api.Errno
	}{
		"the zero term":                   {api.Term{}, api.ErrForm},
		"a Kind 6":                        {bare(6, 0, ""), api.ErrForm},
		"a Kind -1":                       {bare(-1, 0, "c"), api.ErrForm},
		"a constant":                      {con("c"), api.OK},
		"a constant without name":         {con(""), api.ErrForm},
		"a constant that is no name":      {con("\x00 %"), api.OK},
		"a name of 40 bytes":              {con(strings.Repeat("n", 40)), api.OK},
		"a name of 41 bytes":              {con(strings.Repeat("n", 41)), api.ErrForm},
		"a numbered constant":             {bare(api.TmCon, 1, "c"), api.ErrForm},
		"a bound variable that is free":   {read("B0"), api.ErrForm},
		"a bound variable":                {read(`\ . f ( \ . B1 ( f B0 ) )`), api.OK},
		"one that is free":                {read(`\ . f ( \ . B2 )`), api.ErrForm},
		"one below 0":                     {lams(1, bare(api.TmBound, -1, "")), api.ErrForm},
		"one with a name":                 {lams(1, bare(api.TmBound, 0, "x")), api.ErrForm},
		"the parameter 59":                {read("P59 c"), api.OK},
		"the parameter 60":                {read("P60"), api.ErrForm},
		"a parameter below 0":             {bare(api.TmPar, -1, ""), api.ErrForm},
		"a huge parameter":                {bare(api.TmPar, 1<<62, ""), api.ErrForm},
		"a named parameter":               {bare(api.TmPar, 0, "p"), api.ErrForm},
		"8 Args":                          {con("f", slices.Repeat(reads("c"), 8)...), api.OK},
		"9 Args":                          {con("f", slices.Repeat(reads("c"), 9)...), api.ErrForm},
		"9 Args of a parameter":           {bare(api.TmPar, 0, "", slices.Repeat(reads("c"), 9)...), api.ErrForm},
		"9 Args of a bound variable":      {lams(1, bare(api.TmBound, 0, "", slices.Repeat(reads("c"), 9)...)), api.ErrForm},
		"a lambda without body":           {bare(api.TmLam, 0, ""), api.ErrForm},
		"a lambda with two bodies":        {bare(api.TmLam, 0, "", con("c"), con("c")), api.ErrForm},
		"a numbered lambda":               {bare(api.TmLam, 1, "", con("c")), api.ErrForm},
		"a named lambda":                  {bare(api.TmLam, 0, "x", con("c")), api.ErrForm},
		"what does not fit, within":       {read("f c ( g ( V1 c ) )"), api.ErrForm},
		"a variable":                      {read("V3"), api.OK},
		"the variable 4":                  {read("V4"), api.ErrForm},
		"a variable below 0":              {bare(api.TmVar, -1, ""), api.ErrForm},
		"a huge variable":                 {bare(api.TmVar, 1<<62, ""), api.ErrForm},
		"a named variable":                {bare(api.TmVar, 3, "X"), api.ErrForm},
		"a variable with bound ones":      {read(`\ . \ . V0 B0 B1`), api.OK},
		"a variable with parameters":      {read("V0 P59 P0"), api.OK},
		"a variable with both":            {read(`\ . V0 P0 B0`), api.OK},
		"an Arg less":                     {read("V0 P0"), api.ErrForm},
		"an Arg more":                     {read("V0 P0 P1 P2"), api.ErrForm},
		"no Args":                         {read("V0"), api.ErrForm},
		"an Arg of a variable without":    {read("V3 P59"), api.ErrForm},
		"a parameter at the Level":        {read("V1 P2"), api.OK},
		"a parameter below the Level":     {read("V1 P1"), api.ErrForm},
		"a parameter that is not there":   {read("V1 P60"), api.ErrForm},
		"a constant as an Arg":            {read("V1 c"), api.ErrForm},
		"a variable as an Arg":            {read("V1 V3"), api.ErrForm},
		"a lambda as an Arg":              {read(`V1 ( \ . B0 )`), api.ErrForm},
		"an Arg with Args":                {read("V1 ( P2 c )"), api.ErrForm},
		"a bound Arg with Args":           {read(`\ . V1 ( B0 c )`), api.ErrForm},
		"a free bound variable as an Arg": {read("V1 B0"), api.ErrForm},
		"a named Arg":                     {bare(api.TmVar, 1, "", bare(api.TmPar, 2, "p")), api.ErrForm},
		"the same Args":                   {read(`\ . V0 B0 B0`), api.ErrForm},
		"the same parameters":             {read("V0 P0 P0"), api.ErrForm},
		"the same numbers":                {read(`\ . V0 B0 P0`), api.OK},
		"one with a value":                {read("V2 P0"), api.OK},
		"one with a value, without Args":  {read("V2"), api.ErrForm},
		"one with a value, of a constant": {read("V2 c"), api.ErrForm},
		"4000 parts":                      {ofSize(4000), api.OK},
		"4001 parts":                      {ofSize(4001), api.ErrLong},
		"4000 parts that do not fit":      {con("f", slices.Repeat([]api.Term{{}}, 3999)...), api.ErrForm},
		"4001 parts that do not fit":      {con("f", slices.Repeat([]api.Term{{}}, 4000)...), api.ErrLong},
		"a million parts":                 {ofSize(1000000), api.ErrLong},
		"100 levels":                      {ofDepth(100), api.OK},
		"101 levels":                      {ofDepth(101), api.ErrDeep},
		"100 lambdas":                     {lams(100, con("c")), api.ErrDeep},
		"101 levels that do not fit":      {api.Term{Args: []api.Term{ofDepth(100)}}, api.ErrDeep},
		"4000 parts, 101 levels":          {con("f", ofDepth(100), ofSize(3899)), api.ErrDeep},
		"4001 parts, 101 levels":          {con("f", ofDepth(100), ofSize(3900)), api.ErrLong},
		"4000 levels":                     {ofDepth(4000), api.ErrDeep},
		"4001 levels":                     {ofDepth(4001), api.ErrLong},
		"a term without end":              {endless(1), api.ErrLong},
		"one with many Args":              {endless(1000), api.ErrLong},
		"a term that shares":              {shared(90), api.ErrLong},
	} {
		if e := unify.Fits(s, x.t); e != x.e {
			t.Errorf("%v: %v; expected %v", what, e, x.e)
		}
	}
	found := map[api.Errno]int{}
	testAll(t, 12, 20000, func(t *testing.T, m maker) {
		s := m.valued(m.store(4))
		x := m.damaged(m.closed(s))
		want := api.OK
		if fault(s, x, 0, 60) != "" {
			want = api.ErrForm
		}
		if e := unify.Fits(s, x); e != want {
			t.Fatalf("Fits(%v, %v) = %v; expected %v", s, x, e, want)
		}
		found[want]++
	})
	if found[api.OK] < 2000 || found[api.ErrForm] < 2000 {
		t.Errorf("too few of a kind: %v", found)
	}
}

// P5.1: the arguments of types.
func TestArgs(t *testing.T) {
	endlessType := api.Type{Name: "->", Args: []api.Type{vt("i"), {}}}
	endlessType.Args[1] = endlessType
	for what, x := range map[string]struct {
		ty   api.Type
		want []string
		ok   bool
	}{
		"a base type":               {vt("i"), nil, true},
		"three arguments":           {vt("i j k l"), []string{"i", "j", "k"}, true},
		"8 arguments":               {manyArgs(8), slices.Repeat([]string{"i"}, 8), true},
		"9 arguments":               {manyArgs(9), nil, false},
		"long names":                {vt(strings.Repeat("n", 41) + " i"), []string{strings.Repeat("n", 41)}, true},
		"no name":                   {arrow(api.Type{}, api.Type{}), []string{""}, true},
		"an argument of a function": {arrow(vt("i"), arrow(vt("i i"), vt("i"))), nil, false},
		"an arrow of none":          {api.Type{Name: "->"}, nil, false},
		"an arrow of three":         {api.Type{Name: "->", Args: slices.Repeat([]api.Type{vt("i")}, 3)}, nil, false},
		"an arrow to none":          {arrow(vt("i"), api.Type{Name: "->"}), nil, false},
		"an arrow from none":        {arrow(api.Type{Name: "->"}, vt("i")), nil, false},
		"a base type with Args":     {api.Type{Name: "i", Args: []api.Type{vt("i")}}, nil, false},
		"a result with Args":        {arrow(vt("i"), api.Type{Name: "i", Args: []api.Type{vt("i"), vt("i")}}), nil, false},
		"a type without end":        {endlessType, nil, false},
	} {
		if got, ok := unify.Args(x.ty); !slices.Equal(got, x.want) || ok != x.ok {
			t.Errorf("%v: %v, %v", what, got, ok)
		}
	}
}

// P5.1: a new variable.
func TestFresh(t *testing.T) {
	many := store(slices.Repeat([]api.Val{open(0, "i")}, 2000)...)
	for what, x := range map[string]struct {
		s     api.Store
		level int
		ty    api.Type
		e     api.Errno
	}{
		"the first one":                 {store(), 0, vt("i"), api.OK},
		"a further one":                 {values(4000), 60, vt("j k i"), api.OK},
		"8 arguments":                   {sample(), 7, manyArgs(8), api.OK},
		"the last one":                  {store(many.Vals[1:]...), 0, vt("i"), api.OK},
		"one too many":                  {many, 0, vt("i"), api.ErrLong},
		"one too many, and a Level":     {many, 61, vt("i"), api.ErrArg},
		"too many, and a Level":         {store(append(many.Vals, many.Vals[0])...), 61, vt("i"), api.ErrLong},
		"a store that is not valid":     {store(api.Val{}), 61, vt("i"), api.ErrStore},
		"a Level below 0":               {sample(), -1, vt("i"), api.ErrArg},
		"a Level too high":              {sample(), 61, vt("i"), api.ErrArg},
		"a huge Level":                  {sample(), 1 << 62, vt("i"), api.ErrArg},
		"no name":                       {sample(), 0, api.Type{}, api.ErrArg},
		"a name too long":               {sample(), 0, vt("i " + strings.Repeat("n", 41)), api.ErrArg},
		"9 arguments":                   {sample(), 0, manyArgs(9), api.ErrArg},
		"an argument of a higher order": {sample(), 0, arrow(vt("i i"), vt("i")), api.ErrArg},
	} {
		s, n, e := unify.Fresh(x.s, x.level, x.ty)
		want, number := api.Store{}, 0
		if x.e == api.OK {
			want = store(append(slices.Clone(x.s.Vals), api.Val{Level: x.level, Type: x.ty})...)
			number = len(x.s.Vals)
		}
		if e != x.e || n != number || !sameStore(s, want) {
			t.Errorf("%v: %v, %v", what, n, e)
		}
	}
}

// chain is a store whose variables have values in which twice the one before it stands; the first one has none.
func chain(n int) api.Store {
	s := store(open(0, "i"))
	for k := range n {
		v := api.Term{Kind: api.TmVar, N: k}
		s.Vals = append(s.Vals, is(con("g", v, v)))
	}
	return s
}

// tower is a store whose variables have values in which the one before it stands, one below so many levels.
func tower(n, levels int) api.Store {
	s := store(open(0, "i"))
	for k := range n {
		t := api.Term{Kind: api.TmVar, N: k}
		for range levels {
			t = con("s", t)
		}
		s.Vals = append(s.Vals, is(t))
	}
	return s
}

// P5.1: values, and the variables in them.
func TestValue(t *testing.T) {
	s := store(
		known(0, `\ . \ . f B1 ( \ . B1 B0 ) B0`), // V0
		known(3, "g P2 V2"), open(1, "i"),         // V1, V2
		known(2, `\ . V4 P1 B0`), open(0, "i i i"), // V3, V4
		known(2, `\ . V3 B0`), known(0, `\ . B0 c ( B0 B0 )`), // V5, V6
	)
	for _, x := range []struct {
		a, want string
		free    []int
	}{
		{`f c P5 ( \ . B0 )`, `f c P5 ( \ . B0 )`, nil},
		{`V2`, `V2`, []int{2}},
		{`V1`, `g P2 V2`, []int{2}},
		{`V0 P1 P2`, `f P1 ( \ . P2 B0 ) P2`, nil},
		{`\ . \ . V0 B1 B0`, `\ . \ . f B1 ( \ . B1 B0 ) B0`, nil},
		{`\ . \ . V0 B0 B1`, `\ . \ . f B0 ( \ . B2 B0 ) B1`, nil},
		{`\ . V0 B0 P0`, `\ . f B0 ( \ . P0 B0 ) P0`, nil},
		{`\ . V3 B0`, `\ . V4 P1 B0`, []int{4}},
		{`\ . V5 B0`, `\ . V4 P1 B0`, []int{4}},
		{`V5 P7`, `V4 P1 P7`, []int{4}},
		{`\ . V6 B0`, `\ . B0 c ( B0 B0 )`, nil},
		{`V6 P3`, `P3 c ( P3 P3 )`, nil},
		{`\ . f ( V5 B0 ) ( V4 B0 P0 ) V1 V2`, `\ . f ( V4 P1 B0 ) ( V4 B0 P0 ) ( g P2 V2 ) V2`, []int{4, 2}},
		{`\ . h V1 ( V5 B0 )`, `\ . h ( g P2 V2 ) ( V4 P1 B0 )`, []int{2, 4}},
	} {
		got, e := unify.Value(s, read(x.a))
		if e != api.OK || term.Text(got) != x.want {
			t.Errorf("Value(%v) = %v, %v", x.a, term.Text(got), e)
		}
		if list, f := unify.Free(s, read(x.a)); f != api.OK || !slices.Equal(list, x.free) {
			t.Errorf("Free(%v) = %v, %v", x.a, list, f)
		}
	}
}

// P5.1: values that are too large. Parts are counted ahead of levels.
func TestLargeValues(t *testing.T) {
	deep := tower(50, 2)
	for what, x := range map[string]struct {
		s api.Store
		t api.Term
		e api.Errno
	}{
		"4000 parts":             {store(is(ofSize(3999))), read("f V0"), api.OK},
		"4001 parts":             {store(is(ofSize(4000))), read("f V0"), api.ErrLong},
		"4001 parts of two":      {store(is(ofSize(2000))), read("f V0 V0"), api.ErrLong},
		"3999 parts of two":      {store(is(ofSize(1999))), read("f V0 V0"), api.OK},
		"2047 parts":             {chain(10), read("V10"), api.OK},
		"4095 parts":             {chain(11), read("V11"), api.ErrLong},
		"more than can be made":  {chain(1300), read("V1300"), api.ErrLong},
		"100 levels":             {deep, read("s V49"), api.OK},
		"101 levels":             {deep, read("V50"), api.ErrDeep},
		"101 levels, 4000 parts": {store(is(ofDepth(100)), is(ofSize(3899))), read("f V0 V1"), api.ErrDeep},
		"101 levels, 4001 parts": {store(is(ofDepth(100)), is(ofSize(3899))), read("f V0 V1 c"), api.ErrLong},
		"many levels":            {tower(1999, 1), read("V1999"), api.ErrDeep},
		"4000 levels":            {tower(40, 99), read("V40"), api.ErrDeep},
		"as many parts":          {tower(40, 99), con("f", read("V40"), ofSize(50)), api.ErrLong},
		"values of values":       {aliases(1999), read("V1999"), api.OK},
		"fewer parts than Args":  {store(api.Val{Type: manyArgs(8), Is: true, T: lams(8, con("c"))}), con("f", slices.Repeat([]api.Term{leaf(8)}, 8)...), api.OK},
	} {
		got, e := unify.Value(x.s, x.t)
		if e != x.e || e != api.OK && !sameTerm(got, api.Term{}) {
			t.Errorf("Value of %v: %v; expected %v", what, e, x.e)
		}
		if list, e := unify.Free(x.s, x.t); e != x.e || e != api.OK && len(list) > 0 {
			t.Errorf("Free of %v: %v; expected %v", what, e, x.e)
		}
		if l, types, e := unify.Least(x.s, 0, []api.Term{con("c"), x.t}); e != x.e || e != api.OK && len(l)+len(types) > 0 {
			t.Errorf("Least of %v: %v; expected %v", what, e, x.e)
		}
		if ok, e := unify.Solves(x.s, x.t, x.t); e != x.e || ok != (e == api.OK) {
			t.Errorf("Solves of %v: %v; expected %v", what, e, x.e)
		}
		if ok, e := unify.Solves(x.s, con("c"), x.t); e != x.e || ok {
			t.Errorf("Solves of %v: %v; expected %v", what, e, x.e)
		}
	}
}

// aliases is a store whose variables have the one before it as values; the first one has none.
func aliases(n int) api.Store { return tower(n, 0) }

// leaf is the variable 0 with as many parameters as Args.
func leaf(n int) api.Term {
	t := api.Term{Kind: api.TmVar}
	for k := range n {
		t.Args = append(t.Args, api.Term{Kind: api.TmPar, N: k})
	}
	return t
}

// P5.1: the parameters that stand for variables, and their types.
func TestLeast(t *testing.T) {
	s := store(open(0, "i j k l"), open(0, "j i"), open(2, "m"), known(0, `\ . V1 B0`), open(0, "a b c d e"))
	for _, x := range []struct {
		pars     int
		l        []string
		want, ty string
	}{
		{0, nil, "", ""},
		{7, []string{"c", `\ . f B0`}, `c, \ . f B0`, ""},
		{7, []string{"V2"}, "P7", "m"},
		{59, []string{"V2", "f V2 V2"}, "P59, f P59 P59", "m"},
		{0, []string{`\ . \ . \ . V0 B2 B1 B0`}, `\ . \ . \ . P0 B0 B1 B2`, "k j i l"},
		{0, []string{`\ . \ . \ . V0 B1 B2 B0`, `\ . \ . \ . V0 B0 B1 B2`}, `\ . \ . \ . P0 B0 B1 B2, \ . \ . \ . P0 B2 B0 B1`, "k i j l"},
		{3, []string{`\ . V0 P9 B0 P2`, `V0 P1 P2 P3`}, `\ . P3 B0 P2 P9, P3 P2 P3 P1`, "j k i l"},
		{0, []string{`\ . \ . V4 P5 B1 P0 B0`}, `\ . \ . P0 B0 B1 P0 P5`, "d b c a e"},
		{10, []string{`f V2 ( V1 P3 )`, "V2"}, "f P10 ( P11 P3 ), P10", "m, j i"},
		{10, []string{`f ( V3 P3 ) V2`, "V1 P4"}, "f ( P10 P3 ) P11, P10 P4", "j i, m"},
		{10, []string{`g ( \ . V1 B0 ) ( V1 P0 )`}, `g ( \ . P10 B0 ) ( P10 P0 )`, "j i"},
	} {
		l, types, e := unify.Least(s, x.pars, reads(x.l...))
		var names []string
		for _, ty := range types {
			list, _ := unify.Args(ty)
			for range list {
				ty = ty.Args[1]
			}
			names = append(names, strings.Join(append(list, ty.Name), " "))
		}
		if got := strings.Join(names, ", "); e != api.OK || texts(l) != x.want || got != x.ty {
			t.Errorf("Least(%v, %v) = %v; %v; %v", x.pars, x.l, texts(l), got, e)
		}
	}
}

// P5.1: the errors of Least, one ahead of the other.
func TestLeastErrors(t *testing.T) {
	many := store(slices.Repeat([]api.Val{open(0, "i")}, 61)...)
	all := etas(many, 61)
	deep, long := tower(99, 2), con("f", ofSize(4000))
	for what, x := range map[string]struct {
		s    api.Store
		pars int
		l    []api.Term
		e    api.Errno
	}{
		"60 variables":                          {many, 0, all[:60], api.OK},
		"61 variables":                          {many, 0, all, api.ErrLong},
		"one behind 59":                         {many, 59, all[:1], api.OK},
		"two behind 59":                         {many, 59, all[:2], api.ErrLong},
		"none behind 60":                        {many, 60, reads("c"), api.OK},
		"one behind 60":                         {many, 60, all[:1], api.ErrLong},
		"61":                                    {many, 61, nil, api.ErrArg},
		"-1":                                    {many, -1, nil, api.ErrArg},
		"a huge number":                         {many, 1 << 62, nil, api.ErrArg},
		"20000 terms":                           {many, 0, slices.Repeat(all[:1], 20000), api.OK},
		"20001 terms":                           {many, 0, slices.Repeat(all[:1], 20001), api.ErrArg},
		"20001 terms that are none":             {many, 0, make([]api.Term, 20001), api.ErrArg},
		"a store ahead of the number":           {store(api.Val{}), -1, nil, api.ErrStore},
		"a long store":                          {values(4001), -1, nil, api.ErrLong},
		"the number ahead of terms":             {many, -1, []api.Term{{}}, api.ErrArg},
		"a term that does not fit":              {many, 60, []api.Term{all[0], {}}, api.ErrForm},
		"a long term":                           {many, 0, []api.Term{long, {}}, api.ErrLong},
		"a long term behind another one":        {many, 0, []api.Term{{}, long}, api.ErrForm},
		"a deep value":                          {deep, 0, reads("V99"), api.ErrDeep},
		"a deep value behind a variable":        {deep, 60, reads("V0", "V99"), api.ErrDeep},
		"a deep value ahead of what is no term": {deep, 0, []api.Term{read("V99"), {}}, api.ErrForm},
	} {
		l, types, e := unify.Least(x.s, x.pars, x.l)
		if e != x.e || e != api.OK && len(l)+len(types) > 0 || e == api.OK && len(l) != len(x.l) {
			t.Errorf("%v: %v; expected %v", what, e, x.e)
		}
	}
}

// P5.1: which stores extend others.
func TestExtends(t *testing.T) {
	s := store(open(2, "i i"), known(1, `\ . f B0 V2`), open(1, "i"))
	for what, x := range map[string]struct {
		t    api.Store
		want bool
	}{
		"the same one":            {s, true},
		"a variable more":         {store(append(slices.Clone(s.Vals), open(60, "j"))...), true},
		"a variable less":         {store(s.Vals[0], known(1, `\ . f B0 c`)), false},
		"lower Levels":            {store(open(0, "i i"), known(0, `\ . f B0 V2`), open(0, "i")), true},
		"a higher Level":          {store(open(3, "i i"), s.Vals[1], s.Vals[2]), false},
		"a higher Level at last":  {store(s.Vals[0], known(2, `\ . f B0 V2`), open(2, "i")), false},
		"another type":            {store(open(2, "i j"), s.Vals[1], s.Vals[2]), false},
		"another argument's type": {store(open(2, "j i"), s.Vals[1], s.Vals[2]), false},
		"an argument less":        {store(open(2, "i"), s.Vals[1], s.Vals[2]), false},
		"values":                  {store(known(0, `\ . V3 B0`), known(1, `\ . f B0 V2`), known(0, "c"), open(0, "i i")), true},
		"the value for a part":    {store(s.Vals[0], known(1, `\ . f B0 c`), known(0, "c")), true},
		"another value":           {store(s.Vals[0], known(1, `\ . f B0 c`), known(0, "d")), false},
		"no value":                {store(s.Vals[0], open(1, "i i"), s.Vals[2]), false},
		"a value by a new one":    {store(s.Vals[0], known(1, `\ . V3 B0`), s.Vals[2], known(1, `\ . f B0 V2`)), true},
	} {
		if is, e := unify.Extends(s, x.t); e != api.OK || is != x.want || extendsIt(s, x.t) != x.want {
			t.Errorf("%v: %v, %v", what, is, e)
		}
	}
	// X is Y, or Y is X.
	a, b := store(known(0, "V1"), open(0, "i")), store(open(0, "i"), known(0, "V0"))
	if is, e := unify.Extends(a, b); e != api.OK || !is {
		t.Errorf("Extends of a variable that is another one: %v, %v", is, e)
	}
	kinds := [2]int{}
	testAll(t, 13, 10000, func(t *testing.T, m maker) {
		s := m.store(3)
		r, q := m.valued(s), m.valued(s)
		for v := range r.Vals {
			if m.Intn(2) == 0 && errorOf(with(r, map[int]api.Term{v: q.Vals[v].T})) == api.OK {
				r.Vals[v] = q.Vals[v]
			}
		}
		if errorOf(r) != api.OK {
			return
		}
		for _, x := range [][2]api.Store{{s, r}, {r, q}, {q, r}, {r, s}} {
			want := extendsIt(x[0], x[1])
			if is, e := unify.Extends(x[0], x[1]); e != api.OK || is != want {
				t.Fatalf("Extends(%v, %v) = %v, %v; expected %v", x[0], x[1], is, e, want)
			}
			if want {
				kinds[0]++
			} else {
				kinds[1]++
			}
		}
	})
	if kinds[0] < 2000 || kinds[1] < 2000 {
		t.Errorf("too few of a kind: %v", kinds)
	}
}

// P5.1: the errors of functions with two stores, or two terms, the first one's ahead of the second one's.
func TestErrors(t *testing.T) {
	long, bad, good := values(4001), store(api.Val{}), sample()
	for what, x := range map[string]struct {
		s, t api.Store
		e    api.Errno
	}{
		"a long one first":   {long, bad, api.ErrLong},
		"a bad one first":    {bad, long, api.ErrStore},
		"a long one behind":  {good, long, api.ErrLong},
		"a bad one behind":   {good, bad, api.ErrStore},
		"a long value":       {chain(11), chain(11), api.ErrLong},
		"a deep value":       {tower(99, 2), tower(99, 2), api.ErrDeep},
		"a value to be made": {store(open(0, "i"), known(0, "g V0 V0")), store(is(ofSize(2000)), known(0, "g V0 V0")), api.ErrLong},
	} {
		if is, e := unify.Extends(x.s, x.t); e != x.e || is {
			t.Errorf("Extends of %v: %v, %v", what, is, e)
		}
	}
	c, tooLong, deep := con("c"), ofSize(4001), ofDepth(101)
	for what, x := range map[string]struct {
		s    api.Store
		a, b api.Term
		e    api.Errno
	}{
		"a long store":               {long, api.Term{}, tooLong, api.ErrLong},
		"a bad store":                {bad, tooLong, deep, api.ErrStore},
		"many variables":             {store(make([]api.Val, 2001)...), deep, deep, api.ErrLong},
		"a long term":                {good, tooLong, deep, api.ErrLong},
		"a deep term":                {good, deep, tooLong, api.ErrDeep},
		"a term that does not fit":   {good, api.Term{}, tooLong, api.ErrForm},
		"a long term behind":         {good, c, tooLong, api.ErrLong},
		"a deep term behind":         {good, c, deep, api.ErrDeep},
		"one behind that is none":    {good, c, read("B0"), api.ErrForm},
		"one that is none, at first": {good, read("V1 c"), c, api.ErrForm},
		"a term without end":         {good, c, endless(2), api.ErrLong},
	} {
		if s, is, e := unify.Unify(x.s, x.a, x.b); e != x.e || is || len(s.Vals) > 0 {
			t.Errorf("Unify with %v: %v, %v", what, is, e)
		}
		if is, e := unify.Solves(x.s, x.a, x.b); e != x.e || is {
			t.Errorf("Solves with %v: %v, %v", what, is, e)
		}
		if unify.Fits(x.s, x.a) != api.OK {
			if y, e := unify.Value(x.s, x.a); e != x.e || !sameTerm(y, api.Term{}) {
				t.Errorf("Value with %v: %v", what, e)
			}
			if l, e := unify.Free(x.s, x.a); e != x.e || len(l) > 0 {
				t.Errorf("Free with %v: %v", what, e)
			}
		}
	}
}

// P5.1: results share no memory with arguments, and arguments stay as they are.
func TestNewMemory(t *testing.T) {
	testAll(t, 14, 2000, func(t *testing.T, m maker) {
		s, _, a, b := m.pair()
		l := []api.Term{a, b}
		before := deepCopy(s, l)
		var stores []api.Store
		var terms []api.Term
		var types []api.Type
		for _, c := range [][2]api.Term{{a, b}, {a, a}, {a, con("h")}} {
			r, _, _ := unify.Unify(s, c[0], c[1])
			stores = append(stores, r)
		}
		r, _, _ := unify.Fresh(s, 0, s.Vals[0].Type)
		x, _ := unify.Value(s, a)
		y, ty, _ := unify.Least(s, pars, l)
		for _, r := range append(stores, r) {
			for i := range r.Vals {
				terms, types = append(terms, r.Vals[i].T), append(types, r.Vals[i].Type)
				r.Vals[i] = api.Val{Level: 99}
			}
		}
		for _, x := range append(append(terms, x), y...) {
			scribble(x)
		}
		for _, x := range append(types, ty...) {
			scribbleType(x)
		}
		if after := deepCopy(s, l); !reflect.DeepEqual(before, after) {
			t.Fatalf("%v became %v", before, after)
		}
	})
}

// P5.1: no parts of a result share memory.
func TestApartInMemory(t *testing.T) {
	testAll(t, 15, 2000, func(t *testing.T, m maker) {
		s, _, a, b := m.pair()
		s.Vals = append(s.Vals, s.Vals...)
		r, _, e := unify.Unify(s, con("g", a, b), con("g", b, a))
		l, types, f := unify.Least(r, pars, []api.Term{a, b, a, b})
		_, again, _ := unify.Least(r, pars, []api.Term{a, b})
		if e != api.OK || f != api.OK {
			t.Fatal(e, f)
		}
		before := deepCopy(r, l)
		for i, v := range r.Vals[1:] {
			scribble(v.T)
			scribbleType(v.Type)
			r.Vals[i+1] = before.s.Vals[i+1]
		}
		for i, x := range l[1:] {
			scribble(x)
			l[i+1] = before.l[i+1]
		}
		for _, ty := range types[min(1, len(types)):] {
			scribbleType(ty)
		}
		if after := deepCopy(r, l); !reflect.DeepEqual(before, after) || len(types) > 0 && !reflect.DeepEqual(types[0], again[0]) {
			t.Fatalf("%v became %v; %v became %v", before, after, again, types)
		}
	})
}

// kept is a store with terms.
type kept struct {
	s api.Store
	l []api.Term
}

func deepCopy(s api.Store, l []api.Term) kept {
	var out kept
	for _, v := range s.Vals {
		v.T = copyTerm(v.T)
		v.Type = copyType(v.Type)
		out.s.Vals = append(out.s.Vals, v)
	}
	for _, t := range l {
		out.l = append(out.l, copyTerm(t))
	}
	return out
}

func copyTerm(t api.Term) api.Term {
	var list []api.Term
	for _, x := range t.Args {
		list = append(list, copyTerm(x))
	}
	t.Args = list
	return t
}

func copyType(t api.Type) api.Type {
	var list []api.Type
	for _, x := range t.Args {
		list = append(list, copyType(x))
	}
	t.Args = list
	return t
}

// scribble changes all that a term has in its memory.
func scribble(t api.Term) {
	for i, x := range t.Args {
		scribble(x)
		t.Args[i] = api.Term{Kind: 9, N: 9, Name: "scribbled"}
	}
	_ = append(t.Args, api.Term{Kind: 9})
}

func scribbleType(t api.Type) {
	for i, x := range t.Args {
		scribbleType(x)
		t.Args[i] = api.Type{Name: "scribbled"}
	}
}
