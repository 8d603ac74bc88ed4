package formula_test

import (
	"slices"
	"testing"

	"peculium/api"
	"peculium/formula"
)

// TestKind has formulas that are hypotheses, and such as nearly are.
func TestKind(t *testing.T) {
	p := inferred(t, declared)
	for text, want := range map[string]int{
		// The chapter's examples.
		"all : i . ( p B0 -o q B0 )": api.HyBack,
		"a c":                        api.HyFact,
		"( p c & q c )":              api.HyBack,
		"( p c * q c )":              api.HyNone,
		"all : i . ( a B0 -o ( l B0 => { ( a ( f B0 ) * ! l B0 ) } ) )": api.HyRule,
		"all : i . ( a c -o { one } )":                                  api.HyNone,
		// Atoms.
		"p c": api.HyBack, "l c": api.HyLast, "none c": api.HyNone, "p": api.HyBack, "p c c c": api.HyBack, "p V0 P7 B3": api.HyBack,
		// Clauses.
		"all : i . p c": api.HyBack, "all : ( i -> i ) . all : nothing . p c": api.HyBack, "( p c & ( q c & z ) )": api.HyBack,
		"( p c & a c )": api.HyNone, "( a c & p c )": api.HyNone, "( p c + q c )": api.HyNone, "( l c & p c )": api.HyNone, "( p c & none )": api.HyNone,
		"! p c": api.HyNone, "ex : i . p c": api.HyNone, "one": api.HyNone, "top": api.HyNone, "{ p c }": api.HyNone, "( p c & one )": api.HyNone,
		"all : i . a c": api.HyNone, "all : i . l c": api.HyNone, "! l c": api.HyNone, "( a c & a c )": api.HyNone, "( a c * l c )": api.HyNone,
		"( one -o p c )": api.HyBack, "( top => p c )": api.HyBack, "( a c -o p c )": api.HyBack, "( a c => p c )": api.HyBack, "( l c -o p c )": api.HyBack, "( l c => p c )": api.HyBack,
		"( p c -o a c )": api.HyNone, "( p c => l c )": api.HyNone, "( none -o p c )": api.HyNone, "( p c -o none )": api.HyNone, "( p c -o one )": api.HyNone,
		"( { a c } -o p c )": api.HyNone, "( ( z * ( p c + ! q c ) ) -o p c )": api.HyBack, "( ( z & all : i . ex : i . z ) => p c )": api.HyBack,
		"( ( z * { one } ) -o p c )": api.HyNone, "( ! { one } -o p c )": api.HyNone, "( ex : i . none => p c )": api.HyNone,
		"( ( p c -o q c ) -o z )": api.HyBack, "( ( a c -o q c ) -o z )": api.HyBack, "( ( l c -o q c ) -o z )": api.HyNone, "( ( l c => q c ) -o z )": api.HyBack, "( ( a c => q c ) -o z )": api.HyNone,
		"( ( one -o q c ) -o z )": api.HyNone, "( ( ( p c & q c ) -o q c ) -o z )": api.HyBack, "( ( ( p c * q c ) -o q c ) -o z )": api.HyNone, "( ( ( p c & a c ) => q c ) -o z )": api.HyNone,
		"( ( ( a c -o { one } ) -o q c ) -o z )": api.HyNone, "( ( p c -o { one } ) -o z )": api.HyNone, "( ( ( one => p c ) => q c ) -o z )": api.HyBack,
		"( p c -o ( one => ( z & all : i . q B0 ) ) )": api.HyBack, "( p c -o ( one => ( z & all : i . a B0 ) ) )": api.HyNone, "( ( p c & q c ) -o ( p c + q c ) )": api.HyNone,
		// Forward rules.
		"( a c -o { one } )": api.HyRule, "( l c => { one } )": api.HyRule, "( a c -o ( a c -o ( l c => { one } ) ) )": api.HyRule, "( l c => ( a c -o { one } ) )": api.HyRule,
		"{ one }": api.HyNone, "all : i . { a B0 }": api.HyNone, "( a c => { one } )": api.HyNone, "( l c -o { one } )": api.HyNone, "( p c -o { one } )": api.HyNone, "( p c => { one } )": api.HyNone, "( none -o { one } )": api.HyNone, "( one -o { one } )": api.HyNone,
		"( a c -o one )": api.HyNone, "( a c -o a c )": api.HyNone, "( ! l c -o { one } )": api.HyNone, "( ( a c * a c ) -o { one } )": api.HyNone, "( a c -o { { one } } )": api.HyNone, "! ( a c -o { one } )": api.HyNone,
		"( a c -o all : i . ( a B0 -o { one } ) )": api.HyNone, "( a c -o all : i . { one } )": api.HyNone, "ex : i . ( a B0 -o { one } )": api.HyNone, "all : i . ex : i . ( a B0 -o { one } )": api.HyNone,
		"( ( a c -o { one } ) & ( a c -o { one } ) )": api.HyNone, "( a c -o ( a c & { one } ) )": api.HyNone,
		"all : i . all : i . ( a B0 -o ( l B1 => { one } ) )": api.HyRule, "all : i . all : i . ( a B0 -o ( l B0 => { a B1 } ) )": api.HyNone, "all : i . all : i . ( a B1 -o ( l B1 => { a B0 } ) )": api.HyNone,
		"all : i . all : i . ( a ( f B0 B1 ) -o { one } )": api.HyRule, "all : i . ( a B1 -o { one } )": api.HyNone, "all : i . ( a P0 -o { one } )": api.HyNone, "all : i . ( a V0 -o { one } )": api.HyNone,
		`all : i . ( b ( \ . B0 ) -o { one } )`: api.HyNone, `all : i . ( b ( \ . B1 ) -o { one } )`: api.HyRule, `all : ( i -> i ) . ( b ( \ . B1 B0 ) -o { one } )`: api.HyRule, `all : i . ( b ( \ . f ( \ . B2 ) ) -o { one } )`: api.HyRule,
		`all : i . all : i . ( b ( \ . f B1 ( \ . B3 ) ) -o { one } )`: api.HyRule, "( a B0 -o { a V3 } )": api.HyRule,
		// Yields.
		"( e -o { a c } )": api.HyRule, "( e -o { ! l c } )": api.HyRule, "( e -o { l c } )": api.HyNone, "( e -o { ! a c } )": api.HyNone, "( e -o { ! p c } )": api.HyNone, "( e -o { p c } )": api.HyNone, "( e -o { none } )": api.HyNone, "( e -o { ! none } )": api.HyNone, "( e -o { ! one } )": api.HyNone, "( e -o { ! ! l c } )": api.HyNone,
		"( e -o { top } )": api.HyNone, "( e -o { ( a c * top ) } )": api.HyNone, "( e -o { ex : i . a B0 } )": api.HyRule, "( e -o { ex : i . top } )": api.HyNone, "( e -o { all : i . a B0 } )": api.HyNone, "( e -o { ( a c * ( ! n * ex : o . one ) ) } )": api.HyRule,
		"( e -o { ( a c & a c ) } )": api.HyNone, "( e -o { ( a c + a c ) } )": api.HyNone, "( e -o { ( a c -o a c ) } )": api.HyNone, "( e -o { ( a c * l c ) } )": api.HyNone,
	} {
		if got := formula.Kind(p, form(text)); got != want {
			t.Errorf("Kind of %v = %v, want %v", text, got, want)
		}
	}
}

// TestMonadic has monadic goals, and such as nearly are, and whether they are goals.
func TestMonadic(t *testing.T) {
	p := inferred(t, declared)
	const none, plain, monadic = 0, 1, 2
	for text, want := range map[string]int{
		// The chapter's examples.
		"( a c -o { ( a c * top ) } )": monadic, "( a V0 -o { a V0 } )": none, "( p c * { one } )": none,
		// Ends.
		"{ one }": monadic, "{ top }": monadic, "{ a V0 }": monadic, "{ l c }": none, "{ ! l c }": monadic, "{ ! a c }": none, "{ p c }": none, "{ ! p c }": none, "{ none }": none, "{ ! none }": none, "{ ! one }": none,
		"{ ( a c * ( top * ! n ) ) }": monadic, "{ ex : i . ( a B0 * ex : i . top ) }": monadic, "{ all : i . a B0 }": none, "{ ( a c & top ) }": none, "{ ( a c + a c ) }": none, "{ { one } }": none, "{ ( a c * { one } ) }": none, "{ ( e -o e ) }": none, "{ ( e => e ) }": none,
		// Around them.
		"all : i . { a B0 }": monadic, "ex : i . { a B0 }": none, "! { one }": none, "( { one } * one )": none, "( { one } & { one } )": none, "( { one } + one )": none,
		"( a c -o { one } )": monadic, "( p c -o { one } )": monadic, "( l c -o { one } )": none, "( l c => { one } )": monadic, "( p c => { one } )": monadic, "( a c => { one } )": none, "( none -o { one } )": none, "( none => { one } )": none,
		"( one -o { one } )": none, "( ( p c & q c ) -o { one } )": monadic, "( ( p c * q c ) -o { one } )": none, "( ( ( p c -o one ) => p c ) => { one } )": monadic, "( ( ( one -o p c ) => p c ) => { one } )": none, "( all : i . p B0 -o all : i . ( a B0 -o { one } ) )": monadic, "( ( a c -o { one } ) => { one } )": none,
		"( p c -o ( a c -o ( l c => { top } ) ) )": monadic, "( p c -o one )": plain, "( a c -o ( p V0 -o { one } ) )": none, "( p V0 => { one } )": none, `( p ( f ( \ . V3 B0 ) ) => { one } )`: none, "( l V0 => { one } )": none, "( ( p c & q V0 ) => { one } )": none, "all : i . ( a V0 -o { one } )": none,
		"( a P0 -o { a V0 } )": monadic, "( a B4 -o { a V0 } )": monadic,
		// Plain goals.
		"p c": plain, "a c": plain, "l V0": plain, "none": none, "one": plain, "top": plain, "( a c * l c )": plain, "( a c & ( one + top ) )": plain, "! a c": plain, "all : i . ex : i . l c": plain,
		"( a V0 -o a V0 )": plain, "( l c -o one )": none, "( l c => one )": plain, "( a c => one )": none, "( p V0 => one )": plain, "( ( p c & p c ) -o one )": plain, "( ( p c + p c ) -o one )": none, "( one -o one )": none, "( top => one )": none, "( ( a c -o { one } ) -o one )": none,
		"( one * none )": none, "( none & one )": none, "( one + ! none )": none, "ex : i . none": none, "( p c -o none )": none, "( p c => ( one * { one } ) )": none, "( { one } -o one )": none, "all : i . ( one * { one } )": none,
	} {
		f := form(text)
		if got := formula.Monadic(p, f); got != (want == monadic) {
			t.Errorf("Monadic of %v = %v", text, got)
		}
		if goal := isGoal(p, f); goal != (want != none) {
			t.Errorf("%v is a goal: %v", text, goal)
		}
	}
}

// isGoal reports whether a formula is a goal: a plain one, which can stand in front of a clause, or a monadic one. (Goal asks for types, too.)
func isGoal(p api.Program, f api.Form) bool {
	p.Preds = append(slices.Clip(p.Preds), api.Pred{Name: "somePred", Kind: api.PrBack})
	return formula.Kind(p, of(api.FoLolli, f, atom("somePred"))) == api.HyBack || formula.Monadic(p, f)
}

// TestPreds: only the Preds of a program matter, and the first one with a name; any number is a kind.
func TestPreds(t *testing.T) {
	p := api.Program{Preds: []api.Pred{{Name: "p", Kind: api.PrBack}, {Name: "a", Kind: api.PrFact}, {Name: "p", Kind: api.PrFact}, {Name: "u", Kind: 7}, {Name: "v"}, {Name: "w", Kind: -1}, {Name: "v", Kind: api.PrBack}, {Name: "P"}}, Rules: make([]api.Rule, 1000)}
	for text, want := range map[string]int{"p": api.HyBack, "a": api.HyFact, "u": api.HyNone, "v": api.HyNone, "w": api.HyNone, "( a -o p )": api.HyBack, "( u -o p )": api.HyBack, "( v -o p )": api.HyBack, "( w => p )": api.HyBack, "( x -o p )": api.HyNone, "( p -o { one } )": api.HyNone, "( a -o { u } )": api.HyNone, "( ( u -o p ) -o p )": api.HyNone} {
		if got := formula.Kind(p, form(text)); got != want {
			t.Errorf("Kind of %v = %v, want %v", text, got, want)
		}
	}
	if formula.Kind(p, atom("P")) != api.HyNone || formula.Kind(api.Program{}, atom("p")) != api.HyNone || formula.Monadic(api.Program{}, form("{ p }")) || !formula.Monadic(api.Program{}, form("{ one }")) {
		t.Errorf("predicates that are not there have a kind")
	}
}

// TestAllShapes holds Kind and Monadic against the grammar, for all formulas of three levels with some atoms.
func TestAllShapes(t *testing.T) {
	t.Parallel()
	p := api.Program{Preds: []api.Pred{{Name: "p", Kind: api.PrBack}, {Name: "a", Kind: api.PrFact}, {Name: "l", Kind: api.PrLast}}}
	list := []api.Form{one, top, atom("p"), atom("a"), atom("l"), atom("x")}
	counts := map[string]int{}
	small := list
	for levels := range 2 {
		list = grown(small)
		for _, f := range list {
			kind, monadic := formula.Kind(p, f), formula.Monadic(p, f)
			if kind != refKind(p, f) || monadic != refMonadic(p, f) {
				t.Fatalf("Kind, Monadic of %v = %v, %v", formula.Text(f), kind, monadic)
			}
			if kind != api.HyNone || monadic {
				counts["some"]++
			}
			counts["all"]++
		}
		if levels == 0 {
			small = append(small, list...)
		}
	}
	if counts["all"] < 200000 || counts["some"] < 1000 {
		t.Errorf("too few formulas: %v", counts)
	}
}

// grown returns the formulas made of some others.
func grown(list []api.Form) []api.Form {
	var out []api.Form
	for _, f := range list {
		out = append(out, of(api.FoBang, f), of(api.FoMonad, f), all(i, f), ex(i, f))
		for _, g := range list {
			for kind := api.FoTensor; kind <= api.FoImp; kind++ {
				out = append(out, of(kind, f, g))
			}
		}
	}
	return out
}

// TestShapesRandom holds Kind, Monadic and the goals against the grammar, for formulas that are made of it, mostly.
func TestShapesRandom(t *testing.T) {
	t.Parallel()
	m := newMaker(t, 2, 30)
	counts := map[string]int{}
	for n := range 40000 {
		left := n%2 == 0
		word := pick(m, "plain", "monadic")
		if left {
			word = pick(m, "clause", "rule", "rule", "atom")
		}
		e := m.scope(pick(m, 0, 2), 2)
		e.left = left
		f := m.form(word, e, 1+m.Intn(6))
		kind, monadic := formula.Kind(m.p, f), formula.Monadic(m.p, f)
		goal := isGoal(m.p, f)
		if kind != refKind(m.p, f) || monadic != refMonadic(m.p, f) || goal != refGoal(m.p, f) {
			t.Fatalf("Kind, Monadic of %v = %v, %v; a goal: %v", formula.Text(f), kind, monadic, goal)
		}
		if left {
			counts["kind "+string(rune('0'+kind))]++
		} else if goal && monadic {
			counts["monadic"]++
		} else if goal {
			counts["plain"]++
		} else {
			counts["no goal"]++
		}
	}
	for x, least := range map[string]int{"kind 0": 2000, "kind 1": 3000, "kind 2": 500, "kind 3": 500, "kind 4": 1000, "monadic": 2000, "plain": 3000, "no goal": 1000} {
		if counts[x] < least {
			t.Errorf("too few of %v: %v", x, counts)
		}
	}
}
