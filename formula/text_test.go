package formula_test

import (
	"slices"
	"strings"
	"testing"

	"peculium/api"
	"peculium/formula"
)

// ordered has raw formulas, each one less than the next one.
func ordered() []api.Form {
	var list []api.Form
	for _, text := range []string{
		"a", "a@b", "aa", "p", "p c", "p f", "p ( f c )", "p B0", "p B0 c", "p B1", "p V0", "p V0 c", `p ( \ . c )`, `p ( \ . B0 )`, "p c c", "p c ( f c )", "p ( f c ) c", "p B0 c", "p c c c", "q", "z",
	} {
		list = append(list, form(text))
	}
	// The Args of f count only where Kind, N and Name are the same ones.
	slices.SortStableFunc(list, refCompare)
	for _, text := range []string{
		"one", "top", "( a * a )", "( a * b )", "( b * a )", "( a & a )", "( one & a )", "( a + a )", "( a -o top )", "( b -o a )", "( a => a )", "! a", "! one",
		"all : ( ( i -> i ) -> i ) . a", "all : ( i -> ( i -> i ) ) . a", "all : ( i -> i ) . a", "all : i . a", "all : i . b", "all : ii . a", "all : o . a",
		"ex : i . p B0", "ex : i . p B1", "ex : j . p B0", "{ a }", "{ { a } }",
	} {
		list = append(list, form(text))
	}
	return list
}

func TestCompare(t *testing.T) {
	list := ordered()
	for x, f := range list {
		for y, g := range list {
			if got, want := formula.Compare(f, g), min(1, max(-1, refCompare(f, g))); got != want {
				t.Errorf("Compare of %v and %v = %v, want %v", formula.Text(f), formula.Text(g), got, want)
			}
			if got, want := formula.Same(f, g), same(f, g); got != want {
				t.Errorf("Same of %v and %v = %v", formula.Text(f), formula.Text(g), got)
			}
			if x >= 21 && y >= 21 { // these stand in their order
				if got, want := formula.Compare(f, g), sign(x-y); got != want {
					t.Errorf("Compare of %v and %v = %v, want %v", formula.Text(f), formula.Text(g), got, want)
				}
			}
		}
	}
	for _, c := range [][2]string{{"p", "q"}, {"p q", "q"}, {"p V0 V0", "q"}, {"p V5", "p c c"}, {"p c", "p d"}, {"p d", "p B0"}, {"p B9", "p P0"}, {"p P9", "p V0"}, {`p V9`, `p ( \ . c )`}, {"p ( f c c )", "p ( g c )"}, {"p ( f d )", "p ( f c c )"}, {"p c d", "p d c"}, {"z", "one"}, {"all : ( z -> z ) . z", "all : i . a"}} {
		f, g := form(c[0]), form(c[1])
		if formula.Compare(f, g) != -1 || formula.Compare(g, f) != 1 || formula.Same(f, g) {
			t.Errorf("Compare of %v and %v = %v, %v", c[0], c[1], formula.Compare(f, g), formula.Compare(g, f))
		}
	}
	if f, g := form("all : i . ex : ii . one"), unnamed(form("all : i . ex : ii . one")); formula.Same(f, g) {
		t.Errorf("a binder without a name is a raw one")
	}
	f, g := all(i, ex(i, one)), all(i, ex(i, one))
	g.Name, g.L[0].Name = "Z", "z"
	if !formula.Same(f, g) || formula.Compare(f, g) != 0 {
		t.Errorf("names of binders count: Same = %v, Compare = %v", formula.Same(f, g), formula.Compare(f, g))
	}
	empty := form("p c")
	empty.L, empty.Args[0].Args, empty.Type.Args = []api.Form{}, []api.Term{}, []api.Type{}
	if !formula.Same(empty, form("p c")) {
		t.Errorf("empty lists are not nil")
	}
}

func sign(n int) int { return min(1, max(-1, n)) }

func TestText(t *testing.T) {
	for text, f := range map[string]api.Form{
		"p":                atom("p"),
		"p c ( f B0 ) V12": atom("p", con("c"), con("f", bound(0)), vari(12)),
		`h ( \ . \ . P3 B1 ( \ . B2 ) ( f ( f c ) ) ) c`: atom("h", lams(2, par(3, bound(1), lams(1, bound(2)), con("f", con("f", con("c"))))), con("c")),
		"one": one, "top": top, "! one": of(api.FoBang, one), "{ top }": of(api.FoMonad, top),
		"( one * top )": of(api.FoTensor, one, top), "( one & top )": of(api.FoWith, one, top), "( one + top )": of(api.FoPlus, one, top), "( one -o top )": of(api.FoLolli, one, top), "( one => top )": of(api.FoImp, one, top),
		"all : i . one": all(i, one), "ex : ( i -> ( o -> i ) ) . one": ex(ioi, one), "ex : ( ( i -> i ) -> i ) . p B0": ex(higher, atom("p", bound(0))),
		"! { ! ( ! p V0 * { one } ) }": of(api.FoBang, of(api.FoMonad, of(api.FoBang, of(api.FoTensor, of(api.FoBang, atom("p", vari(0))), of(api.FoMonad, one))))),
		"all :  . one":                 all(base(""), one), "ex : a type! . one": ex(base("a type!"), one),
		"p B100000": atom("p", bound(100000)), "p@m c@m": atom("p@m", con("c@m")),
	} {
		if got := formula.Text(f); got != text {
			t.Errorf("Text of %v = %q, want %q", f, got, text)
		}
	}
}

// TestLongText tells of the limit of a text; that of tokens, which layer 4 has, is none here.
func TestLongText(t *testing.T) {
	// 464 tokens of 40 bytes and one blank each, and what is missing.
	var list []api.Form
	for range 58 {
		var args []api.Term
		for range 7 {
			args = append(args, con(name(40)))
		}
		list = append(list, atom(name(40), args...))
	}
	joined := func(l []api.Form) api.Form {
		f := l[0]
		for _, x := range l[1:] {
			f = of(api.FoTensor, f, x)
		}
		return f
	}
	f := joined(list)
	length := len(formula.Text(f))
	if length != 58*8*41-1+57*6 {
		t.Errorf("a long text has %v bytes", length)
	}
	missing := api.MaxText - length
	for more, want := range map[int]bool{0: true, 1: false, 2: false, 50: false} {
		x := f
		n := missing + more
		for range 3 {
			x = all(base(name(100)), x)
			n -= len("all : . ") + 101
		}
		x.Type = base(name(100 + n))
		text := formula.Text(x)
		if formula.Raw(x) != api.OK || (text != "") != want || want && len(text) != api.MaxText {
			t.Errorf("a text that is longer by %v: %v bytes", more, len(text))
		}
	}
	if text := formula.Text(all(base(strings.Repeat("?", 1<<22)), one)); text != "" {
		t.Errorf("a type with a huge name: %v bytes", len(text))
	}
	eight := func(x api.Term) api.Term { return con("f", x, x, x, x, x, x, x, x) }
	x := eight(eight(eight(lams(1, con("c"))))) // 512 times ( \ . c )
	many := atom("p", x, x, x)
	if text := formula.Text(many); len(strings.Fields(text)) != 1+3*(2+73+2*72+512*5-2*512+2*512) || !formula.Same(form(text), many) {
		t.Errorf("a text of many tokens: %v tokens, %v bytes", len(strings.Fields(text)), len(text))
	}
}
