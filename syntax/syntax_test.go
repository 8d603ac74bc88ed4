package syntax_test

import (
	"math/rand"
	"reflect"
	"slices"
	"strings"
	"testing"

	"peculium/api"
	"peculium/lex"
	"peculium/syntax"
)

var a, b, c, d, p, q, r, x, y = nm("a"), nm("b"), nm("c"), nm("d"), nm("p"), nm("q"), nm("r"), nm("x"), nm("y")

// P2.1, S1: the trees of formulas, each kind of them.
func TestForms(t *testing.T) {
	px := nm("p", x)
	for text, want := range map[string]api.Node{
		"a":                              a,
		"(((a)))":                        a,
		"a -o b * c & d":                 nd(api.NdLolli, a, nd(api.NdWith, nd(api.NdTensor, b, c), d)),
		"a o- b <= c":                    nd(api.NdIf, nd(api.NdFrom, a, b), c),
		"a <= b o- c":                    nd(api.NdFrom, nd(api.NdIf, a, b), c),
		"a o- (b <= c) o- ((d))":         nd(api.NdFrom, nd(api.NdFrom, a, nd(api.NdIf, b, c)), d),
		"a -o b => c":                    nd(api.NdLolli, a, nd(api.NdImp, b, c)),
		"a => b -o c":                    nd(api.NdImp, a, nd(api.NdLolli, b, c)),
		"a -o b o- c -o d":               nd(api.NdFrom, nd(api.NdLolli, a, b), nd(api.NdLolli, c, d)),
		"a * b * c":                      nd(api.NdTensor, a, nd(api.NdTensor, b, c)),
		"a & b & c":                      nd(api.NdWith, a, nd(api.NdWith, b, c)),
		"a + b + c":                      nd(api.NdPlus, a, nd(api.NdPlus, b, c)),
		"a + b & c * d":                  nd(api.NdPlus, a, nd(api.NdWith, b, nd(api.NdTensor, c, d))),
		"a * b & c + d":                  nd(api.NdPlus, nd(api.NdWith, nd(api.NdTensor, a, b), c), d),
		"!a * !!b":                       nd(api.NdTensor, nd(api.NdBang, a), nd(api.NdBang, nd(api.NdBang, b))),
		"{a * one} & top":                nd(api.NdWith, nd(api.NdMonad, nd(api.NdTensor, a, nd(api.NdOne))), nd(api.NdTop)),
		"q -o all x. p x + r":            nd(api.NdLolli, q, bd(api.NdAll, "x", nd(api.NdPlus, px, r))),
		"!(all x. p x) * q":              nd(api.NdTensor, nd(api.NdBang, bd(api.NdAll, "x", px)), q),
		"!all x. p x * q":                nd(api.NdBang, bd(api.NdAll, "x", nd(api.NdTensor, px, q))),
		"ex x. p x o- q":                 bd(api.NdEx, "x", nd(api.NdFrom, px, q)),
		"a o- ex X: b -> c. q o- r":      nd(api.NdFrom, a, bd(api.NdEx, "X", nd(api.NdArrow, b, c), nd(api.NdFrom, q, r))),
		"p X (f Y) (\\Y. Y) (x)":         nm("p", vr("X"), nm("f", vr("Y")), bd(api.NdLam, "Y", vr("Y")), x),
		"p(X)Y(X x)":                     nm("p", vr("X"), vr("Y"), vr("X", x)),
		"a % * b\n* c":                   nd(api.NdTensor, a, c),
		"p a b c d x y a b":              nm("p", a, b, c, d, x, y, a, b),
		"all all'. in":                   bd(api.NdAll, "all'", nm("in")),
		"m@p o@n":                        nm("m@p", nm("o@n")),
		"o o-o":                          nd(api.NdFrom, nm("o"), nm("o")),
		"all x: (a -> b) -> c. all y. p": bd(api.NdAll, "x", nd(api.NdArrow, nd(api.NdArrow, a, b), c), bd(api.NdAll, "y", p)),
	} {
		if !parses("form", text, want) {
			got, at, err := syntax.ParseForm(text)
			t.Errorf("ParseForm(%q) = %v, %v, %v", text, got, at, err)
		}
	}
}

// P2.1, S1: the trees of terms and types.
func TestTermsAndTypes(t *testing.T) {
	for text, want := range map[string]api.Node{
		"f X (\\y: i. g y)":    nm("f", vr("X"), bd(api.NdLam, "y", nm("i"), nm("g", y))),
		"X":                    vr("X"),
		"F x (G (\\x.x))":      vr("F", x, vr("G", bd(api.NdLam, "x", x))),
		"\\x. \\Y: a -> b. xY": bd(api.NdLam, "x", bd(api.NdLam, "Y", nd(api.NdArrow, a, b), nm("xY"))),
		"\\x. f x y":           bd(api.NdLam, "x", nm("f", x, y)),
		"((\\x. ((x))))":       bd(api.NdLam, "x", x),
	} {
		if !parses("term", text, want) {
			t.Errorf("%q is another term", text)
		}
	}
	for text, want := range map[string]api.Node{
		"a":                     a,
		"a -> b -> c":           nd(api.NdArrow, a, nd(api.NdArrow, b, c)),
		"(a -> b) -> c":         nd(api.NdArrow, nd(api.NdArrow, a, b), c),
		"((a) -> ((b -> m@t)))": nd(api.NdArrow, a, nd(api.NdArrow, b, nm("m@t"))),
	} {
		if !parses("typ", text, want) {
			t.Errorf("%q is another type", text)
		}
	}
}

// P2.1, S1 and S3: the trees of texts, each item of them, and their canonical texts.
func TestItems(t *testing.T) {
	ab := nd(api.NdArrow, a, b)
	for text, want := range map[string]api.Node{
		"type a.":                               nd(api.NdType, a),
		"type a, b.":                            nd(api.NdType, a, b),
		"export a, b, m@c.":                     nd(api.NdExport, a, b, nm("m@c")),
		"const a: b.":                           nd(api.NdConst, a, b),
		"const a, b: a -> b.":                   nd(api.NdConst, a, b, ab),
		"pred p.":                               bd(api.NdPred, "p"),
		"pred p a (a -> b).":                    bd(api.NdPred, "p", a, ab),
		"fact p (a -> b) b.":                    bd(api.NdFact, "p", ab, b),
		"lasting p a a a a a a a a.":            bd(api.NdLast, "p", a, a, a, a, a, a, a, a),
		"mode p.":                               bd(api.NdMode, "p"),
		"mode p in out any.":                    bd(api.NdMode, "p", nm("in"), nm("out"), nm("any")),
		"rule r: p X o- q X.":                   bd(api.NdRule, "r", nd(api.NdFrom, nm("p", vr("X")), nm("q", vr("X")))),
		"once r: all x. p.":                     bd(api.NdOnce, "r", bd(api.NdAll, "x", p)),
		"most m@r: {p}.":                        bd(api.NdMost, "m@r", nd(api.NdMonad, p)),
		"query q: (all x. p) * q.":              bd(api.NdQuery, "q", nd(api.NdTensor, bd(api.NdAll, "x", p), q)),
		"module m.":                             bd(api.NdModule, "m"),
		"use m.":                                bd(api.NdUse, "m"),
		"rule r: p (\\x: a -> b. x) (X (x y)).": bd(api.NdRule, "r", nm("p", bd(api.NdLam, "x", ab, x), vr("X", nm("x", y)))),
	} {
		if !parses("text", text, nd(api.NdText, want)) || !parses("text", strings.ReplaceAll(text, " ", "  "), nd(api.NdText, want)) {
			t.Errorf("%q is another text", text)
		}
		if got := print(t, want); got != text {
			t.Errorf("the item is %q, not %q", got, text)
		}
		if got := print(t, nd(api.NdText, want, want)); got != text+"\n"+text+"\n" {
			t.Errorf("the text is %q", got)
		}
	}
	for _, text := range []string{"", " \n", "% rule"} {
		if !parses("text", text, nd(api.NdText)) {
			t.Errorf("%q is not empty", text)
		}
	}
	if got := print(t, nd(api.NdText)); got != "" {
		t.Errorf("the empty text is %q", got)
	}
}

// P2.1, S3: parentheses, and none.
func TestPrint(t *testing.T) {
	all := bd(api.NdAll, "x", nm("p", x))
	ex := bd(api.NdEx, "X", a, p)
	tensor := nd(api.NdTensor, a, b)
	for want, n := range map[string]api.Node{
		"!(all x. p x) * q":              nd(api.NdTensor, nd(api.NdBang, all), q),
		"!all x. p x":                    nd(api.NdBang, all),
		"{all x. p x} * q":               nd(api.NdTensor, nd(api.NdMonad, all), q),
		"(all x. p x) & ex X: a. p":      nd(api.NdWith, all, ex),
		"a * (all x. p x) & q":           nd(api.NdWith, nd(api.NdTensor, a, all), q),
		"!{!(ex X: a. p) * all x. p x}":  nd(api.NdBang, nd(api.NdMonad, nd(api.NdTensor, nd(api.NdBang, ex), all))),
		"!(a * b)":                       nd(api.NdBang, tensor),
		"!(a * all x. p x) * q":          nd(api.NdTensor, nd(api.NdBang, nd(api.NdTensor, a, all)), q),
		"(a * b) * a * b":                nd(api.NdTensor, tensor, tensor),
		"(all y. all x. p x) -o q":       nd(api.NdLolli, bd(api.NdAll, "y", all), q),
		"all y. (all x. p x) -o q":       bd(api.NdAll, "y", nd(api.NdLolli, all, q)),
		"a o- b o- (a o- b)":             nd(api.NdFrom, nd(api.NdFrom, a, b), nd(api.NdFrom, a, b)),
		"(a o- b) -o (a o- b)":           nd(api.NdLolli, nd(api.NdFrom, a, b), nd(api.NdFrom, a, b)),
		"a => (all x. p x) <= q":         nd(api.NdIf, nd(api.NdImp, a, all), q),
		"all x: a -> b. q":               bd(api.NdAll, "x", nd(api.NdArrow, a, b), q),
		"(a -> b) -> a -> b":             nd(api.NdArrow, nd(api.NdArrow, a, b), nd(api.NdArrow, a, b)),
		"f (X x) (\\y. f (\\x: a. x)) Y": nm("f", vr("X", x), bd(api.NdLam, "y", nm("f", bd(api.NdLam, "x", a, x))), vr("Y")),
		"\\x. \\Y. f":                    bd(api.NdLam, "x", bd(api.NdLam, "Y", nm("f"))),
		"one & top":                      nd(api.NdWith, nd(api.NdOne), nd(api.NdTop)),
	} {
		if got := print(t, n); got != want {
			t.Errorf("Print = %q, not %q", got, want)
		}
	}
}

// P2.1, S1: where a text is refused.
func TestRefused(t *testing.T) {
	type refused struct {
		start, text string
		at          int
		err         api.Errno
	}
	long := strings.Repeat("a", 41)
	for _, w := range []refused{
		{"form", "", 0, api.ErrSyntax}, {"form", "a -o", 4, api.ErrSyntax}, {"form", "a -o % b", 8, api.ErrSyntax}, {"form", "a ) b", 2, api.ErrSyntax},
		{"form", "X", 0, api.ErrSyntax}, {"form", "a b.", 3, api.ErrSyntax}, {"form", "\n(X)", 2, api.ErrSyntax}, {"form", "all x p", 6, api.ErrSyntax},
		{"form", "all one. p", 4, api.ErrSyntax}, {"form", "a * -> b", 4, api.ErrSyntax}, {"form", "p (a * b)", 5, api.ErrSyntax}, {"form", "a o- b <= ", 10, api.ErrSyntax},
		{"form", "p \\x. x", 2, api.ErrSyntax}, {"form", "(a}", 2, api.ErrSyntax}, {"form", "all x: X. p", 7, api.ErrSyntax},
		{"term", "(f) x", 4, api.ErrSyntax}, {"term", "\\x.", 3, api.ErrSyntax}, {"term", "f !", 2, api.ErrSyntax}, {"term", "\\x: a", 5, api.ErrSyntax},
		{"typ", "a b", 2, api.ErrSyntax}, {"typ", "A", 0, api.ErrSyntax}, {"typ", "a ->", 4, api.ErrSyntax}, {"typ", "a -o b", 2, api.ErrSyntax},
		{"text", "a", 0, api.ErrSyntax}, {"text", "use m", 5, api.ErrSyntax}, {"text", "type a. use M.", 12, api.ErrSyntax}, {"text", "const a.", 7, api.ErrSyntax},
		{"text", "pred p a -> b.", 9, api.ErrSyntax}, {"text", "type .", 5, api.ErrSyntax}, {"text", "type a b.", 7, api.ErrSyntax}, {"text", "mode p (in).", 7, api.ErrSyntax},
		{"text", "rule r: p..", 10, api.ErrSyntax}, {"text", "rule R: p.", 5, api.ErrSyntax}, {"text", "pred p a, b.", 8, api.ErrSyntax}, {"text", "all x. p.", 0, api.ErrSyntax},
		// The errors of lex.Scan are ahead of ErrSyntax, wherever they are.
		{"form", ") #", 2, api.ErrChar}, {"term", "* " + long, 2, api.ErrName}, {"typ", strings.Repeat("* ", 6001), 12000, api.ErrLong},
		{"text", strings.Repeat("*", 20001), 0, api.ErrLong}, {"text", strings.Repeat(" ", 20000) + "%", 0, api.ErrLong},
		// What is wrong with the tree alone has no offset; ErrSyntax is ahead of it.
		{"text", "mode p inn.", 0, api.ErrTree}, {"text", "pred p a a a a a a a a a.", 0, api.ErrTree}, {"text", "mode p in in in in in in in in in.", 0, api.ErrTree},
		{"form", "p a a a a a a a a a", 0, api.ErrTree}, {"term", "X a a a a a a a a a", 0, api.ErrTree}, {"form", "q * p (f a a a a a a a a a)", 0, api.ErrTree},
		{"form", "p a a a a a a a a a *", 21, api.ErrSyntax}, {"text", "mode p inn. mode", 16, api.ErrSyntax},
		{"form", strings.Repeat("!", 100) + "p", 0, api.ErrDeep}, {"form", strings.Repeat("!", 100) + "p a a a a a a a a a", 0, api.ErrDeep},
		{"form", strings.Repeat("!", 5000), 5000, api.ErrSyntax}, {"form", strings.Repeat("!", 5000) + "a", 0, api.ErrLong},
		{"form", "p" + strings.Repeat(" a", 4000), 0, api.ErrLong}, {"form", "p" + strings.Repeat(" a", 3999), 0, api.ErrTree},
		{"term", strings.Repeat("(", 3000) + "x" + strings.Repeat(")", 2999), 6000, api.ErrSyntax},
	} {
		n, at, err := parsers[w.start](w.text)
		if err != w.err || at != w.at {
			t.Errorf("%v %.40q: %v at %v, not %v at %v", w.start, w.text, err, at, w.err, w.at)
		}
		if !reflect.DeepEqual(n, api.Node{}) {
			t.Errorf("%v %.40q: a tree with an error", w.start, w.text)
		}
	}
}

// P2.1, S1: texts that are as large as they may be.
func TestLargeTexts(t *testing.T) {
	n := filled(4000)
	if size, text := syntax.Size(n), print(t, n); size != 4000 || !parses("text", text, n) {
		t.Errorf("the text with %v nodes is not parsed", size)
	}
	deep := strings.Repeat("!", 99) + "p"
	if n, _, err := syntax.ParseForm(deep); err != api.OK || print(t, n) != deep {
		t.Errorf("100 levels: %v", err)
	}
	if !parses("term", strings.Repeat("(", 2999)+"x"+strings.Repeat(")", 2999), x) {
		t.Errorf("2999 parentheses are too many")
	}
	if text := "use m." + strings.Repeat(" ", 19993) + "%"; len(text) != 20000 || !parses("text", text, nd(api.NdText, bd(api.NdUse, "m"))) {
		t.Errorf("20000 bytes are too many")
	}
	long := strings.Repeat("a", 40)
	if !parses("typ", long, nm(long)) {
		t.Errorf("40 bytes are too many")
	}
}

// filled is a text of this many nodes.
func filled(size int) api.Node {
	n := nd(api.NdText)
	for size -= 1; size > 0; {
		l := []api.Node{}
		for i := 0; i < 8 && size > 9; i++ {
			l = append(l, nm("f", a, a, a, a, a, a, a))
			size -= 8
		}
		if len(l) < 8 {
			n.L = append(n.L, bd(api.NdUse, "m"))
			size--
		}
		if len(l) > 0 {
			n.L = append(n.L, bd(api.NdRule, "r", nm("p", l...)))
			size -= 2
		}
	}
	return n
}

// nest puts this many nodes of a kind around a node.
func nest(n api.Node, kind, times int) api.Node {
	for range times {
		n = nd(kind, n)
	}
	return n
}

// P2.1, S2: limits, and the order of errors.
func TestLimits(t *testing.T) {
	nine := nm("p", a, a, a, a, a, a, a, a, a)
	wide := func(size int) api.Node {
		return nd(api.NdText, slices.Repeat([]api.Node{bd(api.NdUse, "m")}, size-1)...)
	}
	endless := nd(api.NdBang, api.Node{})
	endless.L[0] = endless
	shared := nd(api.NdWith, a, b)
	for range 70 {
		shared = nd(api.NdWith, shared, shared)
	}
	for _, w := range []struct {
		n    api.Node
		err  api.Errno
		size int
	}{
		{wide(4000), api.OK, 4000}, {wide(4001), api.ErrLong, 4001}, {wide(5000), api.ErrLong, 4001}, {filled(4000), api.OK, 4000},
		{nest(a, api.NdBang, 99), api.OK, 100}, {nest(a, api.NdBang, 100), api.ErrDeep, 101}, {nest(a, api.NdBang, 3999), api.ErrDeep, 4000},
		{nest(a, api.NdBang, 4000), api.ErrLong, 4001}, {nest(a, api.NdBang, 1000000), api.ErrLong, 4001}, {endless, api.ErrLong, 4001}, {shared, api.ErrLong, 4001},
		{nest(nine, api.NdBang, 98), api.ErrTree, 108}, {nest(nine, api.NdBang, 99), api.ErrDeep, 109}, {nest(nine, -1, 99), api.ErrDeep, 109}, {nest(nine, -1, 4000), api.ErrLong, 4001},
		{nm("p", a, a, a, a, a, a, a, a), api.OK, 9}, {nine, api.ErrTree, 10}, {vr("X", nine.L...), api.ErrTree, 10}, {api.Node{}, api.ErrTree, 1},
	} {
		if err := syntax.Check(w.n); err != w.err {
			t.Errorf("Check of %v nodes = %v, not %v", w.size, err, w.err)
		}
		if size := syntax.Size(w.n); size != w.size {
			t.Errorf("Size = %v, not %v", size, w.size)
		}
		if w.err != api.OK {
			expectRefused(t, w.n, w.err)
		}
	}
}

// expectRefused checks that all functions refuse a tree in the same way, whatever their other arguments are.
func expectRefused(t *testing.T, n api.Node, want api.Errno) {
	t.Helper()
	text, err := syntax.Print(n)
	lay, err2 := syntax.Lay(n, -1)
	small, err3 := syntax.Names(n)
	capital, err4 := syntax.Vars(n)
	at, err5 := syntax.At(n, []int{-1})
	put, err6 := syntax.Put(n, []int{-1}, api.Node{})
	other, err7 := syntax.Put(a, []int{-1}, n)
	renamed, err8 := syntax.Rename(n, "", "")
	plain, err9 := syntax.Plain(n)
	for i, err := range []api.Errno{err, err2, err3, err4, err5, err6, err7, err8, err9} {
		if err != want {
			t.Errorf("function %v: %v, not %v", i, err, want)
		}
	}
	if text+lay != "" || len(small)+len(capital) > 0 {
		t.Errorf("a result with the error %v", want)
	}
	for i, x := range []api.Node{at, put, other, renamed, plain} {
		if !reflect.DeepEqual(x, api.Node{}) {
			t.Errorf("tree %v with the error %v", i, want)
		}
	}
}

// P2.1, S2: each field that a valid tree does not have, and trees at places that do not allow them.
func TestCheck(t *testing.T) {
	rule, lam, arrow := bd(api.NdRule, "r", p), bd(api.NdLam, "x", x), nd(api.NdArrow, a, b)
	for _, n := range []api.Node{
		a, vr("X"), lam, arrow, rule, nd(api.NdText), nd(api.NdText, rule), nm("p", lam), bd(api.NdAll, "X", arrow, p),
		bd(api.NdLam, "x", arrow, vr("X")), bd(api.NdMode, "p", nm("any")), bd(api.NdMode, "in"),
	} {
		if err := syntax.Check(n); err != api.OK {
			t.Errorf("Check of %v = %v", n, err)
		}
	}
	for _, n := range []api.Node{
		{Kind: -1}, {Kind: 32}, {Kind: api.NdName}, nm("X"), nm("all"), nm("a@"), nm(strings.Repeat("a", 41)), vr("x"), vr(""), vr("X@y"), bd(api.NdText, "t"),
		bd(api.NdOne, "one"), nd(api.NdTop, a), nd(api.NdTensor, a), nd(api.NdTensor, a, b, c), bd(api.NdTensor, "x", a, b), nd(api.NdTensor, a, vr("X")), nd(api.NdTensor, a, arrow),
		nd(api.NdBang), nd(api.NdBang, a, b), nd(api.NdBang, rule), nd(api.NdMonad, lam), bd(api.NdMonad, "m", a), nd(api.NdAll, p), bd(api.NdAll, "one", p), bd(api.NdAll, "x"),
		bd(api.NdAll, "x", p, q, r), bd(api.NdAll, "x", nm("t", a), p), bd(api.NdAll, "x", vr("X")), bd(api.NdLam, "x", nd(api.NdOne)), bd(api.NdLam, "x", vr("T"), x), bd(api.NdLam, "\\", x),
		nm("p", nd(api.NdOne)), nm("p", arrow), vr("X", rule), nd(api.NdArrow, a), nd(api.NdArrow, a, nm("t", b)), nd(api.NdArrow, a, vr("X")), bd(api.NdArrow, "->", a, b), nd(api.NdArrow, a, b, c),
		nd(api.NdType), bd(api.NdType, "a", b), nd(api.NdType, vr("X")), nd(api.NdType, a, nm("b", c)), nd(api.NdType, arrow), nd(api.NdExport), nd(api.NdExport, nd(api.NdOne)),
		nd(api.NdConst), nd(api.NdConst, a), nd(api.NdConst, arrow, a), nd(api.NdConst, a, vr("X")), bd(api.NdConst, "a", a, b), nd(api.NdConst, a, arrow, b), nd(api.NdConst, a, nm("b", c)),
		nd(api.NdPred, a), bd(api.NdPred, "P"), bd(api.NdFact, "p", vr("X")), bd(api.NdLast, "p", a, a, a, a, a, a, a, a, a), bd(api.NdPred, "p", nm("f", a)),
		bd(api.NdMode, "p", a), bd(api.NdMode, "p", nm("in", a)), bd(api.NdMode, "P", nm("in")), bd(api.NdMode, "p", vr("In")), bd(api.NdMode, "p", bd(api.NdUse, "in")),
		bd(api.NdRule, "r"), bd(api.NdRule, "r", p, q), nd(api.NdRule, p), bd(api.NdRule, "R", p), bd(api.NdOnce, "r", lam), bd(api.NdMost, "r", vr("X")), bd(api.NdQuery, "q", rule),
		nd(api.NdModule), bd(api.NdModule, "m", a), bd(api.NdUse, "M"), bd(api.NdUse, "use"), nd(api.NdText, a), nd(api.NdText, nd(api.NdText)), nd(api.NdText, rule, lam), nd(api.NdBang, nd(api.NdText)),
	} {
		if err := syntax.Check(n); err != api.ErrTree {
			t.Errorf("Check of %v = %v", n, err)
		}
		expectRefused(t, n, api.ErrTree)
	}
}

// P2.1, S2: trees with something changed, against the chapter's table read from the leaves up.
func TestCheckAll(t *testing.T) {
	m := newMaker(5)
	found := map[api.Errno]int{}
	for n := range manyTrees {
		n = nilled(n)
		list := paths(n)
		for range 1 + m.Intn(2) {
			damage(m, at(&n, list[m.Intn(len(list))]))
			list = paths(n)
		}
		want := api.ErrTree
		if sorts(n) != 0 {
			want = api.OK
		}
		if err := syntax.Check(n); err != want {
			t.Fatalf("Check of %v = %v, not %v", n, err, want)
		}
		found[want]++
	}
	if found[api.OK] < 500 || found[api.ErrTree] < 500 {
		t.Errorf("too few of a kind: %v", found)
	}
}

// damage changes a node somehow.
func damage(m maker, n *api.Node) {
	switch m.Intn(5) {
	case 0:
		n.Kind = m.Intn(34) - 1
	case 1:
		n.Name = m.pick("", "a", "X", "in", "all", "a-b")
	case 2:
		x, _ := m.tree(1)
		n.L = append(n.L, x)
	case 3:
		n.L = n.L[:m.Intn(len(n.L)+1)]
	case 4:
		*n, _ = m.tree(2)
	}
}

// lines is a text of this many items of 46 bytes (with the line feed), and of one of rest bytes.
func lines(count, rest int) api.Node {
	n := nd(api.NdText)
	for range count {
		n.L = append(n.L, bd(api.NdUse, strings.Repeat("m", 40)))
	}
	if rest > 0 {
		n.L = append(n.L, bd(api.NdUse, strings.Repeat("m", rest-6)))
	}
	return n
}

// P2.1, S3: what is too long for a text, in bytes or in tokens.
func TestPrintLong(t *testing.T) {
	full, over := lines(425, 20), lines(425, 26)
	if text := print(t, full); len(text) != 425*46+20 {
		t.Fatalf("%v bytes", len(text))
	}
	for rest, want := range map[int]api.Errno{36: api.OK, 37: api.ErrLong} {
		text, err := syntax.Print(lines(434, rest))
		if err != want || want == api.OK && len(text) != 20000 || want != api.OK && text != "" {
			t.Errorf("Print = %v bytes, %v", len(text), err)
		}
		laid, err := syntax.Lay(lines(434, rest), 50)
		if err != want || want == api.OK && len(laid) != 20000 || want != api.OK && laid != "" {
			t.Errorf("Lay = %v bytes, %v", len(laid), err)
		}
		if _, err := syntax.Lay(lines(434, rest), 19); err != api.ErrArg {
			t.Errorf("Lay with the width 19 = %v", err)
		}
	}
	// In lines of 20 bytes each item has 2 blanks more.
	if _, err := syntax.Lay(full, 20); err != api.ErrLong {
		t.Errorf("Lay of %v items = %v", len(full.L), err)
	}
	if _, err := syntax.Print(over); err != api.OK {
		t.Errorf("Print of %v items = %v", len(over.L), err)
	}
	groups := slices.Repeat([]api.Node{nm("g", x)}, 8)
	most := nd(api.NdText, slices.Repeat([]api.Node{bd(api.NdRule, "r", nm("p", groups...))}, 162)...)
	for tokens, last := range map[int]api.Node{6000: bd(api.NdUse, "m"), 6001: bd(api.NdPred, "p", a)} {
		n := nd(api.NdText, slices.Concat(most.L, []api.Node{bd(api.NdUse, "m"), last})...)
		text, err := syntax.Print(n)
		laid, err2 := syntax.Lay(n, 200)
		list, _, _ := lex.Scan(text)
		switch {
		case tokens == 6000:
			if err != api.OK || err2 != api.OK || len(list) != 6000 || !parses("text", laid, n) {
				t.Errorf("%v tokens: %v, %v", len(list), err, err2)
			}
		case err != api.ErrLong || err2 != api.ErrLong || text+laid != "":
			t.Errorf("%v tokens: %v, %v", tokens, err, err2)
		}
		if _, err := syntax.Lay(n, 201); err != api.ErrArg {
			t.Errorf("Lay with the width 201 = %v", err)
		}
	}
}

// P2.1, S3: lines, and widths.
func TestLay(t *testing.T) {
	n := nd(api.NdTensor, nm("aaaaaaaa"), nd(api.NdTensor, nm("bbbbbbbb"), nm("cc")))
	long := nm("p", nm(strings.Repeat("b", 30)), nm(strings.Repeat("c", 17)), nm(strings.Repeat("d", 18)), nm(strings.Repeat("e", 19)))
	for _, w := range []struct {
		n     api.Node
		width int
		text  string
	}{
		{n, 20, "aaaaaaaa * bbbbbbbb\n  * cc"}, {n, 21, "aaaaaaaa * bbbbbbbb *\n  cc"}, {n, 23, "aaaaaaaa * bbbbbbbb *\n  cc"}, {n, 24, "aaaaaaaa * bbbbbbbb * cc"},
		{long, 20, "p\n  " + long.L[0].Name + "\n  " + long.L[1].Name + "\n  " + long.L[2].Name + "\n  " + long.L[3].Name},
		{nd(api.NdText), 20, ""}, {nd(api.NdText, bd(api.NdUse, "m"), bd(api.NdUse, long.L[3].Name)), 20, "use m.\nuse\n  eeeeeeeeeeeeeeeeeee.\n"},
		{nm("p", nm("cccccccccccccccc"), nm("d")), 20, "p cccccccccccccccc d"}, {nm("p", nm("ccccccccccccccccc"), nm("d"), nm("e")), 20, "p ccccccccccccccccc\n  d e"},
	} {
		if got, err := syntax.Lay(w.n, w.width); err != api.OK || got != w.text {
			t.Errorf("Lay with the width %v = %q, %v; not %q", w.width, got, err, w.text)
		}
	}
	for _, width := range []int{19, 201, 0, -1, 1 << 62, -1 << 63} {
		if text, err := syntax.Lay(n, width); err != api.ErrArg || text != "" {
			t.Errorf("Lay with the width %v = %q, %v", width, text, err)
		}
	}
}

// P2.1, S4: trees that are equal, also if they are not valid.
func TestSame(t *testing.T) {
	odd := api.Node{Kind: -7, Name: "\xff", L: []api.Node{{}, a}}
	list := []api.Node{
		{}, a, b, vr("X"), vr("a"), nm("a", b), nm("a", b, c), nm("a", c, b), nd(api.NdTensor, a, b), nd(api.NdWith, a, b), odd,
		{Kind: -7, Name: "\xff", L: []api.Node{a, {}}}, {Kind: -7, Name: "\xfe", L: odd.L}, nest(a, -1, 100000), nest(b, -1, 100000), nest(a, -1, 100001),
	}
	for i, x := range list {
		for j, y := range list {
			if syntax.Same(x, y) != (i == j) {
				t.Errorf("Same of the trees %v and %v = %v", i, j, i != j)
			}
		}
	}
	if !syntax.Same(api.Node{Kind: 15, Name: "a"}, api.Node{Kind: 15, Name: "a", L: []api.Node{}}) || !syntax.Same(odd, api.Node{Kind: -7, Name: "\xff", L: []api.Node{{L: []api.Node{}}, a}}) {
		t.Errorf("an empty L is not as none")
	}
}

// P2.1, S5: which occurrences count, and in which order.
func TestFree(t *testing.T) {
	for text, want := range map[string]string{
		"type a, b. export c. const d, a: t -> u.":        "a b c d t u |",
		"pred p t (u -> t). fact q. mode p in out.":       "t u |",
		"rule r: p X o- q Y X x p. query s: r.":           "p q x r |X Y",
		"module m. use n.":                                "|",
		"rule r: all x: x. p x.":                          "x p |",
		"rule r: all x. x x o- ex p: q -> x. p X.":        "q |X",
		"rule r: (all x. p x) * x.":                       "p x |",
		"rule r: p (\\X. X) X (\\x. Y y).":                "p y |X Y",
		"rule r: q (\\X. f (\\Y. X Y Z)) * all Z. q Z Y.": "q f |Z Y",
		"rule r: q (\\x. \\y: x. y).":                     "q |",
		"":                                                "|",
	} {
		n, _, err := syntax.Parse(text)
		small, err2 := syntax.Names(n)
		capital, err3 := syntax.Vars(n)
		got := strings.Join(append(small, "|"), " ") + strings.Join(capital, " ")
		if err != api.OK || err2 != api.OK || err3 != api.OK || got != want {
			t.Errorf("the names of %q are %q, not %q", text, got, want)
		}
	}
}

// P2.1, S6: paths that lead somewhere, and others; what fits, and what does not.
func TestAtAndPut(t *testing.T) {
	n := nd(api.NdLolli, a, nd(api.NdWith, nd(api.NdTensor, b, c), d))
	for _, path := range [][]int{{2}, {-1}, {0, 0}, {1, 0, 0, 0}, {1, 0, -1}, {1 << 62}, {-1 << 63}} {
		if x, err := syntax.At(n, path); err != api.ErrNone || !reflect.DeepEqual(x, api.Node{}) {
			t.Errorf("At %v = %v, %v", path, x, err)
		}
		if x, err := syntax.Put(n, path, a); err != api.ErrNone || !reflect.DeepEqual(x, api.Node{}) {
			t.Errorf("Put at %v = %v, %v", path, x, err)
		}
		if _, err := syntax.Put(n, path, nm("X")); err != api.ErrTree {
			t.Errorf("Put of no tree at %v = %v", path, err)
		}
		if _, err := syntax.Put(nm("X"), path, nest(a, api.NdBang, 100)); err != api.ErrTree {
			t.Errorf("Put into no tree at %v = %v", path, err)
		}
	}
	if x, err := syntax.At(n, []int{1, 0}); err != api.OK || !syntax.Same(x, n.L[1].L[0]) {
		t.Errorf("At = %v, %v", x, err)
	}
	for _, path := range [][]int{nil, {}} {
		if x, err := syntax.Put(n, path, nd(api.NdText)); err != api.OK || !syntax.Same(x, nd(api.NdText)) {
			t.Errorf("Put of all = %v, %v", x, err)
		}
	}
	half := filled(2500)
	deep := nest(a, api.NdBang, 60)
	for _, w := range []struct {
		n    api.Node
		path []int
		x    api.Node
		err  api.Errno
	}{
		{half, []int{0}, half, api.ErrLong}, {deep, slices.Repeat([]int{0}, 60), nest(a, api.NdBang, 39), api.OK}, {deep, slices.Repeat([]int{0}, 60), nest(a, api.NdBang, 40), api.ErrDeep},
		{n, []int{1}, nd(api.NdText), api.ErrTree}, {n, []int{1}, vr("X"), api.ErrTree}, {deep, slices.Repeat([]int{0}, 60), nd(api.NdText, bd(api.NdRule, "r", a)), api.ErrTree},
		{filled(3999), []int{0, 0}, nm("p", a), api.OK}, {nd(api.NdText, bd(api.NdUse, "m")), []int{0}, filled(4000), api.ErrLong},
		{bd(api.NdMode, "p", nm("in")), []int{0}, nm("inn"), api.ErrTree}, {bd(api.NdMode, "p", nm("in")), []int{0}, nm("any"), api.OK},
	} {
		if x, err := syntax.Put(w.n, w.path, w.x); err != w.err || (syntax.Size(x) == 1) != (err != api.OK) {
			t.Errorf("Put at %v = %v, not %v", w.path, err, w.err)
		}
	}
}

// P2.1, S7: names that are taken, and that do not fit; the order of errors.
func TestRenameCases(t *testing.T) {
	for _, w := range []struct {
		text, from, to string
		err            api.Errno
		want           string
	}{
		{"all y. p x y", "x", "y", api.ErrTaken, ""}, {"all y. p x y", "x", "Z", api.OK, "all y. p Z y"}, {"all y. p x y", "y", "z", api.OK, "all y. p x y"},
		{"all x: x. p x", "x", "z", api.OK, "all x: z. p x"}, {"all x: x. p x", "x", "x", api.OK, "all x: x. p x"}, {"all x. p y", "y", "y", api.OK, "all x. p y"},
		{"all x: y. p", "y", "x", api.OK, "all x: x. p"}, {"all x: y. p y", "y", "x", api.ErrTaken, ""}, {"p (\\X. Y)", "Y", "X", api.ErrTaken, ""}, {"p (\\X. X) Y", "Y", "X", api.OK, "p (\\X. X) X"},
		{"p X (X a)", "X", "p", api.OK, "p p (p a)"}, {"p X", "p", "P", api.OK, "P X"}, {"p * q", "p", "P", api.ErrTree, ""}, {"all x: t. p", "t", "T", api.ErrTree, ""},
		{"p x", "z", "all", api.ErrArg, ""}, {"p x", "", "z", api.ErrArg, ""}, {"p x", "x", "1", api.ErrArg, ""}, {"p x", "x", strings.Repeat("z", 41), api.ErrArg, ""}, {"p x", "x", strings.Repeat("z", 40), api.OK, "p " + strings.Repeat("z", 40)},
		{"p x", "x@y", "m@n", api.OK, "p x"}, {"p x", "x", "m@n", api.OK, "p m@n"}, {"all y. x * p x", "x", "y", api.ErrTaken, ""}, {"all X. x * p x", "x", "X", api.ErrTaken, ""}, {"x * p x", "x", "X", api.ErrTree, ""},
		{"p (\\x. \\y. x z)", "z", "y", api.ErrTaken, ""}, {"p (\\z. \\y. z)", "z", "y", api.OK, "p (\\z. \\y. z)"}, {"p (\\y. a) z", "z", "y", api.OK, "p (\\y. a) y"},
	} {
		n, _, _ := syntax.ParseForm(w.text)
		got, err := syntax.Rename(n, w.from, w.to)
		text := ""
		if err == api.OK {
			text = print(t, got)
		}
		if err != w.err || text != w.want {
			t.Errorf("Rename of %q from %v to %v = %q, %v", w.text, w.from, w.to, text, err)
		}
	}
	n, _, _ := syntax.Parse("type in. mode in in out. pred in in. rule in: in. use in.")
	got, err := syntax.Rename(n, "in", "z")
	if text := print(t, got); err != api.OK || text != "type z.\nmode in in out.\npred in z.\nrule in: z.\nuse in.\n" {
		t.Errorf("Rename of in = %q, %v", text, err)
	}
}

// P2.1, S8.
func TestPlainForm(t *testing.T) {
	for text, want := range map[string]string{
		"p X o- q X": "q X -o p X", "p <= q": "q => p", "a o- b o- c <= d": "d => c -o b -o a", "!(a o- {b <= c})": "!({c => b} -o a)", "a -o b => c": "a -o b => c",
		"(all x. a o- b) o- all y. c": "(all y. c) -o all x. b -o a",
	} {
		n, _, _ := syntax.ParseForm(text)
		if x, err := syntax.Plain(n); err != api.OK || print(t, x) != want {
			t.Errorf("Plain of %q = %v, %v", text, x, err)
		}
	}
}

// P1: results are new memory, and arguments are not changed.
func TestNewMemory(t *testing.T) {
	n := nd(api.NdFrom, nm("p", x), nm("q", vr("X"), y))
	kept := nilled(n)
	path := []int{1, 0}
	sub := nm("f", a)
	part, _ := syntax.At(n, []int{1})
	put, _ := syntax.Put(n, path, sub)
	again, _ := syntax.Put(n, []int{}, n)
	renamed, _ := syntax.Rename(n, "x", "z")
	plain, _ := syntax.Plain(n)
	for _, r := range []api.Node{part, put, again, renamed, plain} {
		for _, p := range paths(r) {
			over := at(&r, p)
			for i := range over.L {
				over.L[i].Name += "!"
			}
			over.L = append(over.L, api.Node{})
		}
	}
	if !reflect.DeepEqual(n, kept) || !reflect.DeepEqual(sub, nm("f", a)) || !slices.Equal(path, []int{1, 0}) {
		t.Errorf("an argument has changed: %v, %v", n, sub)
	}
}

// P1: any bytes are parsed or refused, with an offset within the text, and no tree if refused.
func TestAnyBytes(t *testing.T) {
	r := rand.New(rand.NewSource(6))
	pieces := strings.Fields(`a X one all ex top ! { } ( ) . , : -> \ -o => o- <= + & * rule type mode use # @ ' 7 - = < %`)
	for range 20000 {
		var text []byte
		for range r.Intn(12) {
			if r.Intn(20) == 0 {
				text = append(text, byte(r.Intn(256)))
			}
			text = append(append(text, pieces[r.Intn(len(pieces))]...), " \n"[r.Intn(2)])
		}
		_, scanAt, scanErr := lex.Scan(string(text))
		for start, parse := range parsers {
			n, at, err := parse(string(text))
			switch {
			case scanErr != api.OK && (err != scanErr || at != scanAt),
				scanErr == api.OK && err != api.OK && (err != api.ErrSyntax || at > len(text)),
				err == api.OK && (at != 0 || syntax.Check(n) != api.OK),
				err != api.OK && !reflect.DeepEqual(n, api.Node{}):
				t.Fatalf("%v %q = %v, %v, %v", start, text, n, at, err)
			}
		}
	}
}
