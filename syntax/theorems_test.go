package syntax_test

import (
	"reflect"
	"slices"
	"sort"
	"strings"
	"testing"

	"peculium/api"
	"peculium/lex"
	"peculium/syntax"
)

// manyTrees yields trees of all sorts, and what parses their texts.
func manyTrees(yield func(api.Node, string) bool) {
	m := newMaker(1)
	for i := range 3000 {
		if n, start := m.tree(1 + i%5); !yield(n, start) {
			return
		}
	}
	for _, n := range smallForms(3) {
		if !yield(n, "form") {
			return
		}
	}
}

// fewTrees yields some of manyTrees.
func fewTrees(yield func(api.Node, string) bool) {
	i := 0
	for n, start := range manyTrees {
		i++
		if i%7 == 0 && !yield(n, start) {
			return
		}
	}
}

// smallForms are all formulas with up to a number of operators over one atom.
func smallForms(most int) []api.Node {
	by := [][]api.Node{{nm("a")}}
	for count := 1; count <= most; count++ {
		var list []api.Node
		for _, x := range by[count-1] {
			list = append(list, nd(api.NdBang, x), nd(api.NdMonad, x), bd(api.NdAll, "x", x))
		}
		for left := range count {
			for _, x := range by[left] {
				for _, y := range by[count-1-left] {
					for kind := range binaries {
						list = append(list, nd(kind, x, y))
					}
				}
			}
		}
		by = append(by, list)
	}
	return slices.Concat(by...)
}

// print prints a tree.
func print(t *testing.T, n api.Node) string {
	t.Helper()
	s, err := syntax.Print(n)
	if err != api.OK {
		t.Fatalf("Print of %v: %v", n, err)
	}
	return s
}

// parses reports whether a text is that of a tree.
func parses(start, text string, n api.Node) bool {
	got, at, err := parsers[start](text)
	return err == api.OK && at == 0 && reflect.DeepEqual(nilled(got), nilled(n))
}

// nilled is a tree with nil for each empty L.
func nilled(n api.Node) api.Node {
	out := api.Node{Kind: n.Kind, Name: n.Name}
	for _, x := range n.L {
		out.L = append(out.L, nilled(x))
	}
	return out
}

// P2.1, S3: the text is the one that another printer writes; S1: parentheses make no node.
func TestCanonicalText(t *testing.T) {
	for n, start := range manyTrees {
		if got, want := print(t, n), written(n); got != want {
			t.Fatalf("Print of %v = %q, not %q", n, got, want)
		}
		if start != "text" && !parses(start, bracketed(n), n) {
			t.Fatalf("%q is not parsed as %v", bracketed(n), n)
		}
	}
	m := newMaker(2)
	for range 500 {
		n := m.item(3)
		if got, want := print(t, n), written(n); got != want || !parses("text", got, nd(api.NdText, n)) {
			t.Fatalf("Print of %v = %q, not %q", n, got, want)
		}
	}
}

// P2.2: what is printed, or laid in lines, is parsed as the tree that was printed. P2.4: Print of it is the same text.
func TestPrintedAndParsed(t *testing.T) {
	for n, start := range manyTrees {
		text := print(t, n)
		if !parses(start, text, n) {
			t.Fatalf("%q is not parsed as %v", text, n)
		}
		for _, width := range []int{20, 33, 200} {
			if laid, err := syntax.Lay(n, width); err != api.OK || !parses(start, laid, n) {
				t.Fatalf("%v: %q is not parsed as %v", err, laid, n)
			}
		}
		back, _, _ := parsers[start](text)
		if again := print(t, back); again != text {
			t.Fatalf("%q is printed as %q", text, again)
		}
	}
}

// withoutBrackets has the texts of the tokens of a text, but for parentheses.
func withoutBrackets(text string) []string {
	list, _, _ := lex.Scan(text)
	var out []string
	for _, x := range list {
		if x.Text != "(" && x.Text != ")" {
			out = append(out, x.Text)
		}
	}
	return out
}

// P2.3: a text that is printed has the tokens of the text that was parsed, but for parentheses.
func TestParsedAndPrinted(t *testing.T) {
	for n, start := range manyTrees {
		text := written(n)
		if start != "text" {
			text = bracketed(n)
		}
		back, _, err := parsers[start](text)
		if err != api.OK || !parses(start, print(t, back), n) {
			t.Fatalf("%q: %v, or parsed as another tree", text, err)
		}
		if !slices.Equal(withoutBrackets(print(t, back)), withoutBrackets(text)) {
			t.Fatalf("%q has other tokens than %q", print(t, back), text)
		}
	}
}

// P2.4: without any pair of its parentheses a canonical text is none, or that of another tree.
func TestLeastBrackets(t *testing.T) {
	for n, start := range manyTrees {
		text := print(t, n)
		var open []int
		for at := range len(text) {
			switch text[at] {
			case '(':
				open = append(open, at)
			case ')':
				from := open[len(open)-1]
				open = open[:len(open)-1]
				if less := text[:from] + " " + text[from+1:at] + " " + text[at+1:]; parses(start, less, n) {
					t.Fatalf("%q does not need the parentheses at %v and %v", text, from, at)
				}
			}
		}
	}
}

// P2.5: Lay has the words of Print, and no line with more than one word is longer than the width; no word could stand in the line ahead.
func TestLines(t *testing.T) {
	for n := range manyTrees {
		text := print(t, n)
		for _, width := range []int{20, 21, 50, 200} {
			laid, err := syntax.Lay(n, width)
			if err != api.OK || !slices.Equal(strings.Fields(laid), strings.Fields(text)) {
				t.Fatalf("Lay of %q = %q, %v", text, laid, err)
			}
			if strings.ReplaceAll(laid, "\n  ", " ") != text {
				t.Fatalf("Lay of %q = %q", text, laid)
			}
			lines := strings.Split(laid, "\n")
			for i, line := range lines {
				words := strings.Fields(line)
				if len(line) > width && len(words) > 1 {
					t.Fatalf("%q is longer than %v", line, width)
				}
				if strings.HasPrefix(line, "  ") && len(lines[i-1])+1+len(words[0]) <= width {
					t.Fatalf("%q could begin in the line %q", line, lines[i-1])
				}
			}
		}
	}
}

// P2.1, S5: Names and Vars; P2.6: those of parts are among those of the tree.
func TestNames(t *testing.T) {
	for n := range manyTrees {
		small, err := syntax.Names(n)
		capital, err2 := syntax.Vars(n)
		if err != api.OK || err2 != api.OK || !slices.Equal(small, names(n, api.NdName)) || !slices.Equal(capital, names(n, api.NdVar)) {
			t.Fatalf("Names of %v = %v, Vars = %v", n, small, capital)
		}
		binder := n.Kind == api.NdLam || n.Kind == api.NdAll || n.Kind == api.NdEx
		for i, x := range n.L {
			if n.Kind == api.NdMode || binder && i == len(n.L)-1 {
				continue
			}
			within, _ := syntax.Names(x)
			within2, _ := syntax.Vars(x)
			for _, name := range slices.Concat(within, within2) {
				if !slices.Contains(slices.Concat(small, capital), name) {
					t.Fatalf("%v is free in %v, but not in %v", name, x, n)
				}
			}
		}
	}
}

// renamed is what Rename should return.
func renamed(n api.Node, from, to string) (api.Node, api.Errno) {
	out := nilled(n)
	for _, o := range occurrences(n) {
		if o.node.Name != from {
			continue
		}
		if from != to && slices.Contains(o.bound, to) {
			return api.Node{}, api.ErrTaken
		}
		x := &out
		for _, i := range o.path {
			x = &x.L[i]
		}
		x.Name, x.Kind = to, api.NdName
		if lex.IsVar(to) {
			x.Kind = api.NdVar
		}
	}
	if sorts(out) == 0 {
		return api.Node{}, api.ErrTree
	}
	return out, api.OK
}

// P2.1, S7: Rename; P2.6: it can be undone.
func TestRename(t *testing.T) {
	errs := map[api.Errno]int{}
	for n := range fewTrees {
		for _, from := range []string{"a", "o", "X"} {
			for _, to := range []string{"a", "b", "X", "Y", "fresh", "Fresh"} {
				got, err := syntax.Rename(n, from, to)
				want, wantErr := renamed(n, from, to)
				if err != wantErr || !reflect.DeepEqual(nilled(got), want) {
					t.Fatalf("Rename of %v from %v to %v = %v, %v; not %v, %v", n, from, to, got, err, want, wantErr)
				}
				errs[err]++
				if !strings.EqualFold(to, "fresh") || err != api.OK {
					continue
				}
				if l, _ := syntax.Names(got); slices.Contains(l, from) {
					t.Fatalf("%v is free in %v", from, got)
				}
				if back, err := syntax.Rename(got, to, from); err != api.OK || !reflect.DeepEqual(nilled(back), nilled(n)) {
					t.Fatalf("Rename of %v back = %v, %v", got, back, err)
				}
			}
		}
	}
	if errs[api.OK] < 1000 || errs[api.ErrTaken] < 100 || errs[api.ErrTree] < 100 {
		t.Errorf("too few of a kind: %v", errs)
	}
}

// P2.7: what is put back changes nothing, and what is put somewhere is there.
func TestPaths(t *testing.T) {
	m := newMaker(3)
	put := 0
	for n := range fewTrees {
		for _, path := range paths(n) {
			x, err := syntax.At(n, path)
			if err != api.OK || !reflect.DeepEqual(nilled(x), nilled(node(n, path))) {
				t.Fatalf("At %v of %v = %v, %v", path, n, x, err)
			}
			if same, err := syntax.Put(n, path, x); err != api.OK || !reflect.DeepEqual(nilled(same), nilled(n)) {
				t.Fatalf("Put back at %v of %v = %v, %v", path, n, same, err)
			}
			other, _ := m.tree(2)
			wrong := append(slices.Clone(path), len(x.L))
			if _, err := syntax.Put(n, wrong, other); err != api.ErrNone {
				t.Fatalf("Put at %v of %v: %v", wrong, n, err)
			}
			want := nilled(n)
			*at(&want, path) = other
			got, err := syntax.Put(n, path, other)
			switch {
			case sorts(want) == 0:
				if err != api.ErrTree {
					t.Fatalf("Put of %v at %v of %v: %v", other, path, n, err)
				}
				continue
			case err != api.OK || !reflect.DeepEqual(nilled(got), nilled(want)):
				t.Fatalf("Put of %v at %v of %v = %v, %v", other, path, n, got, err)
			}
			put++
			if back, err := syntax.At(got, path); err != api.OK || !reflect.DeepEqual(nilled(back), nilled(other)) {
				t.Fatalf("At %v of %v = %v, %v", path, got, back, err)
			}
		}
	}
	if put < 1000 {
		t.Errorf("only %v were put", put)
	}
}

// at points to the node at a path.
func at(n *api.Node, path []int) *api.Node {
	for _, i := range path {
		n = &n.L[i]
	}
	return n
}

// count is how many nodes of a kind a tree has.
func count(n api.Node, kinds ...int) int {
	out := 0
	for _, path := range paths(n) {
		if slices.Contains(kinds, node(n, path).Kind) {
			out++
		}
	}
	return out
}

// turned is what Plain should return.
func turned(n api.Node) api.Node {
	out := api.Node{Kind: n.Kind, Name: n.Name}
	for _, x := range n.L {
		out.L = append(out.L, turned(x))
	}
	if to := map[int]int{api.NdFrom: api.NdLolli, api.NdIf: api.NdImp}[n.Kind]; to != 0 {
		out.Kind = to
		slices.Reverse(out.L)
	}
	return out
}

// P2.1, S8, and P2.8: Plain turns o- and <=, and nothing else.
func TestPlain(t *testing.T) {
	for n := range manyTrees {
		x, err := syntax.Plain(n)
		if err != api.OK || !reflect.DeepEqual(nilled(x), turned(n)) {
			t.Fatalf("Plain of %v = %v, %v", n, x, err)
		}
		if count(x, api.NdFrom, api.NdIf) > 0 || syntax.Size(x) != syntax.Size(n) {
			t.Fatalf("Plain of %v = %v", n, x)
		}
		if again, err := syntax.Plain(x); err != api.OK || !reflect.DeepEqual(again, x) {
			t.Fatalf("Plain of %v = %v, %v", x, again, err)
		}
		for _, list := range []func(api.Node) ([]string, api.Errno){syntax.Names, syntax.Vars} {
			a, _ := list(n)
			b, _ := list(x)
			sort.Strings(a)
			sort.Strings(b)
			if !slices.Equal(a, b) {
				t.Fatalf("%v are free in %v, but %v in %v", a, n, b, x)
			}
		}
	}
}

// P2.9: a text behind another one has the items of both.
func TestExtended(t *testing.T) {
	m := newMaker(4)
	for range 500 {
		a, b := m.text(3), m.text(3)
		both := nd(api.NdText, slices.Concat(a.L, b.L)...)
		for _, between := range []string{"", " ", "% c\n"} {
			if text := print(t, a) + between + print(t, b); !parses("text", text, both) {
				t.Fatalf("%q is not parsed as %v", text, both)
			}
		}
	}
}

// P2.10: the tokens without the last one are a text, or refused at the end.
func TestCutShort(t *testing.T) {
	ends := map[api.Errno]int{}
	for n, start := range manyTrees {
		texts := []string{written(n)}
		if start != "text" {
			texts = append(texts, bracketed(n))
		}
		for _, text := range texts {
			list, _, _ := lex.Scan(text)
			if len(list) == 0 {
				continue
			}
			cut := lex.Join(list[:len(list)-1])
			_, at, err := parsers[start](cut)
			if err != api.OK && (err != api.ErrSyntax || at != len(cut)) {
				t.Fatalf("%v %q: %v at %v", start, cut, err, at)
			}
			ends[err]++
		}
	}
	if ends[api.OK] < 100 || ends[api.ErrSyntax] < 100 {
		t.Errorf("too few of a kind: %v", ends)
	}
}
