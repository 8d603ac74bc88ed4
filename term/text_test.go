package term_test

import (
	"slices"
	"sort"
	"strings"
	"testing"

	"peculium/api"
	"peculium/lex"
	"peculium/term"
)

// P4.1: the texts of terms.
func TestText(t *testing.T) {
	for _, x := range []struct {
		t    api.Term
		want string
	}{
		{con("z"), "z"},
		{con("x@m"), "x@m"},
		{bound(0), "B0"},
		{par(100000), "P100000"},
		{variable(10), "V10"},
		{lam(lam(bound(1))), `\ . \ . B1`},
		{con("f", con("z"), con("s", bound(0)), lam(con("z")), par(1)), `f z ( s B0 ) ( \ . z ) P1`},
		{bound(3, lam(bound(0, variable(2, con("z"))))), `B3 ( \ . B0 ( V2 z ) )`},
		{api.Term{Kind: api.TmCon, Name: "z", Args: []api.Term{}}, "z"},
		{api.Term{}, ""},
		{con("all"), ""},
		{ofDepth(101), ""},
	} {
		if got := term.Text(x.t); got != x.want {
			t.Errorf("Text = %q; expected %q", got, x.want)
		}
	}
	m := newMaker(6)
	for range 3000 {
		x := m.anything(m.Intn(5))
		want := ""
		if rawErrorOf(x) == api.OK {
			want = textOf(x)
		}
		if got := term.Text(x); got != want {
			t.Fatalf("Text of %v = %q; expected %q", x, got, want)
		}
	}
}

// P4.1: texts with as many tokens, and as many bytes, as there can be, and with one more.
func TestTextLimits(t *testing.T) {
	lambda, name := lam(con("z")), con(strings.Repeat("a", 40)) // a lambda has 5 tokens, with its parentheses
	expectLimit := func(what string, limit int, measure func(text string) int, with func(n int) api.Term) {
		t.Helper()
		// The least n with which there is too much, and those ahead of it.
		most := sort.Search(20000, func(n int) bool { return measure(textOf(with(n))) > limit })
		found := map[int]int{}
		for n := range 60 {
			n += most - 30
			x := with(n)
			text := textOf(x)
			found[measure(text)-limit]++
			want := choose(measure(text) > limit, "", text)
			if got := term.Text(x); rawErrorOf(x) != api.OK || got != want {
				t.Errorf("%v %v: a text of %v bytes", measure(text), what, len(got))
			}
		}
		if found[0] == 0 || found[1] == 0 {
			t.Errorf("no texts at the limit of %v", what)
		}
	}
	expectLimit("tokens", 6000, func(text string) int { return len(strings.Fields(text)) }, func(n int) api.Term {
		return joined(slices.Concat(slices.Repeat([]api.Term{lambda}, 750), slices.Repeat([]api.Term{con("z")}, n)))
	})
	expectLimit("bytes", 20000, func(text string) int { return len(text) }, func(n int) api.Term {
		last := con(strings.Repeat("a", 1+n%40))
		return joined(append(slices.Repeat([]api.Term{name}, n/40), last))
	})
}

// P4.1: what texts denote, and where they go wrong.
func TestRead(t *testing.T) {
	for _, x := range []struct {
		text string
		want string
		at   int
		e    api.Errno
	}{
		{"z", "z", 0, api.OK},
		{"f (z) ((\\.(s(B0))))", `f z ( \ . s B0 )`, 0, api.OK},
		{"((f z))", "f z", 0, api.OK},
		{"(((z)))", "z", 0, api.OK},
		{"\\.((\\.(B1)))", `\ . \ . B1`, 0, api.OK},
		{" f % a comment (\n\tz", "f z", 0, api.OK},
		{"f(s z)z", "f ( s z ) z", 0, api.OK},
		{"B0 P100000 V7", "B0 P100000 V7", 0, api.OK},
		{"o o", "o o", 0, api.OK},
		{"f z z z z z z z (s z)", "f z z z z z z z ( s z )", 0, api.OK},
		{"", "", 0, api.ErrTerm},
		{"   ", "", 3, api.ErrTerm},
		{"% z", "", 3, api.ErrTerm},
		{"( f ) z", "", 6, api.ErrTerm},
		{"f \\ . z", "", 2, api.ErrTerm},
		{"f ( z", "", 5, api.ErrTerm},
		{"f ( z  % (", "", 10, api.ErrTerm},
		{"f ( )", "", 4, api.ErrTerm},
		{"f ( ( z ) z )", "", 10, api.ErrTerm},
		{"( z ) )", "", 6, api.ErrTerm},
		{"z )", "", 2, api.ErrTerm},
		{")", "", 0, api.ErrTerm},
		{"\\", "", 1, api.ErrTerm},
		{"\\ .", "", 3, api.ErrTerm},
		{"\\ z", "", 2, api.ErrTerm},
		{"\\ . . z", "", 4, api.ErrTerm},
		{"\\ x . z", "", 2, api.ErrTerm},
		{"( \\ . z ) z", "", 10, api.ErrTerm},
		{"\\ . ( z ) z", "", 10, api.ErrTerm},
		{"\\ . ( f ) ( z )", "", 10, api.ErrTerm},
		{"f , z", "", 2, api.ErrTerm},
		{"f all", "", 2, api.ErrTerm},
		{"all", "", 0, api.ErrTerm},
		{"f X", "", 2, api.ErrTerm},
		{"X z", "", 0, api.ErrTerm},
		{"B", "", 0, api.ErrTerm},
		{"B00", "", 0, api.ErrTerm},
		{"P01", "", 0, api.ErrTerm},
		{"V1x", "", 0, api.ErrTerm},
		{"V1_0", "", 0, api.ErrTerm},
		{"B0x1", "", 0, api.ErrTerm},
		{"C1", "", 0, api.ErrTerm},
		{"B100001", "", 0, api.ErrTerm},
		{"V" + strings.Repeat("9", 39), "", 0, api.ErrTerm},
		{"B18446744073709551616", "", 0, api.ErrTerm},
		{"f z z z z z z z z z", "", 18, api.ErrTerm},
		{"f z z z z z z z z (", "", 18, api.ErrTerm},
		{"f z z z z z z z z B", "", 18, api.ErrTerm},
		{"f z z z z z z z z )", "", 18, api.ErrTerm},
		{"f ( s z z z z z z z z B0 )", "", 22, api.ErrTerm},
		{"#", "", 0, api.ErrChar},
		{"f ) #", "", 4, api.ErrChar},
		{"z " + strings.Repeat("a", 41), "", 2, api.ErrName},
		{strings.Repeat("z ", 6001), "", 12000, api.ErrLong},
		{strings.Repeat(" ", 20000) + "z", "", 0, api.ErrLong},
		{strings.Repeat(" ", 19999) + "z", "z", 0, api.OK},
		{strings.Repeat(" ", 20000), "", 20000, api.ErrTerm},
		{strings.Repeat("( ", 100) + "z" + strings.Repeat(" )", 100), "z", 0, api.OK},
		{strings.Repeat("( ", 101) + "z" + strings.Repeat(" )", 101), "", 200, api.ErrTerm},
		{"f" + strings.Repeat(" ( s", 100), "", 401, api.ErrTerm},
		{"f ( z ) " + strings.Repeat("( ", 101), "", 208, api.ErrTerm},
		{strings.Repeat("\\ . ", 99) + "z", strings.Repeat(`\ . `, 99) + "z", 0, api.OK},
		{strings.Repeat("\\ . ", 100) + "z", "", 0, api.ErrDeep},
		{strings.Repeat("\\.", 2999) + "z", "", 0, api.ErrDeep},
		{strings.Repeat("\\.", 2999) + "z)", "", 5999, api.ErrTerm},
		{strings.Repeat("\\.", 3000), "", 6000, api.ErrTerm},
	} {
		got, at, e := term.Read(x.text)
		if at != x.at {
			t.Errorf("Read(%.60q) goes wrong at %v; expected %v", x.text, at, x.at)
		}
		expect(t, "Read of "+x.text[:min(len(x.text), 60)], got, e, x.want, x.e)
	}
	wide := textOf(ofSize(4001))
	if _, at, e := term.Read(wide); at != 0 || e != api.ErrLong {
		t.Errorf("Read of 4001 nodes: %v, %v", at, e)
	}
	if x, _, e := term.Read(textOf(ofSize(4000))); e != api.OK || !same(x, ofSize(4000)) {
		t.Errorf("Read of 4000 nodes: %v", e)
	}
}

// loosely writes a term with more parentheses than are needed, and blanks and comments.
func (m maker) loosely(t api.Term, isArg bool) string {
	blank := func() string { return pick(m, []string{" ", "", " ", "\n", "\t ", " % ) (\n"}) }
	text := ""
	switch t.Kind {
	case api.TmLam:
		text = `\` + blank() + "." + blank() + m.loosely(t.Args[0], false)
	default:
		text = textOf(api.Term{Kind: t.Kind, N: t.N, Name: t.Name})
		for _, x := range t.Args {
			text += " " + blank() + m.loosely(x, true)
		}
	}
	need := isArg && (t.Kind == api.TmLam || len(t.Args) > 0)
	for need || m.Intn(4) == 0 {
		text = "(" + blank() + text + blank() + ")"
		need = false
	}
	return text
}

// P4.1: a text with parentheses, blanks and comments denotes the term; also one at the limit of parentheses.
func TestReadLoosely(t *testing.T) {
	m := newMaker(7)
	for range 4000 {
		x := m.raw(m.Intn(5), 1)
		text := m.loosely(x, false)
		if len(text) > 15000 {
			continue
		}
		got, at, e := term.Read(text)
		if e != api.OK || at != 0 || !same(got, x) {
			t.Fatalf("Read(%q) = %v, %v, %v", text, got, at, e)
		}
	}
}

// P4.1: texts that are cut short, or have tokens changed, go wrong where no end makes them terms.
func TestReadWrong(t *testing.T) {
	m := newMaker(8)
	pool := strings.Fields(`( ) \ . z f B0 P1 V2 B01 X all , { -o B100000 P100001 o@m`)
	found := map[bool]int{}
	for range 6000 {
		x := m.raw(m.Intn(4), 1)
		list, _, e := lex.Scan(m.loosely(x, false))
		if e != api.OK || len(list) > 60 {
			continue
		}
		for range m.Intn(3) {
			k := m.Intn(len(list) + 1)
			switch word, _, _ := lex.Scan(pick(m, pool)); m.Intn(4) {
			case 0:
				list = slices.Insert(list, k, word...)
			case 1:
				list = slices.Replace(list, k, min(k+1, len(list)), word...)
			case 2:
				list = slices.Delete(list, k, min(k+1, len(list)))
			case 3:
				list = list[:k]
			}
		}
		text := lex.Tight(list)
		list, _, e = lex.Scan(text)
		if e != api.OK {
			t.Fatalf("%q is not scanned", text)
		}
		at := wrongAt(text, list)
		_, got, err := term.Read(text)
		switch {
		case at < 0 && (err == api.ErrTerm || got != 0):
			t.Fatalf("Read(%q) = %v, %v", text, got, err)
		case at >= 0 && (err != api.ErrTerm || got != at):
			t.Fatalf("Read(%q) = %v, %v; expected %v", text, got, err, at)
		}
		found[at < 0]++
	}
	if found[true] < 1000 || found[false] < 1000 {
		t.Errorf("too few of a kind: %v", found)
	}
}

// P4.1: each beginning of a text, and each text of a few tokens.
func TestReadAll(t *testing.T) {
	whole := `( f ( \ . B0 ( z ) ( s z ) ) P1 ( ( V2 ) ) ( \ . ( \ . B1 ) ) )`
	for end := range len(whole) + 1 {
		text := whole[:end]
		list, _, _ := lex.Scan(text)
		at := wrongAt(text, list)
		if _, got, e := term.Read(text); got != max(at, 0) || (e == api.OK) != (at < 0) {
			t.Errorf("Read(%q) = %v, %v; expected %v", text, got, e, at)
		}
	}
	var try func(text string, left int)
	try = func(text string, left int) {
		list, _, _ := lex.Scan(text)
		at := wrongAt(text, list)
		if _, got, e := term.Read(text); got != max(at, 0) || (e == api.OK) != (at < 0) {
			t.Errorf("Read(%q) = %v, %v; expected %v", text, got, e, at)
		}
		for _, word := range []string{"(", ")", `\`, ".", "z", "B0", "B"} {
			if left > 0 {
				try(text+word+" ", left-1)
			}
		}
	}
	try("", 5)
}
