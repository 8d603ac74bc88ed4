package lex_test

import (
	"slices"
	"strings"
	"testing"

	"peculium/api"
	"peculium/lex"
)

// tok makes a token.
func tok(kind int, text string, at int) api.Token {
	return api.Token{Kind: kind, Text: text, At: at}
}

func name(s string) api.Token { return tok(api.TkName, s, 0) }
func sign(s string) api.Token { return tok(api.TkSign, s, 0) }

// repeat makes a list of n times the same token.
func repeat(t api.Token, n int) []api.Token {
	return slices.Repeat([]api.Token{t}, n)
}

// P1.1: the texts of the chapter's examples, and of its definitions, with each token's Kind and At.
func TestScanTokens(t *testing.T) {
	const n, v, s, w = api.TkName, api.TkVar, api.TkSign, api.TkWord
	for text, want := range map[string][]api.Token{
		"":            nil,
		" \t\n":       nil,
		"%":           nil,
		"% a # \xff":  nil,
		"%\n%a\n\t% ": nil,
		"rule r : all x. p x -o q.": {
			tok(w, "rule", 0), tok(n, "r", 5), tok(s, ":", 7), tok(w, "all", 9), tok(n, "x", 13), tok(s, ".", 14),
			tok(n, "p", 16), tok(n, "x", 18), tok(s, "-o", 20), tok(n, "q", 23), tok(s, ".", 24),
		},
		"a o- B1 <= c'@m": {tok(n, "a", 0), tok(s, "o-", 2), tok(v, "B1", 5), tok(s, "<=", 8), tok(n, "c'@m", 11)},
		"o-o":             {tok(s, "o-", 0), tok(n, "o", 2)},
		"o -o":            {tok(n, "o", 0), tok(s, "-o", 2)},
		"-o-o":            {tok(s, "-o", 0), tok(s, "-o", 2)},
		"-o->":            {tok(s, "-o", 0), tok(s, "->", 2)},
		"-o.x":            {tok(s, "-o", 0), tok(s, ".", 2), tok(n, "x", 3)},
		"-o%o":            {tok(s, "-o", 0)},
		"o%\n-o":          {tok(n, "o", 0), tok(s, "-o", 3)},
		"oo-o":            {tok(n, "oo", 0), tok(s, "-o", 2)},
		"O-o":             {tok(v, "O", 0), tok(s, "-o", 1)},
		"o@o-o":           {tok(n, "o@o", 0), tok(s, "-o", 3)},
		"a->b=>c<=d":      {tok(n, "a", 0), tok(s, "->", 1), tok(n, "b", 3), tok(s, "=>", 4), tok(n, "c", 6), tok(s, "<=", 7), tok(n, "d", 9)},
		"a%b\nc":          {tok(n, "a", 0), tok(n, "c", 4)},
		"aB'_9z Z'_9zB":   {tok(n, "aB'_9z", 0), tok(v, "Z'_9zB", 7)},
		"all@one x@all":   {tok(n, "all@one", 0), tok(n, "x@all", 8)},
		"alls All all'":   {tok(n, "alls", 0), tok(v, "All", 5), tok(n, "all'", 9)},
		"aLL tYpe oNE":    {tok(n, "aLL", 0), tok(n, "tYpe", 4), tok(n, "oNE", 9)},
		"all.ex":          {tok(w, "all", 0), tok(s, ".", 3), tok(w, "ex", 4)},
	} {
		got, at, err := lex.Scan(text)
		if err != api.OK || at != 0 || !slices.Equal(got, want) {
			t.Errorf("Scan(%q) = %v, %v, %v; expected %v", text, got, at, err, want)
		}
	}
}

// P1.1: where texts are refused, and as what.
func TestScanErrors(t *testing.T) {
	for _, x := range []struct {
		text string
		at   int
		err  api.Errno
	}{
		{"-ox", 0, api.ErrChar}, {"-o'", 0, api.ErrChar}, {"-o_", 0, api.ErrChar}, {"-o1", 0, api.ErrChar},
		{"-oO", 0, api.ErrChar}, {"-o@", 2, api.ErrChar}, {"o->", 2, api.ErrChar}, {"p % q\n#", 6, api.ErrChar},
		{"a@B", 1, api.ErrChar}, {"a@", 1, api.ErrChar}, {"a@ b", 1, api.ErrChar}, {"a@1", 1, api.ErrChar},
		{"a @b", 2, api.ErrChar}, {"A@b", 1, api.ErrChar}, {"a@b@c", 3, api.ErrChar}, {"a@b'@", 4, api.ErrChar},
		{"-", 0, api.ErrChar}, {"- o", 0, api.ErrChar}, {"- >", 0, api.ErrChar}, {"=", 0, api.ErrChar}, {"= >", 0, api.ErrChar},
		{"==>", 0, api.ErrChar}, {"<", 0, api.ErrChar}, {"<-", 0, api.ErrChar}, {">", 0, api.ErrChar}, {"=<", 0, api.ErrChar},
		{"a 'b", 2, api.ErrChar}, {"_a", 0, api.ErrChar}, {"1a", 0, api.ErrChar}, {"a\r", 1, api.ErrChar}, {"a\v", 1, api.ErrChar},
		{"\xff", 0, api.ErrChar}, {"a\x00", 1, api.ErrChar}, {"aé", 1, api.ErrChar}, {"# $", 0, api.ErrChar},
	} {
		expectRefused(t, x.text, x.at, x.err)
	}
}

func expectRefused(t *testing.T, text string, at int, err api.Errno) {
	t.Helper()
	list, gotAt, gotErr := lex.Scan(text)
	if len(list) != 0 || gotAt != at || gotErr != err {
		t.Errorf("Scan(%.60q) = %.60v, %v, %v; expected no tokens, %v, %v", text, list, gotAt, gotErr, at, err)
	}
}

// P1.1: names may have 40 bytes, and no more, of whichever kind they are.
func TestScanNameLimit(t *testing.T) {
	for _, x := range []struct {
		longest string
		kind    int
	}{
		{strings.Repeat("a", 40), api.TkName},
		{"a@" + strings.Repeat("b", 38), api.TkName},
		{strings.Repeat("a", 38) + "@b", api.TkName},
		{"A" + strings.Repeat("'", 39), api.TkVar},
	} {
		list, _, err := lex.Scan(" " + x.longest + " ")
		if err != api.OK || !slices.Equal(list, []api.Token{tok(x.kind, x.longest, 1)}) {
			t.Errorf("Scan of %q = %v, %v", x.longest, list, err)
		}
		expectRefused(t, "p "+x.longest+"1", 2, api.ErrName)
	}
	expectRefused(t, strings.Repeat("a", 41)+" #", 0, api.ErrName)
	expectRefused(t, strings.Repeat("a", 41)+"@B", 0, api.ErrName)
	expectRefused(t, "# "+strings.Repeat("a", 41), 0, api.ErrChar)
	expectRefused(t, strings.Repeat("a", 20000), 0, api.ErrName)
	list, _, err := lex.Scan("%" + strings.Repeat("a", 41))
	if err != api.OK || len(list) != 0 {
		t.Errorf("a long comment: %v, %v", list, err)
	}
}

// P1.1: texts may have 20000 bytes, and no more; with more of them nothing else matters.
func TestScanTextLimit(t *testing.T) {
	list, at, err := lex.Scan("a" + strings.Repeat(" ", 19998) + "b")
	if err != api.OK || at != 0 || !slices.Equal(list, []api.Token{tok(api.TkName, "a", 0), tok(api.TkName, "b", 19999)}) {
		t.Errorf("a text of 20000 bytes: %v, %v, %v", list, at, err)
	}
	expectRefused(t, strings.Repeat(" ", 20001), 0, api.ErrLong)
	expectRefused(t, "a #"+strings.Repeat(" ", 20000), 0, api.ErrLong)
	expectRefused(t, "%"+strings.Repeat("\n", 20000), 0, api.ErrLong)
}

// P1.1: texts may have 6000 tokens; the next one is too many, whatever it is, unless what stands there is none.
func TestScanTokenLimit(t *testing.T) {
	full := strings.Repeat("x ", 6000)
	list, at, err := lex.Scan(full + "% x\n")
	if err != api.OK || at != 0 || len(list) != 6000 || list[5999] != tok(api.TkName, "x", 11998) {
		t.Errorf("a text of 6000 tokens: %v tokens, %v, %v", len(list), at, err)
	}
	for _, more := range []string{"x", "X", "all", ".", "-o", "o-", "x #", strings.Repeat("x", 41), strings.Repeat("X", 41)} {
		expectRefused(t, full+"%\n"+more, 12002, api.ErrLong)
	}
	for _, more := range []string{"#", "-", "-ox", "=", "1", "@"} {
		expectRefused(t, full+more+" x", 12000, api.ErrChar)
	}
	expectRefused(t, "#"+full+"x", 0, api.ErrChar)
	expectRefused(t, strings.Repeat("x", 41)+full+"x", 0, api.ErrName)
	expectRefused(t, full+"x #", 12000, api.ErrLong)
}

// P1.1: each byte, alone and behind a name.
func TestScanBytes(t *testing.T) {
	for c := range 256 {
		for _, text := range []string{string([]byte{byte(c)}), string([]byte{'a', byte(c)}), string([]byte{'-', 'o', byte(c)}), string([]byte{'a', '@', byte(c)}), string([]byte{'%', byte(c), 'a'})} {
			expectReferred(t, text)
		}
	}
}

// P1.1: Scan agrees with a scanner that is made in another way.
func TestScanReferred(t *testing.T) {
	for text := range allTexts {
		expectReferred(t, text)
	}
}

func expectReferred(t *testing.T, text string) {
	t.Helper()
	list, at, err := lex.Scan(text)
	wantList, wantAt, wantErr := refer(text)
	if !slices.Equal(list, wantList) || at != wantAt || err != wantErr {
		t.Errorf("Scan(%q) = %v, %v, %v; expected %v, %v, %v", text, list, at, err, wantList, wantAt, wantErr)
	}
}

// P1.1: tokens are valid if scanning them gives just them, at any place.
func TestCheck(t *testing.T) {
	for _, at := range []int{0, 7, -3, 1 << 40} {
		for _, x := range []api.Token{
			name("a"), name("o"), name("all'"), name("all@all"), name("c'@m"), name(strings.Repeat("a", 40)),
			tok(api.TkVar, "X", 0), tok(api.TkVar, strings.Repeat("X", 40), 0),
		} {
			expectCheck(t, tok(x.Kind, x.Text, at), api.OK)
		}
		for _, s := range wantSigns {
			expectCheck(t, tok(api.TkSign, s, at), api.OK)
		}
		for _, s := range wantWords {
			expectCheck(t, tok(api.TkWord, s, at), api.OK)
		}
	}
	for _, text := range []string{
		"", " ", "a ", " a", "a%", "%", "a b", "a.", "a@", "@a", "a@B", "A@b", "a@b@c", "o-o", "-ox", "-", "=", "<", ">", "@", "#", "1", "_", "'", "\xff",
		"\n", ". ", "->%", strings.Repeat("a", 41), strings.Repeat("X", 41), strings.Repeat(" ", 20000) + "a", strings.Repeat("a", 20001),
	} {
		for kind := -1; kind <= 6; kind++ {
			expectCheck(t, tok(kind, text, 0), api.ErrToken)
		}
	}
	for text, right := range map[string]int{"a": api.TkName, "a@b": api.TkName, "X": api.TkVar, "o-": api.TkSign, ".": api.TkSign, "all": api.TkWord} {
		for kind := -1; kind <= 6; kind++ {
			if kind != right {
				expectCheck(t, tok(kind, text, 0), api.ErrToken)
			}
		}
	}
}

func expectCheck(t *testing.T, x api.Token, want api.Errno) {
	t.Helper()
	if got := lex.Check(x); got != want {
		t.Errorf("Check(%.60v) = %v; expected %v", x, got, want)
	}
}

// P1.1: the keywords and the signs, in order, and each time in new memory.
func TestWordsAndSigns(t *testing.T) {
	for range 2 {
		words, signs := lex.Words(), lex.Signs()
		if !slices.Equal(words, wantWords) || !slices.Equal(signs, wantSigns) {
			t.Errorf("Words = %q, Signs = %q", words, signs)
		}
		clear(words)
		clear(signs)
	}
	for _, s := range wantWords {
		if list, _, err := lex.Scan(s); err != api.OK || !slices.Equal(list, []api.Token{tok(api.TkWord, s, 0)}) {
			t.Errorf("Scan(%q) = %v, %v", s, list, err)
		}
	}
	for _, s := range wantSigns {
		if list, _, err := lex.Scan(s); err != api.OK || !slices.Equal(list, []api.Token{tok(api.TkSign, s, 0)}) {
			t.Errorf("Scan(%q) = %v, %v", s, list, err)
		}
	}
}

// P1.1: which strings are names.
func TestNames(t *testing.T) {
	for _, x := range []struct {
		s                    string
		name, plain, capital bool
	}{
		{"o", true, true, false}, {"x@m", true, false, false}, {"X", false, false, true}, {"p'_1Z", true, true, false}, {"P'_1z", false, false, true},
		{"all@m", true, false, false}, {"m@all", true, false, false}, {"alls", true, true, false}, {"All", false, false, true},
		{strings.Repeat("a", 40), true, true, false}, {strings.Repeat("A", 40), false, false, true}, {"a@" + strings.Repeat("a", 38), true, false, false},
		{strings.Repeat("a", 41), false, false, false}, {strings.Repeat("A", 41), false, false, false}, {"a@" + strings.Repeat("a", 39), false, false, false},
		{strings.Repeat("a", 30000), false, false, false}, {"", false, false, false}, {"x y", false, false, false}, {" x", false, false, false},
		{"x ", false, false, false}, {"x\n", false, false, false}, {"x%", false, false, false}, {"%\nx", false, false, false}, {" X", false, false, false},
		{"X%", false, false, false}, {"X@m", false, false, false}, {"x@M", false, false, false}, {"x@m@n", false, false, false}, {"x@", false, false, false},
		{"@x", false, false, false}, {"1", false, false, false}, {"_", false, false, false}, {"'a", false, false, false}, {".", false, false, false},
		{"o-", false, false, false}, {"-o", false, false, false}, {"é", false, false, false}, {"xé", false, false, false}, {"x\xff", false, false, false},
	} {
		if a, b, c := lex.IsName(x.s), lex.IsPlain(x.s), lex.IsVar(x.s); a != x.name || b != x.plain || c != x.capital {
			t.Errorf("%.60q: %v, %v, %v; expected %v, %v, %v", x.s, a, b, c, x.name, x.plain, x.capital)
		}
	}
	for _, s := range wantWords {
		if lex.IsName(s) || lex.IsPlain(s) || lex.IsVar(s) {
			t.Errorf("the keyword %q is a name", s)
		}
	}
}

// P1.1: tokens and names are what is scanned as one token, of any text.
func TestCheckScanned(t *testing.T) {
	expectScanned := func(s string) {
		t.Helper()
		list, _, err := lex.Scan(s)
		is := func(kind int) bool { return err == api.OK && slices.Equal(list, []api.Token{tok(kind, s, 0)}) }
		for kind := -1; kind <= 6; kind++ {
			if got := lex.Check(tok(kind, s, 3)) == api.OK; got != is(kind) {
				t.Errorf("Check of %q as %v: %v", s, kind, got)
			}
		}
		small, capital := is(api.TkName), is(api.TkVar)
		plain := small && !strings.Contains(s, "@")
		if a, b, c := lex.IsName(s), lex.IsPlain(s), lex.IsVar(s); a != small || b != plain || c != capital {
			t.Errorf("%q: %v, %v, %v; expected %v, %v, %v", s, a, b, c, small, plain, capital)
		}
	}
	for s := range shortTexts("aozAZ09_'@- %\n>=<.", 4) {
		expectScanned(s)
	}
	for c := range 256 {
		b := string([]byte{byte(c)})
		for _, s := range []string{"", "a", "A", "a@", "a@a", "a@a@a", "al", "-", "mod", "o"} {
			expectScanned(s + b)
			expectScanned(b + s)
			expectScanned(s + b + "l")
			expectScanned(s + b + "e")
		}
	}
}

// P1.1: lists are the same by Kinds and Texts, of whatever values.
func TestSame(t *testing.T) {
	a, b := name("a"), tok(api.TkName, "a", 5)
	odd := tok(-7, "no token\xff", 0)
	for _, x := range []struct {
		a, b []api.Token
		want bool
	}{
		{nil, nil, true}, {nil, []api.Token{}, true}, {nil, []api.Token{a}, false}, {[]api.Token{a}, nil, false},
		{[]api.Token{a}, []api.Token{b}, true}, {[]api.Token{odd}, []api.Token{odd}, true}, {[]api.Token{a}, []api.Token{a, a}, false},
		{[]api.Token{a}, []api.Token{name("b")}, false}, {[]api.Token{a}, []api.Token{tok(api.TkVar, "a", 0)}, false},
		{[]api.Token{a, odd}, []api.Token{odd, a}, false}, {[]api.Token{a, odd}, []api.Token{b, odd}, true}, {[]api.Token{a, a}, []api.Token{a, name("b")}, false},
	} {
		if got := lex.Same(x.a, x.b); got != x.want {
			t.Errorf("Same(%v, %v) = %v", x.a, x.b, got)
		}
	}
}

// P1.1: the texts of tokens.
func TestWriteTokens(t *testing.T) {
	for _, x := range []struct{ text, join, tight string }{
		{"", "", ""}, {" % a", "", ""}, {"a", "a", "a"}, {"p x -o q", "p x -o q", "p x-o q"}, {"o ->", "o ->", "o ->"}, {"o-o", "o- o", "o-o"},
		{"o -o", "o -o", "o -o"}, {"-o o", "-o o", "-o o"}, {"-o -o", "-o -o", "-o-o"}, {"o- -> a", "o- -> a", "o-->a"}, {"oo ->", "oo ->", "oo->"},
		{"a X", "a X", "a X"}, {"a . X", "a . X", "a.X"}, {"all ex", "all ex", "all ex"}, {"rule r:p.", "rule r : p .", "rule r:p."},
		{"o@o -o X", "o@o -o X", "o@o-o X"}, {"{ ! p * q } => \\ x . x", "{ ! p * q } => \\ x . x", "{!p*q}=>\\x.x"},
	} {
		list, _, _ := lex.Scan(x.text)
		if join, tight := lex.Join(list), lex.Tight(list); join != x.join || tight != x.tight {
			t.Errorf("%q: Join = %q, Tight = %q; expected %q, %q", x.text, join, tight, x.join, x.tight)
		}
	}
	list := []api.Token{tok(api.TkName, "p", 9), tok(api.TkSign, ".", -1)}
	if join, tight := lex.Join(list), lex.Tight(list); join != "p ." || tight != "p." || list[0] != tok(api.TkName, "p", 9) {
		t.Errorf("tokens that stand anywhere: %q, %q", join, tight)
	}
}

// expectWritten checks the lengths of what Join and Tight return.
func expectWritten(t *testing.T, list []api.Token, join, tight int) {
	t.Helper()
	if a, b := len(lex.Join(list)), len(lex.Tight(list)); a != join || b != tight {
		t.Errorf("%v tokens: Join has %v bytes, Tight %v; expected %v, %v", len(list), a, b, join, tight)
	}
}

// P1.1: what cannot be written as a text is written as the empty one.
func TestWriteLimits(t *testing.T) {
	expectWritten(t, nil, 0, 0)
	expectWritten(t, []api.Token{{}}, 0, 0)
	expectWritten(t, []api.Token{name("all")}, 0, 0)
	expectWritten(t, []api.Token{name("a"), sign("."), name("a b")}, 0, 0)
	expectWritten(t, []api.Token{sign("#"), name("a")}, 0, 0)
	expectWritten(t, []api.Token{name("a"), name("%"), name("b")}, 0, 0)

	expectWritten(t, repeat(sign("."), 6000), 11999, 6000)
	expectWritten(t, repeat(sign("."), 6001), 0, 0)
	expectWritten(t, repeat(name("x"), 6000), 11999, 11999)
	expectWritten(t, repeat(name("x"), 6001), 0, 0)

	// 487 names of 40 bytes with the spaces between them are 19966 bytes.
	names := repeat(name(strings.Repeat("x", 40)), 487)
	expectWritten(t, append(slices.Clone(names), name(strings.Repeat("x", 33))), 20000, 20000)
	expectWritten(t, append(slices.Clone(names), name(strings.Repeat("x", 34))), 0, 0)

	// 500 times a name of 39 bytes with a sign are 20000 bytes without spaces, and too many with them.
	pairs := slices.Repeat([]api.Token{name(strings.Repeat("x", 39)), sign(".")}, 500)
	expectWritten(t, pairs, 0, 20000)
	expectWritten(t, append(slices.Clone(pairs), sign(".")), 0, 0)
}

// P1.1: lines, and places in them, of texts of any length.
func TestLines(t *testing.T) {
	for text, want := range map[string][]int{
		"": {0}, "a": {0}, "\n": {0, 1}, "a\n": {0, 2}, "\n\na": {0, 1, 2}, "ab\nc": {0, 3}, "a%\n#\r\xff\n": {0, 3, 7},
	} {
		if got := lex.Lines(text); !slices.Equal(got, want) {
			t.Errorf("Lines(%q) = %v; expected %v", text, got, want)
		}
	}
	if got := lex.Lines(strings.Repeat("\n", 30000)); len(got) != 30001 || got[30000] != 30000 {
		t.Errorf("Lines of a long text: %v", len(got))
	}
}

func TestPlace(t *testing.T) {
	const least = -1 << 63
	long := strings.Repeat("a\n", 20000)
	for _, x := range []struct {
		text             string
		at, line, column int
		err              api.Errno
	}{
		{"ab\nc", 0, 1, 1, api.OK}, {"ab\nc", 2, 1, 3, api.OK}, {"ab\nc", 3, 2, 1, api.OK}, {"ab\nc", 4, 2, 2, api.OK},
		{"ab\nc", 5, 0, 0, api.ErrArg}, {"ab\nc", -1, 0, 0, api.ErrArg}, {"ab\nc", least, 0, 0, api.ErrArg}, {"ab\nc", 1<<63 - 1, 0, 0, api.ErrArg},
		{"", 0, 1, 1, api.OK}, {"", 1, 0, 0, api.ErrArg}, {"", -1, 0, 0, api.ErrArg}, {"\n", 1, 2, 1, api.OK}, {"é", 2, 1, 3, api.OK},
		{long, 40000, 20001, 1, api.OK}, {long, 39999, 20000, 2, api.OK}, {long, 40001, 0, 0, api.ErrArg},
	} {
		if line, column, err := lex.Place(x.text, x.at); line != x.line || column != x.column || err != x.err {
			t.Errorf("Place(%.20q, %v) = %v, %v, %v; expected %v, %v, %v", x.text, x.at, line, column, err, x.line, x.column, x.err)
		}
	}
}

// P1.1: comments, also of texts that have no tokens, and of texts of any length.
func TestComments(t *testing.T) {
	long := strings.Repeat("%#\n", 10000)
	for _, x := range []struct {
		text     string
		comments [][2]int
		strip    string
	}{
		{"", nil, ""}, {"a b", nil, "a b"}, {"a%b\n%%", [][2]int{{1, 3}, {4, 6}}, "a\n"}, {"%", [][2]int{{0, 1}}, ""}, {"%\n", [][2]int{{0, 1}}, "\n"},
		{"%%\n%\n\n%a", [][2]int{{0, 2}, {3, 4}, {6, 8}}, "\n\n\n"}, {"#%\xff%\n-ox", [][2]int{{1, 4}}, "#\n-ox"}, {"a%\r\n", [][2]int{{1, 3}}, "a\n"},
		{"%" + long, nil, strings.Repeat("\n", 10000)},
	} {
		got := lex.Comments(x.text)
		if x.comments != nil && !slices.Equal(got, x.comments) || x.comments == nil && len(got) != strings.Count(x.text, "%#\n") {
			t.Errorf("Comments(%.20q) = %v; expected %v", x.text, got, x.comments)
		}
		if got := lex.Strip(x.text); got != x.strip {
			t.Errorf("Strip(%.20q) = %.20q; expected %.20q", x.text, got, x.strip)
		}
	}
}
