package lex_test

import (
	"slices"
	"strings"
	"testing"

	"peculium/api"
	"peculium/lex"
)

// manyTokens yields the tokens of all those texts that have some.
func manyTokens(yield func(string, []api.Token) bool) {
	for text := range allTexts {
		if list, _, err := lex.Scan(text); err == api.OK && !yield(text, list) {
			return
		}
	}
}

// has reports whether a text has these tokens.
func has(text string, list []api.Token) bool {
	got, _, err := lex.Scan(text)
	return err == api.OK && lex.Same(got, list)
}

// P1.2: what is written is scanned as the same tokens, also if there are as many as a text can have.
func TestBack(t *testing.T) {
	expectBack := func(list []api.Token) {
		t.Helper()
		for _, text := range []string{lex.Join(list), lex.Tight(list)} {
			if !has(text, list) {
				t.Errorf("%.60q has other tokens than %.60v", text, list)
			}
		}
	}
	for _, list := range manyTokens {
		expectBack(list)
	}
	for _, text := range []string{strings.Repeat("o ", 6000), strings.Repeat("-o", 6000), strings.Repeat("o-", 6000)} {
		list, _, _ := lex.Scan(text)
		if len(list) != 6000 {
			t.Fatalf("%v tokens", len(list))
		}
		expectBack(list)
	}
}

// P1.3: no space of Tight can be left out, and there is no comment.
func TestLeastSpaces(t *testing.T) {
	for _, list := range manyTokens {
		text := lex.Tight(list)
		if len(lex.Comments(text)) > 0 {
			t.Errorf("%q has a comment", text)
		}
		for at := range len(text) {
			if text[at] == ' ' && has(text[:at]+text[at+1:], list) {
				t.Errorf("%q does not need the space at %v", text, at)
			}
		}
	}
}

// P1.3: no text that has a space between some tokens, and none between the others, is shorter than Tight.
func TestLeastText(t *testing.T) {
	all := []api.Token{
		name("a"), name("o"), name("o@o"), name(strings.Repeat("n", 20)), tok(api.TkVar, "X", 0), tok(api.TkWord, "all", 0),
		sign("-o"), sign("o-"), sign("->"), sign("=>"), sign("."),
	}
	for _, a := range all {
		for _, b := range all {
			for _, c := range all {
				list := []api.Token{a, b, c}
				if got, want := lex.Tight(list), shortest(list); got != want {
					t.Errorf("Tight(%v) = %q; expected %q", list, got, want)
				}
			}
		}
	}
}

// shortest returns the shortest text of three tokens, found by trying.
func shortest(list []api.Token) string {
	best := ""
	for _, first := range []string{"", " "} {
		for _, second := range []string{"", " "} {
			text := list[0].Text + first + list[1].Text + second + list[2].Text
			if has(text, list) && (best == "" || len(text) < len(best)) {
				best = text
			}
		}
	}
	return best
}

// moved returns the tokens moved by an offset.
func moved(list []api.Token, by int) []api.Token {
	list = slices.Clone(list)
	for i := range list {
		list[i].At += by
	}
	return list
}

// P1.4: a text in two pieces has the tokens of both, the latter moved.
func TestPieces(t *testing.T) {
	expectPieces := func(a, b string) {
		t.Helper()
		first, _, _ := lex.Scan(a)
		second, _, _ := lex.Scan(b)
		got, at, err := lex.Scan(a + "\n" + b)
		if want := slices.Concat(first, moved(second, len(a)+1)); err != api.OK || at != 0 || !slices.Equal(got, want) {
			t.Errorf("Scan of %.60q and %.60q = %.60v, %v, %v; expected %.60v", a, b, got, at, err, want)
		}
	}
	short := slices.Collect(func(yield func(string) bool) {
		for text := range shortTexts("oa-@% \n", 3) {
			if _, _, err := lex.Scan(text); err == api.OK && !yield(text) {
				return
			}
		}
	})
	for _, a := range short {
		for _, b := range short {
			expectPieces(a, b)
		}
	}
	before := ""
	for text := range manyTokens {
		expectPieces(before, text)
		before = text
	}
	expectPieces(strings.Repeat("a ", 3000), strings.Repeat(".", 3000))
	expectPieces(strings.Repeat(" ", 10000)+"a", "a"+strings.Repeat("\n", 9997))
	expectRefused(t, strings.Repeat("a ", 3000)+"\n"+strings.Repeat(".", 3001), 9001, api.ErrLong)
	expectRefused(t, strings.Repeat(" ", 10000)+"\n"+strings.Repeat(" ", 10000), 0, api.ErrLong)
}

// P1.5: tokens are the parts of the text that they tell; between them there is nothing but blanks and comments.
func TestCover(t *testing.T) {
	for text, list := range manyTokens {
		kinds := []byte(strings.Repeat("?", len(text)))
		for _, c := range lex.Comments(text) {
			copy(kinds[c[0]:c[1]], strings.Repeat("%", c[1]-c[0]))
		}
		end := 0
		for _, x := range list {
			if x.At < end || x.Text == "" || !strings.HasPrefix(text[x.At:], x.Text) {
				t.Fatalf("%q: the token %v is not there, or not in order", text, x)
			}
			end = x.At + len(x.Text)
			for at := x.At; at < end; at++ {
				if kinds[at] != '?' {
					t.Errorf("%q: the token %v is in a comment", text, x)
				}
				kinds[at] = 't'
			}
		}
		for at, kind := range kinds {
			if kind == '?' && !strings.Contains(" \t\n", text[at:at+1]) {
				t.Errorf("%q: the byte %v is nowhere", text, at)
			}
		}
	}
}

// P1.6: the line's beginning and the column give the offset.
func TestPlacesInLines(t *testing.T) {
	for text := range allTexts {
		lines := lex.Lines(text)
		for at := range len(text) + 1 {
			line, column, err := lex.Place(text, at)
			if err != api.OK || line < 1 || line > len(lines) || column < 1 || lines[line-1]+column-1 != at {
				t.Errorf("Place(%q, %v) = %v, %v, %v; the lines begin at %v", text, at, line, column, err, lines)
			}
		}
		for i, at := range lines {
			if line, column, err := lex.Place(text, at); line != i+1 || column != 1 || err != api.OK {
				t.Errorf("Place(%q, %v) = %v, %v, %v; expected %v, 1", text, at, line, column, err, i+1)
			}
		}
	}
}

// P1.7: a text without its comments has no comment, the same tokens and as many lines.
func TestStripped(t *testing.T) {
	for text := range allTexts {
		strip := lex.Strip(text)
		if len(lex.Comments(strip)) > 0 || len(lex.Lines(strip)) != len(lex.Lines(text)) {
			t.Errorf("Strip(%q) = %q", text, strip)
		}
		a, _, err := lex.Scan(text)
		b, _, errStrip := lex.Scan(strip)
		if err != errStrip || !lex.Same(a, b) {
			t.Errorf("%q and its Strip have the tokens %v (%v) and %v (%v)", text, a, err, b, errStrip)
		}
	}
}
