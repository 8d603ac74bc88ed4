package lex_test

import (
	"math/rand/v2"
	"regexp"
	"slices"
	"strings"

	"peculium/api"
)

// This file has a second scanner, made of regular expressions, and the texts with which the tests hold it against Scan.

var (
	blankForm   = regexp.MustCompile(`^([ \t\n]|%[^\n]*)+`)
	smallForm   = regexp.MustCompile(`^[a-z][a-zA-Z0-9_']*(@[a-z][a-zA-Z0-9_']*)?`)
	capitalForm = regexp.MustCompile(`^[A-Z][a-zA-Z0-9_']*`)
	lolliForm   = regexp.MustCompile(`^-o([^a-zA-Z0-9_']|$)`)
	signForm    = regexp.MustCompile(`^(->|=>|<=|[*&+!{}().,:\\])`)
)

var wantWords = strings.Fields("type const pred fact lasting mode rule once most query module use export all ex one top")
var wantSigns = strings.Fields(`-o o- => <= -> * & + ! { } ( ) . , : \`)

// refer is Scan by the regular expressions.
func refer(text string) ([]api.Token, int, api.Errno) {
	if len(text) > 20000 {
		return nil, 0, api.ErrLong
	}
	var list []api.Token
	for at := len(blankForm.FindString(text)); at < len(text); {
		rest := text[at:]
		kind, found := referOne(rest)
		switch {
		case found == "":
			return nil, at, api.ErrChar
		case len(list) == 6000:
			return nil, at, api.ErrLong
		case len(found) > 40:
			return nil, at, api.ErrName
		}
		list = append(list, api.Token{Kind: kind, Text: found, At: at})
		at += len(found)
		at += len(blankForm.FindString(text[at:]))
	}
	return list, 0, api.OK
}

// referOne finds the token with which a text begins.
func referOne(rest string) (int, string) {
	if s := smallForm.FindString(rest); s != "" {
		switch {
		case s == "o" && strings.HasPrefix(rest, "o-"):
			return api.TkSign, "o-"
		case slices.Contains(wantWords, s):
			return api.TkWord, s
		}
		return api.TkName, s
	}
	if s := capitalForm.FindString(rest); s != "" {
		return api.TkVar, s
	}
	if lolliForm.MatchString(rest) {
		return api.TkSign, "-o"
	}
	return api.TkSign, signForm.FindString(rest)
}

// shortTexts yields all texts of at most n of the letters.
func shortTexts(letters string, n int) func(yield func(string) bool) {
	return func(yield func(string) bool) {
		var grow func(text string, left int) bool
		grow = func(text string, left int) bool {
			if !yield(text) {
				return false
			}
			for i := 0; left > 0 && i < len(letters); i++ {
				if !grow(text+letters[i:i+1], left-1) {
					return false
				}
			}
			return true
		}
		grow("", n)
	}
}

// longTexts yields some texts of pieces that are almost always tokens, blanks and comments, the same ones each time.
func longTexts(count int) func(yield func(string) bool) {
	pieces := slices.Concat(wantWords, wantSigns, []string{
		" ", " ", " ", "\n", "\t", "%", "% a -o #\n", "%%\n", "o", "a", "x'_1", "c'@m", "o@o", "all@one", "X", "B1",
		strings.Repeat("n", 20), strings.Repeat("N", 40),
	})
	rare := []string{"#", "@", "-", "=", "<", ">", "1", "_", "'", "\r", "\x00", "\xff", "é", strings.Repeat("z", 41)}
	random := rand.New(rand.NewPCG(1, 2))
	return func(yield func(string) bool) {
		for range count {
			var text strings.Builder
			for range random.IntN(30) {
				text.WriteString(pieces[random.IntN(len(pieces))])
				if random.IntN(3) > 0 {
					text.WriteByte(' ')
				}
				if random.IntN(200) == 0 {
					text.WriteString(rare[random.IntN(len(rare))])
				}
			}
			if !yield(text.String()) {
				return
			}
		}
	}
}

// allTexts yields the texts with which promises about any text are tested.
func allTexts(yield func(string) bool) {
	for _, texts := range []func(func(string) bool){
		shortTexts("oa-><=@A'%\n .#1", 4),
		shortTexts("o-a@% \n", 6),
		longTexts(3000),
	} {
		for text := range texts {
			if !yield(text) {
				return
			}
		}
	}
}
