package lex

import (
	"iter"
	"slices"
	"strings"

	"peculium/api"
)

const (
	smallLetters   = "abcdefghijklmnopqrstuvwxyz"
	capitalLetters = "ABCDEFGHIJKLMNOPQRSTUVWXYZ"
	nameBytes      = smallLetters + capitalLetters + "0123456789_'"
	signBytes      = "*&+!{}().,:\\"
)

// refusal is what a text that cannot be scanned panics with: where, and why.
type refusal struct {
	at  int
	err api.Errno
}

// class returns an array that tells of each byte whether it is one of chars.
func class(chars string) [256]bool {
	var in [256]bool
	for i := range len(chars) {
		in[chars[i]] = true
	}
	return in
}

// tokens yields the tokens of a text from the left, however many and however long they are.
func tokens(text string) iter.Seq[api.Token] {
	return func(yield func(api.Token) bool) {
		find := finder(text)
		for at := skip(text, 0); at < len(text); {
			t := find(at)
			if !yield(t) {
				return
			}
			at = skip(text, at+len(t.Text))
		}
	}
}

// finder returns a closure that finds the token which begins at an offset of the text, and refuses the text if there is none.
func finder(text string) func(at int) api.Token {
	isSmall, isCapital, isSign := class(smallLetters), class(capitalLetters), class(signBytes)
	inName := class(nameBytes)
	words := Words()

	token := func(kind, at, end int) api.Token {
		return api.Token{Kind: kind, Text: text[at:end], At: at}
	}
	follows := func(at int, s string) bool {
		return strings.HasPrefix(text[at:], s)
	}
	nameEnd := func(at int) int {
		for at < len(text) && inName[text[at]] {
			at++
		}
		return at
	}
	small := func(at int) api.Token {
		end := nameEnd(at)
		if follows(end, "@") && end+1 < len(text) && isSmall[text[end+1]] {
			end = nameEnd(end + 1)
		}
		name := text[at:end]
		switch {
		case name == "o" && follows(end, "-"):
			return token(api.TkSign, at, end+1)
		case slices.Contains(words, name):
			return token(api.TkWord, at, end)
		}
		return token(api.TkName, at, end)
	}
	isLong := func(at int) bool {
		loose := follows(at, "-o") && nameEnd(at+1) == at+2
		return loose || follows(at, "->") || follows(at, "=>") || follows(at, "<=")
	}

	return func(at int) api.Token {
		switch c := text[at]; {
		case isSmall[c]:
			return small(at)
		case isCapital[c]:
			return token(api.TkVar, at, nameEnd(at))
		case isSign[c]:
			return token(api.TkSign, at, at+1)
		case isLong(at):
			return token(api.TkSign, at, at+2)
		}
		panic(refusal{at, api.ErrChar})
	}
}

// skip returns the offset of the first byte, from at on, that is neither a blank nor in a comment.
func skip(text string, at int) int {
	for at < len(text) {
		switch text[at] {
		case ' ', '\t', '\n':
			at++
		case '%':
			at = commentEnd(text, at)
		default:
			return at
		}
	}
	return at
}
