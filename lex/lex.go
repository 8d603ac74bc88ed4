// Package lex is layer 1: it splits texts into tokens, writes tokens as texts, and finds lines and comments (shared/doc/01-lex.md).
package lex

import (
	"strings"

	"peculium/api"
)

// Scan returns the tokens of a text and 0, or the offset at which it has an error, and that error.
func Scan(text string) (list []api.Token, at int, err api.Errno) {
	if len(text) > api.MaxText {
		return nil, 0, api.ErrLong
	}
	defer func() {
		if r, ok := recover().(refusal); ok {
			list, at, err = nil, r.at, r.err
		}
	}()
	// The tokens are parts of a copy, since a result shares no memory with an argument.
	for t := range tokens(strings.Clone(text)) {
		switch {
		// The token behind the last one that is allowed is one too many whatever it is, so also if its name is too long.
		case len(list) == api.MaxTokens:
			panic(refusal{t.At, api.ErrLong})
		case len(t.Text) > api.MaxName:
			panic(refusal{t.At, api.ErrName})
		}
		list = append(list, t)
	}
	return list, 0, api.OK
}

// Words returns the keywords.
func Words() []string {
	return []string{
		"type", "const", "pred", "fact", "lasting", "mode", "rule", "once", "most",
		"query", "module", "use", "export", "all", "ex", "one", "top",
	}
}

// Signs returns the signs.
func Signs() []string {
	return []string{"-o", "o-", "=>", "<=", "->", "*", "&", "+", "!", "{", "}", "(", ")", ".", ",", ":", "\\"}
}
