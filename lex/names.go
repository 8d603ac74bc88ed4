package lex

import (
	"slices"
	"strings"

	"peculium/api"
)

// The layers above ask again and again whether texts are tokens, so these functions look at the text alone: a scan takes many times as long.

// Check returns ErrToken unless scanning the token's Text gives just this token.
func Check(t api.Token) api.Errno {
	ok := false
	switch t.Kind {
	case api.TkName:
		ok = IsName(t.Text)
	case api.TkVar:
		ok = IsVar(t.Text)
	case api.TkSign:
		ok = slices.Contains(Signs(), t.Text)
	case api.TkWord:
		ok = slices.Contains(Words(), t.Text)
	}
	if !ok {
		return api.ErrToken
	}
	return api.OK
}

// IsName reports whether s is a plain or a linked name, and no keyword.
func IsName(s string) bool {
	plain, link, isLinked := strings.Cut(s, "@")
	return len(s) <= api.MaxName && begins(plain, smallLetters) && isInName(plain) &&
		(!isLinked || begins(link, smallLetters) && isInName(link)) && !slices.Contains(Words(), s)
}

// IsPlain reports whether s is a plain name, and no keyword.
func IsPlain(s string) bool {
	return IsName(s) && !strings.Contains(s, "@")
}

// IsVar reports whether s is a capital name.
func IsVar(s string) bool {
	return len(s) <= api.MaxName && begins(s, capitalLetters) && isInName(s)
}

// begins reports whether s begins with one of some letters.
func begins(s, letters string) bool {
	return s != "" && strings.IndexByte(letters, s[0]) >= 0
}

// isInName reports whether s has name characters alone.
func isInName(s string) bool {
	for i := range len(s) {
		if strings.IndexByte(nameBytes, s[i]) < 0 {
			return false
		}
	}
	return true
}
