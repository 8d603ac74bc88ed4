package kernel

import "peculium/api"

// isName reports whether a text is a small name: a plain or a linked one, and no keyword.
func isName(s string) bool {
	if len(s) > api.MaxName || isKeyword(s) {
		return false
	}
	for i := range len(s) {
		if s[i] == '@' {
			return isWord(s[:i], 'a', 'z') && isWord(s[i+1:], 'a', 'z')
		}
	}
	return isWord(s, 'a', 'z')
}

// isVar reports whether a text is a capital name.
func isVar(s string) bool { return len(s) <= api.MaxName && isWord(s, 'A', 'Z') }

// isWord reports whether a text has name characters alone, of which the first one is one of some letters.
func isWord(s string, from, to byte) bool {
	for i := range len(s) {
		c := s[i]
		isOther := c >= '0' && c <= '9' || c == '_' || c == '\''
		isLetter := c >= 'a' && c <= 'z' || c >= 'A' && c <= 'Z'
		if !isLetter && !isOther {
			return false
		}
	}
	return s != "" && s[0] >= from && s[0] <= to
}

func isKeyword(s string) bool {
	switch s {
	case "type", "const", "pred", "fact", "lasting", "mode", "rule", "once", "most",
		"query", "module", "use", "export", "all", "ex", "one", "top":
		return true
	}
	return false
}
