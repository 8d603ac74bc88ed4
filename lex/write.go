package lex

import (
	"strings"

	"peculium/api"
)

// Same reports whether two lists have the same Kinds and Texts, in order.
func Same(a, b []api.Token) bool {
	return alike(a, b, func(x, y api.Token) bool {
		return x.Kind == y.Kind && x.Text == y.Text
	})
}

// Join returns the Texts of tokens, with a space between two of them.
func Join(l []api.Token) string {
	return write(l, func(a, b api.Token) bool { return true })
}

// Tight returns the Texts of tokens, with a space only where they would be scanned as others without it.
func Tight(l []api.Token) string {
	// Two neighbours tell enough: no token looks further ahead than to the first byte of the next one.
	return write(l, func(a, b api.Token) bool {
		return !scansAs(a.Text+b.Text, a, b)
	})
}

// write returns the Texts of tokens with a space between a and b where apart(a, b), or an empty string if they are none or too many.
func write(l []api.Token, apart func(a, b api.Token) bool) string {
	if len(l) > api.MaxTokens {
		return ""
	}
	var out strings.Builder
	for i, t := range l {
		if Check(t) != api.OK {
			return ""
		}
		if i > 0 && apart(l[i-1], t) {
			out.WriteByte(' ')
		}
		out.WriteString(t.Text)
	}
	if out.Len() > api.MaxText {
		return ""
	}
	return out.String()
}

// scansAs reports whether scanning a text gives these tokens, wherever they stand.
func scansAs(text string, want ...api.Token) bool {
	got, _, err := Scan(text)
	return err == api.OK && Same(got, want)
}

// alike reports whether two lists are equally long, and same holds for their elements, one by one.
func alike[T any](a, b []T, same func(x, y T) bool) bool {
	if len(a) != len(b) {
		return false
	}
	for i, x := range a {
		if !same(x, b[i]) {
			return false
		}
	}
	return true
}
