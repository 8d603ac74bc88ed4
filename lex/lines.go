package lex

import (
	"iter"
	"slices"
	"strings"

	"peculium/api"
)

// Lines returns the offsets at which the lines of a text begin.
func Lines(text string) []int {
	list := []int{0}
	for at := range len(text) {
		if text[at] == '\n' {
			list = append(list, at+1)
		}
	}
	return list
}

// Place returns the line and the column of an offset, both from 1 on.
func Place(text string, at int) (int, int, api.Errno) {
	if at < 0 || at > len(text) {
		return 0, 0, api.ErrArg
	}
	ahead := text[:at]
	begin := strings.LastIndexByte(ahead, '\n') + 1
	return strings.Count(ahead, "\n") + 1, at - begin + 1, api.OK
}

// Comments returns the beginning and the end of each comment, from the left.
func Comments(text string) [][2]int {
	return slices.Collect(comments(text))
}

// Strip returns the text without its comments.
func Strip(text string) string {
	var out strings.Builder
	at := 0
	for c := range comments(text) {
		out.WriteString(text[at:c[0]])
		at = c[1]
	}
	out.WriteString(text[at:])
	return out.String()
}

// comments yields the beginning and the end of each comment of a text, which need not have tokens.
func comments(text string) iter.Seq[[2]int] {
	return func(yield func([2]int) bool) {
		for at := 0; at < len(text); at++ {
			if text[at] != '%' {
				continue
			}
			end := commentEnd(text, at)
			if !yield([2]int{at, end}) {
				return
			}
			at = end
		}
	}
}

// commentEnd returns the offset behind the last byte of the comment that begins at an offset.
func commentEnd(text string, at int) int {
	if n := strings.IndexByte(text[at:], '\n'); n >= 0 {
		return at + n
	}
	return len(text)
}
