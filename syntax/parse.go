// Package syntax is layer 2: it parses texts into trees, and prints trees so that they are parsed as the same trees again (shared/doc/02-syntax.md).
package syntax

import (
	"peculium/api"
	"peculium/lex"
)

// Parse returns the tree of a text and 0, or the offset at which it has an error, and that error.
func Parse(text string) (api.Node, int, api.Errno) { return parse(text, (*parser).text) }

// ParseForm returns the tree of a formula.
func ParseForm(text string) (api.Node, int, api.Errno) { return parse(text, (*parser).form) }

// ParseTerm returns the tree of a term.
func ParseTerm(text string) (api.Node, int, api.Errno) { return parse(text, (*parser).term) }

// ParseType returns the tree of a type.
func ParseType(text string) (api.Node, int, api.Errno) { return parse(text, (*parser).typed) }

// misfit is what a text panics with that is none of its kind: the offset of the token that does not fit.
type misfit struct{ at int }

// parse returns the tree that a rule of the grammar makes of a whole text.
func parse(text string, whole func(*parser) api.Node) (tree api.Node, at int, err api.Errno) {
	list, at, err := lex.Scan(text)
	if err != api.OK {
		return api.Node{}, at, err
	}
	defer func() {
		if m, ok := recover().(misfit); ok {
			tree, at, err = api.Node{}, m.at, api.ErrSyntax
		}
	}()
	p := &parser{list: list, end: len(text), items: itemRules(), parts: partRules()}
	tree = whole(p)
	if p.next < len(p.list) {
		p.refuse()
	}
	if err := Check(tree); err != api.OK {
		return api.Node{}, 0, err
	}
	return tree, 0, api.OK
}

// parser goes through the tokens of a text. One token tells which rule applies, so that the first one that fits none is the first one that continues no text.
type parser struct {
	list  []api.Token
	next  int // the index of the token that is read next
	end   int // the length of the text
	items map[string]rule
	parts map[string]rule
}

// rule is a rule of the grammar whose first word has been read; it makes a node of a kind.
type rule func(p *parser, kind int) api.Node

// itemRules returns the rules of items, by their words.
func itemRules() map[string]rule {
	return map[string]rule{
		"type":    (*parser).names,
		"export":  (*parser).names,
		"const":   (*parser).constants,
		"pred":    (*parser).predicate,
		"fact":    (*parser).predicate,
		"lasting": (*parser).predicate,
		"mode":    (*parser).modes,
		"rule":    (*parser).clause,
		"once":    (*parser).clause,
		"most":    (*parser).clause,
		"query":   (*parser).clause,
		"module":  (*parser).named,
		"use":     (*parser).named,
	}
}

// partRules returns the rules of parts of formulas, by their words.
func partRules() map[string]rule {
	return map[string]rule{
		"!":   (*parser).bang,
		"all": (*parser).quantifier,
		"ex":  (*parser).quantifier,
		"one": (*parser).lone,
		"top": (*parser).lone,
		"{":   (*parser).monad,
		"(":   (*parser).group,
	}
}

// peek returns the token that is read next, or one without a kind at the end of the text.
func (p *parser) peek() api.Token {
	if p.next < len(p.list) {
		return p.list[p.next]
	}
	return api.Token{At: p.end}
}

// refuse leaves the parser, since the next token does not fit.
func (p *parser) refuse() { panic(misfit{p.peek().At}) }

// take reads a sign or a keyword, if it is next.
func (p *parser) take(word string) bool {
	if p.peek().Text != word {
		return false
	}
	p.next++
	return true
}

// need reads a sign or a keyword.
func (p *parser) need(word string) {
	if !p.take(word) {
		p.refuse()
	}
}

// small reads a small name, and returns its node.
func (p *parser) small() api.Node {
	if p.peek().Kind != api.TkName {
		p.refuse()
	}
	n, _ := p.name()
	return n
}

// name reads a name, small or capital, and returns its node, if one is next.
func (p *parser) name() (api.Node, bool) {
	t := p.peek()
	switch t.Kind {
	case api.TkName:
		p.next++
		return api.Node{Kind: api.NdName, Name: t.Text}, true
	case api.TkVar:
		p.next++
		return api.Node{Kind: api.NdVar, Name: t.Text}, true
	}
	return api.Node{}, false
}
