package term

import (
	"strconv"

	"peculium/api"
	"peculium/lex"
)

// The sign of a lambda, and the letters with which bound variables, parameters and variables begin in texts.
const (
	lambda      = `\`
	boundLetter = "B"
	parLetter   = "P"
	varLetter   = "V"
)

// Text returns the text of a term, or an empty one if the term is not raw, or too large.
func Text(t api.Term) string {
	if Raw(t) != api.OK {
		return ""
	}
	return lex.Join(tokensOf(t))
}

// tokensOf returns the tokens of the text of a term.
func tokensOf(t api.Term) []api.Token {
	var list []api.Token
	add := func(kind int, text string) { list = append(list, api.Token{Kind: kind, Text: text}) }
	var write func(t api.Term)
	write = func(t api.Term) {
		switch t.Kind {
		case api.TmCon:
			add(api.TkName, t.Name)
		case api.TmBound:
			add(api.TkVar, boundLetter+strconv.Itoa(t.N))
		case api.TmPar:
			add(api.TkVar, parLetter+strconv.Itoa(t.N))
		case api.TmVar:
			add(api.TkVar, varLetter+strconv.Itoa(t.N))
		case api.TmLam:
			add(api.TkSign, lambda)
			add(api.TkSign, ".")
			write(t.Args[0])
			return
		}
		for _, x := range t.Args {
			if x.Kind != api.TmLam && len(x.Args) == 0 {
				write(x)
				continue
			}
			add(api.TkSign, "(")
			write(x)
			add(api.TkSign, ")")
		}
	}
	write(t)
	return list
}

// Read returns the term of a text and 0, or the offset at which the text goes wrong.
func Read(text string) (api.Term, int, api.Errno) {
	list, at, err := lex.Scan(text)
	if err != api.OK {
		return api.Term{}, at, err
	}
	t, at, err := parse(list, len(text))
	if err == api.OK {
		err = Raw(t)
	}
	if err != api.OK {
		return api.Term{}, at, err
	}
	return t, 0, api.OK
}

// misfit is the offset of a token that does not fit: what a list of tokens that is none of a term panics with.
type misfit int

// parse returns the term of a list of tokens whose text ends at an offset, and 0.
func parse(list []api.Token, end int) (t api.Term, at int, err api.Errno) {
	defer func() {
		if m, ok := recover().(misfit); ok {
			t, at, err = api.Term{}, int(m), api.ErrTerm
		}
	}()
	// The end is a token that fits nowhere, so that it need not be told apart from those that do not.
	c := &cursor{left: append(list, api.Token{At: end})}
	t = c.term()
	if len(c.left) > 1 {
		c.refuse()
	}
	return t, 0, api.OK
}

// cursor is what is left to be read, and how many parentheses are open.
type cursor struct {
	left []api.Token
	open int
}

func (c *cursor) next() api.Token { return c.left[0] }
func (c *cursor) skip()           { c.left = c.left[1:] }
func (c *cursor) refuse()         { panic(misfit(c.next().At)) }

// sign skips a sign, which has to be next.
func (c *cursor) sign(text string) {
	if c.next().Text != text {
		c.refuse()
	}
	c.skip()
}

// term reads a term around which there may be parentheses.
func (c *cursor) term() api.Term {
	var whole func() api.Term
	inner := func() api.Term {
		if c.open == api.MaxDeep {
			c.refuse()
		}
		c.open++
		c.sign("(")
		t := whole()
		c.sign(")")
		c.open--
		return t
	}
	whole = func() api.Term {
		switch c.next().Text {
		case "(":
			return inner()
		case lambda:
			c.sign(lambda)
			c.sign(".")
			return api.Term{Kind: api.TmLam, Args: []api.Term{whole()}}
		}
		t, ok := headOf(c.next())
		if !ok {
			c.refuse()
		}
		c.skip()
	args:
		for {
			x, isHead := headOf(c.next())
			switch {
			case !isHead && c.next().Text != "(":
				break args
			case len(t.Args) == api.MaxArgs:
				c.refuse()
			case isHead:
				c.skip()
			default:
				x = inner()
			}
			t.Args = append(t.Args, x)
		}
		return t
	}
	return whole()
}

// headOf returns the term without Args that a token is the text of, if it is one.
func headOf(t api.Token) (api.Term, bool) {
	if t.Kind == api.TkName {
		return api.Term{Kind: api.TmCon, Name: t.Text}, true
	}
	if t.Kind != api.TkVar {
		return api.Term{}, false
	}
	kind, ok := kindOf(t.Text[:1])
	// The number is held against how it is written, so that there are no zeros in front.
	n, err := strconv.Atoi(t.Text[1:])
	if !ok || err != nil || !isIndex(n) || strconv.Itoa(n) != t.Text[1:] {
		return api.Term{}, false
	}
	return api.Term{Kind: kind, N: n}, true
}

// kindOf returns the kind of the terms whose texts begin with a letter.
func kindOf(letter string) (int, bool) {
	switch letter {
	case boundLetter:
		return api.TmBound, true
	case parLetter:
		return api.TmPar, true
	case varLetter:
		return api.TmVar, true
	}
	return 0, false
}
