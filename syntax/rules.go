package syntax

import "peculium/api"

// opening is what a node of a kind begins with in a text.
type opening struct {
	word string
	kind int
}

var openings = [20]opening{
	{"type", api.NdType}, {"export", api.NdExport}, {"const", api.NdConst},
	{"pred", api.NdPred}, {"fact", api.NdFact}, {"lasting", api.NdLast}, {"mode", api.NdMode},
	{"rule", api.NdRule}, {"once", api.NdOnce}, {"most", api.NdMost}, {"query", api.NdQuery},
	{"module", api.NdModule}, {"use", api.NdUse},
	{"!", api.NdBang}, {"all", api.NdAll}, {"ex", api.NdEx}, {"one", api.NdOne}, {"top", api.NdTop},
	{"{", api.NdMonad}, {"\\", api.NdLam},
}

// What stands within another node binds at least as tightly as its place asks for.
const (
	formBind = iota // o- and <=, which are left associative
	arrowBind
	sumBind
	bothBind
	productBind
	partBind // what is no operator in a formula
	typeBind
	simpleBind // what is no operator in a type
)

// operator is a binary operator; what it binds, and how tightly.
type operator struct {
	sign string
	kind int
	bind int
}

var operators = [8]operator{
	{"o-", api.NdFrom, formBind}, {"<=", api.NdIf, formBind},
	{"-o", api.NdLolli, arrowBind}, {"=>", api.NdImp, arrowBind},
	{"+", api.NdPlus, sumBind}, {"&", api.NdWith, bothBind}, {"*", api.NdTensor, productBind},
	{"->", api.NdArrow, typeBind},
}

// text reads items up to the end.
func (p *parser) text() api.Node {
	n := api.Node{Kind: api.NdText}
	for p.next < len(p.list) {
		n.L = append(n.L, p.opened(p.items))
		p.need(".")
	}
	return n
}

// opened reads what one of some rules tells, by its first word.
func (p *parser) opened(rules map[string]rule) api.Node {
	word := p.peek().Text
	read, ok := rules[word]
	if !ok {
		p.refuse()
	}
	p.next++
	kind := 0
	for _, o := range openings {
		if o.word == word {
			kind = o.kind
		}
	}
	return read(p, kind)
}

func (p *parser) names(kind int) api.Node {
	n := api.Node{Kind: kind}
	for {
		n.L = append(n.L, p.small())
		if !p.take(",") {
			return n
		}
	}
}

func (p *parser) constants(kind int) api.Node {
	n := p.names(kind)
	p.need(":")
	n.L = append(n.L, p.typed())
	return n
}

func (p *parser) predicate(kind int) api.Node { return p.listed(kind, p.simple) }

func (p *parser) modes(kind int) api.Node { return p.listed(kind, p.small) }

// listed reads a small name, and what is behind it up to the end of the item.
func (p *parser) listed(kind int, read func() api.Node) api.Node {
	n := p.named(kind)
	for p.peek().Text != "." {
		n.L = append(n.L, read())
	}
	return n
}

func (p *parser) clause(kind int) api.Node {
	n := p.named(kind)
	p.need(":")
	n.L = append(n.L, p.form())
	return n
}

func (p *parser) named(kind int) api.Node { return api.Node{Kind: kind, Name: p.small().Name} }

func (p *parser) typed() api.Node { return p.infix(typeBind) }

func (p *parser) simple() api.Node {
	if p.take("(") {
		n := p.typed()
		p.need(")")
		return n
	}
	return p.small()
}

func (p *parser) form() api.Node {
	n := p.infix(arrowBind)
	for {
		kind, ok := p.operator(formBind)
		if !ok {
			return n
		}
		n = pair(kind, n, p.infix(arrowBind))
	}
}

// infix reads what binds at least as tightly as bind, whose operators are right associative.
func (p *parser) infix(bind int) api.Node {
	switch bind {
	case partBind:
		return p.part()
	case simpleBind:
		return p.simple()
	}
	left := p.infix(bind + 1)
	if kind, ok := p.operator(bind); ok {
		return pair(kind, left, p.infix(bind))
	}
	return left
}

// operator reads an operator that binds so, if one is next, and returns its kind.
func (p *parser) operator(bind int) (int, bool) {
	for _, op := range operators {
		if op.bind == bind && p.take(op.sign) {
			return op.kind, true
		}
	}
	return 0, false
}

func pair(kind int, left, right api.Node) api.Node {
	return api.Node{Kind: kind, L: []api.Node{left, right}}
}

func (p *parser) part() api.Node {
	if p.peek().Kind == api.TkName {
		return p.applied()
	}
	return p.opened(p.parts)
}

func (p *parser) bang(kind int) api.Node {
	return api.Node{Kind: kind, L: []api.Node{p.part()}}
}

func (p *parser) quantifier(kind int) api.Node { return p.binder(kind, (*parser).form) }

func (p *parser) lone(kind int) api.Node { return api.Node{Kind: kind} }

func (p *parser) monad(kind int) api.Node {
	n := api.Node{Kind: kind, L: []api.Node{p.form()}}
	p.need("}")
	return n
}

func (p *parser) group(int) api.Node {
	n := p.form()
	p.need(")")
	return n
}

// binder reads what follows the word of a binder: its name, perhaps a type, and its body.
func (p *parser) binder(kind int, body func(*parser) api.Node) api.Node {
	x, ok := p.name()
	if !ok {
		p.refuse()
	}
	n := api.Node{Kind: kind, Name: x.Name}
	if p.take(":") {
		n.L = append(n.L, p.typed())
	}
	p.need(".")
	n.L = append(n.L, body(p))
	return n
}

func (p *parser) term() api.Node {
	if p.take("\\") {
		return p.binder(api.NdLam, (*parser).term)
	}
	if n, ok := p.bracketed(); ok {
		return n
	}
	return p.applied()
}

// bracketed reads a term in parentheses, if one is next.
func (p *parser) bracketed() (api.Node, bool) {
	if !p.take("(") {
		return api.Node{}, false
	}
	n := p.term()
	p.need(")")
	return n, true
}

// applied reads a name and its arguments.
func (p *parser) applied() api.Node {
	n, ok := p.name()
	if !ok {
		p.refuse()
	}
	for {
		x, ok := p.name()
		if !ok {
			x, ok = p.bracketed()
		}
		if !ok {
			return n
		}
		n.L = append(n.L, x)
	}
}
