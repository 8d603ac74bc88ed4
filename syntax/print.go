package syntax

import (
	"strings"

	"peculium/api"
	"peculium/lex"
)

// How wide the lines may be that Lay is asked for.
const (
	minWidth = 20
	maxWidth = 200
)

// Print returns the canonical text of a tree.
func Print(n api.Node) (string, api.Errno) {
	if err := Check(n); err != api.OK {
		return "", err
	}
	return limited(canonical(n))
}

// Lay returns the canonical text of a tree in lines of at most a width, where words allow it.
func Lay(n api.Node, width int) (string, api.Errno) {
	if err := Check(n); err != api.OK {
		return "", err
	}
	if width < minWidth || width > maxWidth {
		return "", api.ErrArg
	}
	lines := strings.Split(canonical(n), "\n")
	for i, line := range lines {
		lines[i] = laid(line, width)
	}
	return limited(strings.Join(lines, "\n"))
}

// limited returns a text, or ErrLong if it has more bytes or more tokens than one that can be parsed.
func limited(text string) (string, api.Errno) {
	if _, _, err := lex.Scan(text); err != api.OK {
		return "", api.ErrLong
	}
	return text, api.OK
}

// laid returns a line with line feeds for those blanks behind which a word would be too far to the right.
func laid(line string, width int) string {
	var out strings.Builder
	used := 0
	for i, word := range strings.Split(line, " ") {
		switch {
		case i == 0:
			used = len(word)
		case used+1+len(word) <= width:
			out.WriteByte(' ')
			used += 1 + len(word)
		default:
			out.WriteString("\n  ")
			used = 2 + len(word)
		}
		out.WriteString(word)
	}
	return out.String()
}

// canonical returns the canonical text of a valid tree, however long it is.
func canonical(n api.Node) string {
	p := &printer{}
	p.whole(n)
	return p.String()
}

// printer writes the texts of nodes.
type printer struct{ strings.Builder }

// put writes words.
func (p *printer) put(words ...string) {
	for _, w := range words {
		p.WriteString(w)
	}
}

// whole writes a tree of any kind.
func (p *printer) whole(n api.Node) {
	switch {
	case n.Kind == api.NdText:
		for _, x := range n.L {
			p.item(x)
			p.put("\n")
		}
	case isItem(n):
		p.item(n)
	default:
		p.node(n, formBind, false)
	}
}

// item writes an item.
func (p *printer) item(n api.Node) {
	p.put(opens(n), " ", n.Name)
	switch n.Kind {
	case api.NdType, api.NdExport:
		p.names(n.L)
	case api.NdConst:
		last := len(n.L) - 1
		p.names(n.L[:last])
		p.put(": ")
		p.node(n.L[last], typeBind, false)
	case api.NdPred, api.NdFact, api.NdLast, api.NdMode:
		for _, x := range n.L {
			p.put(" ")
			p.node(x, simpleBind, false)
		}
	case api.NdRule, api.NdOnce, api.NdMost, api.NdQuery:
		p.put(": ")
		p.node(n.L[0], formBind, false)
	}
	p.put(".")
}

// names writes names with commas.
func (p *printer) names(l []api.Node) {
	for i, x := range l {
		if i > 0 {
			p.put(", ")
		}
		p.put(x.Name)
	}
}

// node writes a formula, a term or a type at a place that asks for what binds at least as tightly as bind; behind which more follows, or nothing up to the next closing sign.
func (p *printer) node(n api.Node, bind int, more bool) {
	quantifier := n.Kind == api.NdAll || n.Kind == api.NdEx
	if op, ok := operatorOf(n); ok && op.bind < bind || quantifier && more {
		p.put("(")
		p.bare(n, false)
		p.put(")")
		return
	}
	p.bare(n, more)
}

// bare writes a node without parentheses around it.
func (p *printer) bare(n api.Node, more bool) {
	switch n.Kind {
	case api.NdName, api.NdVar:
		p.put(n.Name)
		for _, x := range n.L {
			p.put(" ")
			p.argument(x)
		}
	case api.NdLam:
		p.put(opens(n))
		p.binder(n)
	case api.NdAll, api.NdEx:
		p.put(opens(n), " ")
		p.binder(n)
	case api.NdOne, api.NdTop:
		p.put(opens(n))
	case api.NdBang:
		p.put(opens(n))
		p.node(n.L[0], partBind, more)
	case api.NdMonad:
		p.put(opens(n))
		p.node(n.L[0], formBind, false)
		p.put("}")
	default:
		p.binary(n, more)
	}
}

// binary writes an operator and its operands.
func (p *printer) binary(n api.Node, more bool) {
	op, _ := operatorOf(n)
	left, right := op.bind+1, op.bind
	if op.bind == formBind {
		left, right = op.bind, op.bind+1
	}
	p.node(n.L[0], left, true)
	p.put(" ", op.sign, " ")
	p.node(n.L[1], right, more)
}

// binder writes what follows the word of a binder.
func (p *printer) binder(n api.Node) {
	last := len(n.L) - 1
	p.put(n.Name)
	if last > 0 {
		p.put(": ")
		p.node(n.L[0], typeBind, false)
	}
	p.put(". ")
	p.node(n.L[last], formBind, false)
}

// argument writes a term as an argument.
func (p *printer) argument(n api.Node) {
	if n.Kind == api.NdLam || len(n.L) > 0 {
		p.put("(")
		p.bare(n, false)
		p.put(")")
		return
	}
	p.put(n.Name)
}

// opens returns what a node begins with.
func opens(n api.Node) string {
	for _, o := range openings {
		if o.kind == n.Kind {
			return o.word
		}
	}
	return ""
}

// operatorOf returns the operator of a node, if it is one.
func operatorOf(n api.Node) (operator, bool) {
	for _, op := range operators {
		if op.kind == n.Kind {
			return op, true
		}
	}
	return operator{}, false
}
