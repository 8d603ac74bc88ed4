package syntax_test

import (
	"math/rand"
	"slices"
	"strings"

	"peculium/api"
	"peculium/lex"
)

// nd makes a node of a kind, nm a name, vr a capital name, bd a binder or an item with a Name.
func nd(kind int, l ...api.Node) api.Node           { return api.Node{Kind: kind, L: l} }
func nm(s string, l ...api.Node) api.Node           { return api.Node{Kind: api.NdName, Name: s, L: l} }
func vr(s string, l ...api.Node) api.Node           { return api.Node{Kind: api.NdVar, Name: s, L: l} }
func bd(kind int, s string, l ...api.Node) api.Node { return api.Node{Kind: kind, Name: s, L: l} }

// binaries are the kinds of operators of formulas, with their signs, and what the grammar allows on their left and on their right.
var binaries = map[int][3]string{
	api.NdFrom: {"o-", "form", "arrow"}, api.NdIf: {"<=", "form", "arrow"},
	api.NdLolli: {"-o", "sum", "arrow"}, api.NdImp: {"=>", "sum", "arrow"},
	api.NdPlus: {"+", "both", "sum"}, api.NdWith: {"&", "product", "both"}, api.NdTensor: {"*", "part", "product"},
}

// allowed has the kinds of operators that may stand where the grammar has this.
var allowed = map[string][]int{
	"form":    {api.NdFrom, api.NdIf, api.NdLolli, api.NdImp, api.NdPlus, api.NdWith, api.NdTensor},
	"arrow":   {api.NdLolli, api.NdImp, api.NdPlus, api.NdWith, api.NdTensor},
	"sum":     {api.NdPlus, api.NdWith, api.NdTensor},
	"both":    {api.NdWith, api.NdTensor},
	"product": {api.NdTensor},
}

var heads = map[int]string{
	api.NdType: "type", api.NdExport: "export", api.NdConst: "const", api.NdPred: "pred", api.NdFact: "fact", api.NdLast: "lasting",
	api.NdMode: "mode", api.NdRule: "rule", api.NdOnce: "once", api.NdMost: "most", api.NdQuery: "query", api.NdModule: "module",
	api.NdUse: "use", api.NdLam: "\\", api.NdAll: "all ", api.NdEx: "ex ", api.NdOne: "one", api.NdTop: "top", api.NdBang: "!",
}

// The marks of a quantifier's beginning and end, until it is known whether something follows it.
const opening, closing = "⟨", "⟩"

// written is the canonical text of a valid tree, by another way: it marks quantifiers, and decides on their parentheses when all is there.
func written(n api.Node) string {
	if n.Kind == api.NdText {
		out := ""
		for _, x := range n.L {
			out += written(x) + "\n"
		}
		return out
	}
	if n.Kind >= api.NdType && n.Kind <= api.NdExport {
		return writtenItem(n)
	}
	return unmarked(marked(n, "form"))
}

func writtenItem(n api.Node) string {
	var parts []string
	for _, x := range n.L {
		parts = append(parts, unmarked(marked(x, "form")))
	}
	last := len(parts) - 1
	switch n.Kind {
	case api.NdType, api.NdExport:
		return heads[n.Kind] + " " + strings.Join(parts, ", ") + "."
	case api.NdConst:
		return "const " + strings.Join(parts[:last], ", ") + ": " + parts[last] + "."
	case api.NdRule, api.NdOnce, api.NdMost, api.NdQuery:
		return heads[n.Kind] + " " + n.Name + ": " + parts[0] + "."
	}
	for i, x := range n.L {
		if x.Kind == api.NdArrow {
			parts[i] = "(" + parts[i] + ")"
		}
	}
	return strings.Join(append([]string{heads[n.Kind], n.Name}, parts...), " ") + "."
}

func marked(n api.Node, where string) string {
	last := len(n.L) - 1
	switch n.Kind {
	case api.NdName, api.NdVar:
		out := n.Name
		for _, x := range n.L {
			if s := marked(x, "form"); strings.Contains(s, " ") {
				out += " (" + s + ")"
			} else {
				out += " " + s
			}
		}
		return out
	case api.NdLam, api.NdAll, api.NdEx:
		out := heads[n.Kind] + n.Name
		if last == 1 {
			out += ": " + marked(n.L[0], "form")
		}
		out += ". " + marked(n.L[last], "form")
		if n.Kind == api.NdLam {
			return out
		}
		return opening + out + closing
	case api.NdBang:
		return "!" + marked(n.L[0], "part")
	case api.NdMonad:
		return "{" + marked(n.L[0], "form") + "}"
	case api.NdOne, api.NdTop:
		return heads[n.Kind]
	case api.NdArrow:
		left := marked(n.L[0], "form")
		if n.L[0].Kind == api.NdArrow {
			left = "(" + left + ")"
		}
		return left + " -> " + marked(n.L[1], "form")
	}
	b := binaries[n.Kind]
	out := marked(n.L[0], b[1]) + " " + b[0] + " " + marked(n.L[1], b[2])
	if !slices.Contains(allowed[where], n.Kind) {
		out = "(" + out + ")"
	}
	return out
}

// unmarked replaces the marks, from the outermost ones on, by parentheses where something follows, and otherwise by nothing.
func unmarked(s string) string {
	for {
		from := strings.Index(s, opening)
		if from < 0 {
			return s
		}
		to, depth := from, 0
		for to = from; ; to++ {
			if strings.HasPrefix(s[to:], opening) {
				depth++
			} else if strings.HasPrefix(s[to:], closing) {
				depth--
				if depth == 0 {
					break
				}
			}
		}
		inner, behind := s[from+len(opening):to], s[to+len(closing):]
		if next := strings.TrimLeft(behind, closing); next != "" && next[0] != ')' && next[0] != '}' {
			inner = "(" + inner + ")"
		}
		s = s[:from] + inner + behind
	}
}

// bracketed is a text of a formula, a term or a type with parentheses around all that may have some.
func bracketed(n api.Node) string {
	if b, ok := binaries[n.Kind]; ok {
		return "(" + bracketed(n.L[0]) + " " + b[0] + " " + bracketed(n.L[1]) + ")"
	}
	last := len(n.L) - 1
	switch n.Kind {
	case api.NdName, api.NdVar:
		out := n.Name
		for _, x := range n.L {
			out += "((" + bracketed(x) + "))"
		}
		return out
	case api.NdLam, api.NdAll, api.NdEx:
		out := "(" + heads[n.Kind] + n.Name
		if last == 1 {
			out += ":" + bracketed(n.L[0])
		}
		return out + "." + bracketed(n.L[last]) + ")"
	case api.NdBang:
		return "(!" + bracketed(n.L[0]) + ")"
	case api.NdMonad:
		return "({" + bracketed(n.L[0]) + "})"
	case api.NdArrow:
		return "((" + bracketed(n.L[0]) + ")->" + bracketed(n.L[1]) + ")"
	}
	return "(" + heads[n.Kind] + ")"
}

// The sorts of trees, as bits.
const (
	sText = 1 << iota
	sItem
	sForm
	sTerm
	sType
	sLone
	sMode
)

// sorts tells what a tree of any size is, from its leaves up.
func sorts(n api.Node) int {
	small, capital := lex.IsName(n.Name), lex.IsVar(n.Name)
	each, count, last := sText|sItem|sForm|sTerm|sType|sLone|sMode, len(n.L), 0
	ahead := each // of all but the last one
	for _, x := range n.L {
		last = sorts(x)
		ahead, each = each, each&last
	}
	binder := (small || capital) && (count == 1 || count == 2 && ahead&sType != 0)
	if n.Name != "" && !small && !capital {
		return 0
	}
	all := func(sort int) bool { return each&sort != 0 }
	flags := map[int]bool{}
	switch k := n.Kind; {
	case k == api.NdText:
		flags[sText] = n.Name == "" && all(sItem)
	case k == api.NdType || k == api.NdExport:
		flags[sItem] = n.Name == "" && count > 0 && all(sLone)
	case k == api.NdConst:
		flags[sItem] = n.Name == "" && count > 1 && ahead&sLone != 0 && last&sType != 0
	case k == api.NdPred || k == api.NdFact || k == api.NdLast:
		flags[sItem] = small && count <= 8 && all(sType)
	case k == api.NdMode:
		flags[sItem] = small && count <= 8 && all(sMode)
	case k >= api.NdRule && k <= api.NdQuery:
		flags[sItem] = small && count == 1 && all(sForm)
	case k == api.NdModule || k == api.NdUse:
		flags[sItem] = small && count == 0
	case k == api.NdName:
		flags[sForm] = small && count <= 8 && all(sTerm)
		flags[sTerm] = flags[sForm]
		flags[sType] = small && count == 0
		flags[sLone] = flags[sType]
		flags[sMode] = flags[sType] && strings.Contains("|in|out|any|", "|"+n.Name+"|")
	case k == api.NdVar:
		flags[sTerm] = capital && count <= 8 && all(sTerm)
	case k == api.NdLam:
		flags[sTerm] = binder && last&sTerm != 0
	case k == api.NdAll || k == api.NdEx:
		flags[sForm] = binder && last&sForm != 0
	case k == api.NdOne || k == api.NdTop:
		flags[sForm] = n.Name == "" && count == 0
	case k == api.NdBang || k == api.NdMonad:
		flags[sForm] = n.Name == "" && count == 1 && all(sForm)
	case binaries[k][0] != "":
		flags[sForm] = n.Name == "" && count == 2 && all(sForm)
	case k == api.NdArrow:
		flags[sType] = n.Name == "" && count == 2 && all(sType)
	}
	out := 0
	for sort, is := range flags {
		if is {
			out |= sort
		}
	}
	return out
}

// maker makes trees that are valid, always the same ones.
type maker struct{ *rand.Rand }

func newMaker(seed int64) maker { return maker{rand.New(rand.NewSource(seed))} }

func (m maker) pick(words ...string) string { return words[m.Intn(len(words))] }
func (m maker) kind(kinds ...int) int       { return kinds[m.Intn(len(kinds))] }
func (m maker) small() string               { return m.pick("a", "b", "o", "in", "f'@m", "p_1") }
func (m maker) capital() string             { return m.pick("X", "Y", "Z9_'") }
func (m maker) any() string                 { return m.pick(m.small(), m.capital()) }

// some makes up to a number of trees.
func (m maker) some(most int, one func() api.Node) []api.Node {
	var l []api.Node
	for range m.Intn(most + 1) {
		l = append(l, one())
	}
	return l
}

func (m maker) typ(deep int) api.Node {
	if deep <= 0 || m.Intn(3) == 0 {
		return nm(m.small())
	}
	return nd(api.NdArrow, m.typ(deep-1), m.typ(deep-1))
}

// binder makes a binder, half of them with a type.
func (m maker) binder(kind int, body api.Node) api.Node {
	if m.Intn(2) == 0 {
		return bd(kind, m.any(), body)
	}
	return bd(kind, m.any(), m.typ(2), body)
}

func (m maker) args(deep int) []api.Node {
	if deep <= 0 {
		return nil
	}
	return m.some(3, func() api.Node { return m.term(deep - 1) })
}

func (m maker) term(deep int) api.Node {
	switch m.Intn(3) {
	case 0:
		return nm(m.small(), m.args(deep)...)
	case 1:
		return vr(m.capital(), m.args(deep)...)
	}
	if deep <= 0 {
		return nm(m.small())
	}
	return m.binder(api.NdLam, m.term(deep-1))
}

func (m maker) form(deep int) api.Node {
	if deep <= 0 {
		return nm(m.small(), m.args(m.Intn(2))...)
	}
	switch m.Intn(6) {
	case 0:
		return m.binder(m.kind(api.NdAll, api.NdEx), m.form(deep-1))
	case 1:
		return nd(m.kind(api.NdBang, api.NdMonad), m.form(deep-1))
	case 2:
		return m.pickNode(nd(api.NdOne), nd(api.NdTop), nm(m.small(), m.args(2)...))
	}
	kind := m.kind(api.NdTensor, api.NdWith, api.NdPlus, api.NdLolli, api.NdImp, api.NdFrom, api.NdIf)
	return nd(kind, m.form(deep-1), m.form(deep-1))
}

func (m maker) pickNode(l ...api.Node) api.Node { return l[m.Intn(len(l))] }

func (m maker) lone() api.Node { return nm(m.small()) }

func (m maker) item(deep int) api.Node {
	kind := api.NdType + m.Intn(api.NdExport-api.NdType+1)
	switch kind {
	case api.NdType, api.NdExport:
		return nd(kind, append(m.some(2, m.lone), m.lone())...)
	case api.NdConst:
		return nd(kind, append(append(m.some(2, m.lone), m.lone()), m.typ(deep))...)
	case api.NdPred, api.NdFact, api.NdLast:
		return bd(kind, m.small(), m.some(4, func() api.Node { return m.typ(deep) })...)
	case api.NdMode:
		return bd(kind, m.small(), m.some(4, func() api.Node { return nm(m.pick("in", "out", "any")) })...)
	case api.NdModule, api.NdUse:
		return bd(kind, m.small())
	}
	return bd(kind, m.small(), m.form(deep))
}

func (m maker) text(deep int) api.Node {
	return nd(api.NdText, m.some(5, func() api.Node { return m.item(deep) })...)
}

// tree makes a tree of any sort, and tells which function parses its texts (an item is parsed as a text).
func (m maker) tree(deep int) (api.Node, string) {
	switch m.Intn(6) {
	case 0:
		return m.typ(deep), "typ"
	case 1:
		return m.term(deep), "term"
	case 2:
		return m.text(deep), "text"
	}
	return m.form(deep), "form"
}

// paths has the paths of all nodes of a tree, each one ahead of its L.
func paths(n api.Node) [][]int {
	list := [][]int{nil}
	for i, x := range n.L {
		for _, p := range paths(x) {
			list = append(list, append([]int{i}, p...))
		}
	}
	return list
}

// node is the node at a path.
func node(n api.Node, path []int) api.Node {
	for _, i := range path {
		n = n.L[i]
	}
	return n
}

// occurrence is a free occurrence: where it is, and the names that are bound there.
type occurrence struct {
	path  []int
	node  api.Node
	bound []string
}

// occurrences finds the free occurrences of a tree, path by path.
func occurrences(n api.Node) []occurrence {
	var list []occurrence
	for _, path := range paths(n) {
		x := node(n, path)
		o := occurrence{path: path, node: x}
		free := x.Kind == api.NdName || x.Kind == api.NdVar
		for k := range path {
			switch over := node(n, path[:k]); over.Kind {
			case api.NdMode:
				free = false
			case api.NdLam, api.NdAll, api.NdEx:
				if path[k] == len(over.L)-1 {
					o.bound = append(o.bound, over.Name)
					free = free && over.Name != x.Name
				}
			}
		}
		if free {
			list = append(list, o)
		}
	}
	return list
}

// names are those of the free occurrences of a kind.
func names(n api.Node, kind int) []string {
	var list []string
	for _, o := range occurrences(n) {
		if o.node.Kind == kind && !slices.Contains(list, o.node.Name) {
			list = append(list, o.node.Name)
		}
	}
	return list
}
