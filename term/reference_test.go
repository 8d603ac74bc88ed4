package term_test

import (
	"fmt"
	"regexp"
	"slices"
	"strings"

	"peculium/api"
	"peculium/lex"
)

// This file does what the chapter says another way: terms are copied as a whole, orders are those of texts, and texts are told by regular expressions.

func con(name string, args ...api.Term) api.Term {
	return api.Term{Kind: api.TmCon, Name: name, Args: args}
}
func bound(n int, args ...api.Term) api.Term {
	return api.Term{Kind: api.TmBound, N: n, Args: args}
}
func par(n int, args ...api.Term) api.Term {
	return api.Term{Kind: api.TmPar, N: n, Args: args}
}
func variable(n int, args ...api.Term) api.Term {
	return api.Term{Kind: api.TmVar, N: n, Args: args}
}
func lam(body api.Term) api.Term { return api.Term{Kind: api.TmLam, Args: []api.Term{body}} }

// lams is a term below some lambdas.
func lams(n int, t api.Term) api.Term {
	for range n {
		t = lam(t)
	}
	return t
}

func base(name string) api.Type { return api.Type{Name: name} }

// fn is the type of functions of some types, to the last one.
func fn(list ...api.Type) api.Type {
	if len(list) == 1 {
		return list[0]
	}
	return api.Type{Name: "->", Args: []api.Type{list[0], fn(list[1:]...)}}
}

// levels are the nodes of a tree, level by level, down to the level 101, or to the one with which there are too many.
func levels[T any](root T, below func(T) []T) [][]T {
	all := [][]T{{root}}
	count := 1
	for len(all) < 101 && count <= 4000 {
		var next []T
		for _, x := range all[len(all)-1] {
			next = append(next, below(x)[:min(len(below(x)), 4001)]...)
			if len(next) > 4000 {
				break
			}
		}
		if len(next) == 0 {
			break
		}
		all = append(all, next)
		count += len(next)
	}
	return all
}

// sizeError is the error of a tree that is too large.
func sizeError[T any](root T, below func(T) []T) api.Errno {
	all := levels(root, below)
	switch {
	case len(slices.Concat(all...)) > 4000:
		return api.ErrLong
	case len(all) > 100:
		return api.ErrDeep
	}
	return api.OK
}

func argsOf(t api.Term) []api.Term  { return t.Args }
func typesIn(t api.Type) []api.Type { return t.Args }

// typeErrorOf is CheckType.
func typeErrorOf(p api.Program, ty api.Type) api.Errno {
	if e := sizeError(ty, typesIn); e != api.OK {
		return e
	}
	err := api.OK
	for _, x := range slices.Concat(levels(ty, typesIn)...) {
		if x.Name == "->" && len(x.Args) != 2 || x.Name != "->" && len(x.Args) > 0 {
			return api.ErrForm
		}
		if x.Name != "->" && !slices.Contains(p.Types, x.Name) {
			err = api.ErrBase
		}
	}
	return err
}

// rawErrorOf is Raw.
func rawErrorOf(t api.Term) api.Errno {
	if e := sizeError(t, argsOf); e != api.OK {
		return e
	}
	for _, x := range slices.Concat(levels(t, argsOf)...) {
		named := x.Kind == api.TmCon
		numbered := x.Kind == api.TmBound || x.Kind == api.TmPar || x.Kind == api.TmVar
		ok := (named || numbered || x.Kind == api.TmLam && len(x.Args) == 1) && len(x.Args) <= 8
		ok = ok && (named && lex.IsName(x.Name) || !named && x.Name == "")
		ok = ok && (x.N == 0 || numbered && x.N > 0 && x.N <= 100000)
		if !ok {
			return api.ErrForm
		}
	}
	return api.OK
}

// typedErrorOf is Typed.
func typedErrorOf(p api.Program, s api.Scope, t api.Term, ty api.Type) api.Errno {
	if e := rawErrorOf(t); e != api.OK {
		return e
	}
	for _, x := range slices.Concat(s.Vars, s.Pars, s.Bound, []api.Type{ty}) {
		if e := typeErrorOf(p, x); e != api.OK {
			return e
		}
	}
	if !canonical(p, s, t, ty) {
		return api.ErrTyped
	}
	return api.OK
}

// canonical is the definition, word by word.
func canonical(p api.Program, s api.Scope, t api.Term, ty api.Type) bool {
	if ty.Name == "->" {
		s.Bound = slices.Concat(s.Bound, ty.Args[:1])
		return t.Kind == api.TmLam && canonical(p, s, t.Args[0], ty.Args[1])
	}
	var list []api.Type
	at := t.N
	switch t.Kind {
	case api.TmLam:
		return false
	case api.TmCon:
		for _, c := range p.Consts {
			if c.Name == t.Name {
				list = []api.Type{c.Type}
				break
			}
		}
		if len(list) > 0 && typeErrorOf(p, list[0]) != api.OK {
			return false
		}
	case api.TmBound:
		list = slices.Clone(s.Bound)
		slices.Reverse(list)
	case api.TmPar:
		list = s.Pars
	case api.TmVar:
		list = s.Vars
	}
	if at >= len(list) {
		return false
	}
	head := list[at]
	for _, x := range t.Args {
		if head.Name != "->" || !canonical(p, s, x, head.Args[0]) {
			return false
		}
		head = head.Args[1]
	}
	return head.Name == ty.Name
}

// copier substitutes by copying, as the chapter says it. It gives up, with a tooMuch, where that would need too much memory.
type copier struct{ contractions, nodes int }

type tooMuch struct{}

func (c *copier) made() {
	c.nodes++
	if c.nodes > 300000 {
		panic(tooMuch{})
	}
}

// raised is a term with N of its free bound variables raised.
func (c *copier) raised(t api.Term, by, from int) api.Term {
	c.made()
	out := api.Term{Kind: t.Kind, N: t.N, Name: t.Name}
	if t.Kind == api.TmBound && t.N >= from {
		out.N += by
	}
	if t.Kind == api.TmLam {
		from++
	}
	for _, x := range t.Args {
		out.Args = append(out.Args, c.raised(x, by, from))
	}
	return out
}

// subst substitutes s for the bound variable k.
func (c *copier) subst(t, s api.Term, k int) api.Term {
	c.made()
	if t.Kind == api.TmLam {
		return lam(c.subst(t.Args[0], s, k+1))
	}
	out := api.Term{Kind: t.Kind, N: t.N, Name: t.Name}
	for _, x := range t.Args {
		out.Args = append(out.Args, c.subst(x, s, k))
	}
	if t.Kind == api.TmBound && t.N == k {
		return c.apply(c.raised(s, k, 0), out.Args)
	}
	if t.Kind == api.TmBound && t.N > k {
		out.N--
	}
	return out
}

// put puts terms for variables below k binders.
func (c *copier) put(t api.Term, l []api.Term, k int) api.Term {
	c.made()
	if t.Kind == api.TmLam {
		return lam(c.put(t.Args[0], l, k+1))
	}
	out := api.Term{Kind: t.Kind, N: t.N, Name: t.Name}
	for _, x := range t.Args {
		out.Args = append(out.Args, c.put(x, l, k))
	}
	if t.Kind == api.TmVar && t.N < len(l) {
		return c.apply(c.raised(l[t.N], k, 0), out.Args)
	}
	return out
}

func (c *copier) apply(t api.Term, list []api.Term) api.Term {
	switch {
	case len(list) == 0:
		return t
	case t.Kind == api.TmLam:
		c.contractions++
		if c.contractions > 2000 {
			panic(api.ErrFuel)
		}
		body := c.subst(t.Args[0], list[0], 0)
		if isLong(body) {
			panic(api.ErrLong)
		}
		return c.apply(body, list[1:])
	case len(t.Args)+len(list) > 8:
		panic(api.ErrLong)
	}
	return api.Term{Kind: t.Kind, N: t.N, Name: t.Name, Args: slices.Concat(t.Args, list)}
}

// isLong reports whether a result has too many nodes, or an N above the greatest one.
func isLong(t api.Term) bool {
	nodes, high := 0, 0
	var count func(t api.Term)
	count = func(t api.Term) {
		nodes++
		high = max(high, t.N)
		for _, x := range t.Args {
			count(x)
		}
	}
	count(t)
	return nodes > 4000 || high > 100000
}

// copied is the result of a substitution by copying; known is false if that would need too much memory.
func copied(change func(c *copier) api.Term) (t api.Term, err api.Errno, known bool) {
	defer func() {
		switch e := recover().(type) {
		case api.Errno:
			t, err, known = api.Term{}, e, true
		case tooMuch:
			t, err, known = api.Term{}, api.OK, false
		}
	}()
	t = change(&copier{})
	switch {
	case isLong(t):
		panic(api.ErrLong)
	case len(levels(t, argsOf)) > 100:
		panic(api.ErrDeep)
	}
	return t, api.OK, true
}

// orderKey is a text of a raw term: those of two terms are in the order of the terms.
func orderKey(t api.Term) string {
	key := fmt.Sprintf("%d %06d %s\x00%d ", t.Kind, t.N, t.Name, len(t.Args))
	for _, x := range t.Args {
		key += orderKey(x)
	}
	return key
}

// textOf is the text of a raw term.
func textOf(t api.Term) string {
	if t.Kind == api.TmLam {
		return `\ . ` + textOf(t.Args[0])
	}
	text := map[int]string{api.TmCon: t.Name, api.TmBound: fmt.Sprint("B", t.N), api.TmPar: fmt.Sprint("P", t.N), api.TmVar: fmt.Sprint("V", t.N)}[t.Kind]
	for _, x := range t.Args {
		if s := textOf(x); strings.Contains(s, " ") {
			text += " ( " + s + " )"
		} else {
			text += " " + s
		}
	}
	return text
}

// A text that is a term is told by its shape: a letter for each token, h for a head, and p for what stands in parentheses.
var (
	numberForm = regexp.MustCompile(`^[BPV](0|[1-9][0-9]{0,4}|100000)$`)
	insideForm = regexp.MustCompile(`\(((\\\.)*(h[hp]{0,8}|p))\)`)
	wholeForm  = regexp.MustCompile(`^(\\\.)*(h[hp]{0,8}|p)$`)
)

// shapeOf has a letter for each token.
func shapeOf(list []api.Token) string {
	shape := ""
	for _, t := range list {
		switch {
		case t.Kind == api.TkName || numberForm.MatchString(t.Text):
			shape += "h"
		case t.Kind == api.TkSign && len(t.Text) == 1 && strings.Contains(`\.()`, t.Text):
			shape += t.Text
		default:
			shape += "x"
		}
	}
	return shape
}

// isTerm reports whether a shape is that of a term.
func isTerm(shape string) bool {
	if deepest(shape) > 100 {
		return false
	}
	for insideForm.MatchString(shape) {
		shape = insideForm.ReplaceAllString(shape, "p")
	}
	return wholeForm.MatchString(shape)
}

// deepest is how many parentheses are open at a time.
func deepest(shape string) int {
	open, most := 0, 0
	for _, c := range shape {
		switch c {
		case '(':
			open++
		case ')':
			open--
		}
		most = max(most, open)
	}
	return most
}

// begins reports whether a shape is the beginning of one of a term: one of a few ends makes it one.
func begins(shape string) bool {
	open := strings.Count(shape, "(") - strings.Count(shape, ")")
	for _, end := range []string{"", "h", ".h"} {
		if isTerm(shape + end + strings.Repeat(")", max(open, 0))) {
			return true
		}
	}
	return false
}

// wrongAt is where a text that is scanned as a list of tokens goes wrong, or -1.
func wrongAt(text string, list []api.Token) int {
	shape := shapeOf(list)
	for i, t := range list {
		if !begins(shape[:i+1]) {
			return t.At
		}
	}
	if !isTerm(shape) {
		return len(text)
	}
	return -1
}
