package types

import (
	"slices"

	"peculium/api"
)

// wrong is what is thrown where an item, a formula or a term is wrong.
type wrong struct{ api.Blame }

// blame throws that a node is wrong.
func blame(path []int, code int) {
	panic(wrong{api.Blame{Path: slices.Clone(path), Code: code}})
}

// blamed returns what a judgement throws, if it does.
func blamed(judge func()) (blames []api.Blame) {
	defer func() {
		if w, ok := recover().(wrong); ok {
			blames = []api.Blame{w.Blame}
		}
	}()
	judge()
	return nil
}

// line returns what is wrong with a part, or 0.
type line func(r *reading, p *part) int

// ofForms returns the lines by which formulas are judged, in their order; ofTerms those by which terms are.
func ofForms() []line {
	return []line{(*reading).unknown, (*reading).wrongly, (*reading).open, (*reading).patternless}
}

func ofTerms() []line { return ofForms()[:3] }

// judgeTree throws the first blame of a formula, or a term, that has been read of a tree.
func (r *reading) judgeTree(n api.Node, lines []line) {
	r.judgeTypes(nil, n)
	r.judge(lines)
}

// judgeTypes throws the first name in a type of a tree at a path that is none of a type.
func (d declared) judgeTypes(path []int, n api.Node) {
	for at, name := range typeNames(path, n) {
		if !d.types[name] {
			blame(at, api.BlType)
		}
	}
}

// judge throws the first blame that one of some lines has.
func (r *reading) judge(lines []line) {
	for _, is := range lines {
		for _, p := range r.parts {
			if code := is(r, p); code != 0 {
				blame(p.path, code)
			}
		}
	}
}

// unknown tells of names that denote nothing, and of atoms with too many or too few terms.
func (r *reading) unknown(p *part) int {
	switch {
	case p.term && p.binds == nil && p.head == nil, p.isAtom() && p.pred == nil:
		return api.BlUnknown
	case p.isAtom() && len(p.l) != len(p.pred.Types):
		return api.BlMany
	}
	return 0
}

// wrongly tells of the first part whose equation has no solution together with those ahead.
func (r *reading) wrongly(p *part) int {
	var left, right *slot
	switch {
	case p.isAtom():
		for i, t := range r.arguments(*p.pred) {
			p.l[i].asked = t
		}
		return 0
	case !p.term:
		return 0
	case p.binds != nil:
		p.l[0].asked = &slot{}
		left, right = p.asked, p.binds.typ.arrowTo(p.l[0].asked)
	default:
		left, right = p.head, p.asked
		for _, x := range slices.Backward(p.l) {
			x.asked = &slot{}
			right = x.asked.arrowTo(right)
		}
	}
	if !agree(left, right) || !r.ends(left) {
		return api.BlWrong
	}
	return 0
}

// open tells of binders and outer variables whose type is not determined.
func (r *reading) open(p *part) int {
	if v := p.variable(); v != nil && !r.determined(v.typ) {
		return api.BlOpen
	}
	return 0
}

// patternless tells of chosen variables that have no variable type, or are applied to what they may not be.
func (r *reading) patternless(p *part) int {
	v := p.variable()
	noType := v != nil && v.chosen && !v.typ.isVariable()
	if noType || p.means != nil && p.means.chosen && !p.isPattern() {
		return api.BlPattern
	}
	return 0
}

// variable returns the variable of a binder, or the outer one that a name denotes.
func (p *part) variable() *variable {
	if p.means != nil && p.means.outer {
		return p.means
	}
	return p.binds
}

// isPattern reports whether the terms in L are fixed variables without arguments, all different, with binders within the scope of the variable that a part denotes. (Its type is a variable type: so theirs are base types; and what is behind them, where the part is eta-expanded, is right.)
func (p *part) isPattern() bool {
	met := map[*variable]bool{}
	for _, x := range p.l {
		v := x.means
		if v == nil || v.chosen || len(x.l) > 0 || v.depth <= p.means.depth || met[v] {
			return false
		}
		met[v] = true
	}
	return true
}
