package types

import (
	"iter"

	"peculium/api"
)

// What an item may declare, each sort with names of its own.
const (
	typeName = iota
	termName // a constant or a predicate
	ruleName
	queryName
	modeName // a predicate that an item gives modes to
)

// declaration is a name of a sort that an item declares.
type declaration struct {
	sort int
	name string
}

// spot is where a name is declared: the item, and the element of its L, or -1 for the item itself.
type spot struct{ item, at int }

// path returns the path of the node of a spot.
func (s spot) path() []int {
	if s.at < 0 {
		return []int{s.item}
	}
	return []int{s.item, s.at}
}

// text is the tree of a text that is read.
type text struct {
	declared
	items    []api.Node
	first    map[declaration]spot
	readings map[int]*reading // of the items that have formulas
}

// readText reads a text: the declarations ahead of all else.
func readText(n api.Node) *text {
	t := &text{
		declared: declarations(api.Program{}),
		items:    n.L,
		first:    map[declaration]spot{},
		readings: map[int]*reading{},
	}
	for i, item := range n.L {
		for at, d := range declares(i, item) {
			if _, ok := t.first[d]; !ok {
				t.first[d] = at
			}
		}
	}
	for i := range n.L {
		t.declare(i)
	}
	for i, item := range n.L {
		if hasForm(item) {
			left := item.Kind != api.NdQuery
			r := newReading(t.declared, left)
			r.form(place{path: []int{i, 0}, left: left}, item.L[0])
			t.readings[i] = r
		}
	}
	return t
}

// declares yields what an item declares, in order, and where.
func declares(i int, item api.Node) iter.Seq2[spot, declaration] {
	return func(yield func(spot, declaration) bool) {
		sort, names := sortOf(item)
		if sort < 0 {
			return
		}
		for k, x := range names {
			if !yield(spot{i, k}, declaration{sort, x.Name}) {
				return
			}
		}
		if item.Name != "" {
			yield(spot{i, -1}, declaration{sort, item.Name})
		}
	}
}

// sortOf returns what sort of names an item declares, or -1, and those nodes that are such names.
func sortOf(item api.Node) (int, []api.Node) {
	switch item.Kind {
	case api.NdType:
		return typeName, item.L
	case api.NdConst:
		return termName, item.L[:len(item.L)-1]
	case api.NdPred, api.NdFact, api.NdLast:
		return termName, nil
	case api.NdMode:
		return modeName, nil
	case api.NdRule, api.NdOnce, api.NdMost:
		return ruleName, nil
	case api.NdQuery:
		return queryName, nil
	}
	return -1, nil
}

func hasForm(item api.Node) bool {
	sort, _ := sortOf(item)
	return sort == ruleName || sort == queryName
}

// declare adds the types, constants and predicates of an item that none ahead declares.
func (t *text) declare(i int) {
	item := t.items[i]
	last := len(item.L) - 1
	for at, d := range declares(i, item) {
		switch {
		case t.first[d] != at:
		case d.sort == typeName:
			t.types[d.name] = true
		case item.Kind == api.NdConst:
			t.consts[d.name] = typeOf(item.L[last])
		case d.sort == termName:
			t.preds[d.name] = predicateOf(item)
		}
	}
}

// predicateOf returns the predicate that an item declares, without modes.
func predicateOf(item api.Node) api.Pred {
	x := api.Pred{Name: item.Name, Kind: api.PrBack + item.Kind - api.NdPred}
	for _, t := range item.L {
		x.Types = append(x.Types, typeOf(t))
	}
	return x
}

// blames returns what is wrong with the items, in their order.
func (t *text) blames() []api.Blame {
	var list []api.Blame
	for i := range t.items {
		list = append(list, blamed(func() { t.judgeItem(i) })...)
	}
	return list
}

// judgeItem throws the first blame of an item.
func (t *text) judgeItem(i int) {
	item := t.items[i]
	sort, _ := sortOf(item)
	if sort < 0 {
		blame([]int{i}, api.BlItem)
	}
	for at, d := range declares(i, item) {
		if sort != modeName && t.first[d] != at {
			blame(at.path(), api.BlTwice)
		}
	}
	t.judgeTypes([]int{i}, item)
	if sort == modeName {
		t.judgeMode(i, item)
	}
	if r := t.readings[i]; r != nil {
		r.judge(ofForms())
	}
}

func (t *text) judgeMode(i int, item api.Node) {
	x, ok := t.preds[item.Name]
	switch {
	case !ok || len(item.L) != len(x.Types):
		blame([]int{i}, api.BlMode)
	case t.first[declaration{modeName, item.Name}].item != i:
		blame([]int{i}, api.BlTwice)
	}
}

// program returns the program of a text without blames.
func (t *text) program() api.Program {
	var p api.Program
	c := counter(0)
	types := new(counter)
	rules := &builder{types: types}
	for i, item := range t.items {
		switch item.Kind {
		case api.NdType:
			for _, x := range item.L {
				p.Types = append(p.Types, x.Name)
			}
		case api.NdConst:
			last := len(item.L) - 1
			for _, x := range item.L[:last] {
				p.Consts = append(p.Consts, api.Const{Name: x.Name, Type: copied(t.consts[x.Name], &c)})
			}
		case api.NdPred, api.NdFact, api.NdLast:
			p.Preds = append(p.Preds, t.predicate(item.Name, &c))
		case api.NdRule, api.NdOnce, api.NdMost:
			use := api.UsLast + item.Kind - api.NdRule
			p.Rules = append(p.Rules, t.readings[i].rule(rules, item.Name, use))
		case api.NdQuery:
			p.Queries = append(p.Queries, t.readings[i].query(&builder{types: types}, item.Name))
		}
	}
	return p
}

// predicate returns a predicate with the modes that the text gives to it.
func (t *text) predicate(name string, c *counter) api.Pred {
	x := t.preds[name]
	out := api.Pred{Name: name, Kind: x.Kind}
	for _, typ := range x.Types {
		out.Types = append(out.Types, copied(typ, c))
	}
	at, ok := t.first[declaration{modeName, name}]
	if !ok {
		return out
	}
	for _, word := range t.items[at.item].L {
		out.Modes = append(out.Modes, modeOf(word.Name))
	}
	return out
}

func modeOf(word string) int {
	switch word {
	case "in":
		return api.MdIn
	case "out":
		return api.MdOut
	}
	return api.MdNone
}

// copied returns a type in new memory, and counts its parts.
func copied(t api.Type, c *counter) api.Type {
	c.more()
	return api.Type{Name: t.Name, Args: mapped(t.Args, func(x api.Type) api.Type { return copied(x, c) })}
}
