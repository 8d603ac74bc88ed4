package types

import (
	"slices"

	"peculium/api"
)

// variable is what a binder of a tree binds, or an outer variable.
type variable struct {
	name   string
	typ    *slot
	chosen bool
	outer  bool
	free   bool // an outer variable that stays one: a TmVar
	depth  int  // how many binders of the tree are around its own one; -1 of an outer variable
	level  int  // how many binders are around its own one in what is built; of a TmVar its N
}

// names are the variables of the binders around a place, the innermost one first.
type names struct {
	*names
	*variable
}

// find returns the variable that a name denotes, if a binder binds it.
func (l *names) find(name string) *variable {
	for ; l != nil; l = l.names {
		if l.name == name {
			return l.variable
		}
	}
	return nil
}

// place is where a node of a tree stands.
type place struct {
	*names
	path []int
	left bool
}

// below returns the place of the element i of L.
func (at place) below(i int) place {
	at.path = append(at.path, i)
	return at
}

// binding returns the place that is within the binder of a variable.
func (at place) binding(v *variable) place {
	if at.names != nil {
		v.depth = at.depth + 1
	}
	at.names = &names{at.names, v}
	return at
}

// part is a node of a formula or a term, with what it denotes.
type part struct {
	node  api.Node
	path  []int
	term  bool      // it stands in an atom
	l     []*part   // the formulas and terms in L
	pred  *api.Pred // of an atom: its predicate, if there is one
	asked *slot     // of a term: the type that is asked for
	head  *slot     // of a name in a term: the type of what it denotes; none, if it denotes nothing
	means *variable // of a name in a term: the variable that it denotes, if it is one
	binds *variable // of a binder: its variable
}

func (p *part) isAtom() bool { return !p.term && p.node.Kind == api.NdName }

// reading is a formula or a term that is read, with its parts in the order of the tree, a node ahead of its L.
type reading struct {
	declared
	walks
	left   bool // on which side the formula stands
	closed bool // there are no other outer variables than those that were given
	outer  []*variable
	parts  []*part
	heads  map[string]*slot   // types of constants
	params map[string][]*slot // types of the arguments of predicates
}

func newReading(d declared, left bool) *reading {
	return &reading{declared: d, left: left, heads: map[string]*slot{}, params: map[string][]*slot{}}
}

// give makes variables the outer ones that may occur.
func (r *reading) give(vars []api.Named) {
	r.closed = true
	for i, v := range vars {
		r.outer = append(r.outer, &variable{name: v.Name, typ: slotOf(v.Type), outer: true, free: true, depth: -1, level: i})
	}
}

// add adds a part for a node.
func (r *reading) add(at place, n api.Node) *part {
	p := &part{node: n, path: slices.Clone(at.path)}
	r.parts = append(r.parts, p)
	return p
}

// readers returns what reads the formulas of each kind.
func readers() [api.NdMonad + 1]func(r *reading, at place, p *part) {
	return [api.NdMonad + 1]func(r *reading, at place, p *part){
		api.NdName: (*reading).atom,
		api.NdAll:  (*reading).quantifier, api.NdEx: (*reading).quantifier,
		api.NdOne: (*reading).operands, api.NdTop: (*reading).operands,
		api.NdTensor: (*reading).operands, api.NdWith: (*reading).operands, api.NdPlus: (*reading).operands,
		api.NdLolli: (*reading).implication, api.NdImp: (*reading).implication,
		api.NdFrom: (*reading).turned, api.NdIf: (*reading).turned,
		api.NdBang: (*reading).operands, api.NdMonad: (*reading).operands,
	}
}

// form reads a formula.
func (r *reading) form(at place, n api.Node) *part {
	p := r.add(at, n)
	list := readers()
	list[n.Kind](r, at, p)
	return p
}

func (r *reading) operands(at place, p *part) {
	for i, x := range p.node.L {
		p.l = append(p.l, r.form(at.below(i), x))
	}
}

// implication reads what is in front on the other side.
func (r *reading) implication(at place, p *part) { r.sided(at, p, !at.left, at.left) }

// turned reads an implication whose front stands behind.
func (r *reading) turned(at place, p *part) { r.sided(at, p, at.left, !at.left) }

func (r *reading) sided(at place, p *part, sides ...bool) {
	for i, left := range sides {
		at.left = left
		p.l = append(p.l, r.form(at.below(i), p.node.L[i]))
	}
}

func (r *reading) quantifier(at place, p *part) {
	r.binder(at, p, isChosen(p.node.Kind == api.NdAll, at.left), r.form)
}

// binder reads a binder, and its body as read does.
func (r *reading) binder(at place, p *part, chosen bool, read func(place, api.Node) *part) {
	last := len(p.node.L) - 1
	v := &variable{name: p.node.Name, typ: &slot{}, chosen: chosen}
	if last > 0 {
		v.typ = slotOf(typeOf(p.node.L[0]))
	}
	p.binds = v
	p.l = []*part{read(at.below(last).binding(v), p.node.L[last])}
}

func (r *reading) atom(at place, p *part) {
	if x, ok := r.preds[p.node.Name]; ok {
		p.pred = &x
	}
	r.terms(at, p)
}

func (r *reading) terms(at place, p *part) {
	for i, x := range p.node.L {
		p.l = append(p.l, r.term(at.below(i), x))
	}
}

// term reads a term.
func (r *reading) term(at place, n api.Node) *part {
	p := r.add(at, n)
	p.term = true
	if n.Kind == api.NdLam {
		r.binder(at, p, false, r.term)
		return p
	}
	p.means = at.find(n.Name)
	if p.means == nil && n.Kind == api.NdVar {
		p.means = r.outside(n.Name)
	}
	switch {
	case p.means != nil:
		p.head = p.means.typ
	case n.Kind == api.NdName:
		p.head = r.constant(n.Name)
	}
	r.terms(at, p)
	return p
}

// outside returns the outer variable with a name, if there may be one.
func (r *reading) outside(name string) *variable {
	for _, v := range r.outer {
		if v.name == name {
			return v
		}
	}
	if r.closed {
		return nil
	}
	v := &variable{name: name, typ: &slot{}, chosen: true, outer: true, free: !r.left, depth: -1, level: len(r.outer)}
	r.outer = append(r.outer, v)
	return v
}

// constant returns the type of a constant, if it is there: the same slots each time, since types may be large.
func (r *reading) constant(name string) *slot {
	typ, ok := r.consts[name]
	if ok && r.heads[name] == nil {
		r.heads[name] = slotOf(typ)
	}
	return r.heads[name]
}

// arguments returns the types of a predicate's arguments, likewise.
func (r *reading) arguments(x api.Pred) []*slot {
	if r.params[x.Name] == nil {
		for _, t := range x.Types {
			r.params[x.Name] = append(r.params[x.Name], slotOf(t))
		}
	}
	return r.params[x.Name]
}
