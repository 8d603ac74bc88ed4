package types

import "peculium/api"

// builder makes formulas and terms, and counts their parts, and those of the types in them, so that it stops when they become too large.
type builder struct {
	parts counter
	types *counter
}

// formKinds are the kinds of formulas, by those of their nodes.
var formKinds = [api.NdMonad + 1]int{
	api.NdName: api.FoAtom, api.NdAll: api.FoAll, api.NdEx: api.FoEx, api.NdOne: api.FoOne, api.NdTop: api.FoTop,
	api.NdTensor: api.FoTensor, api.NdWith: api.FoWith, api.NdPlus: api.FoPlus, api.NdLolli: api.FoLolli, api.NdImp: api.FoImp,
	api.NdFrom: api.FoLolli, api.NdIf: api.FoImp, api.NdBang: api.FoBang, api.NdMonad: api.FoMonad,
}

// rule returns the rule of a formula that has no blame: its outer variables are quantified around it.
func (r *reading) rule(b *builder, name string, use int) api.Rule {
	f := b.form(r.parts[0], len(r.outer))
	for i := len(r.outer) - 1; i >= 0; i-- {
		f = b.quantified(api.FoAll, r.outer[i], f)
	}
	return api.Rule{Name: name, Form: f, Use: use}
}

// query returns the query of a formula that has no blame.
func (r *reading) query(b *builder, name string) api.Query {
	q := api.Query{Name: name, Form: b.form(r.parts[0], 0)}
	for _, v := range r.outer {
		q.Vars = append(q.Vars, api.Named{Name: v.name, Type: b.typ(v.typ)})
	}
	return q
}

// form returns the formula of a part with a number of binders around it.
func (b *builder) form(p *part, depth int) api.Form {
	kind := formKinds[p.node.Kind]
	if p.binds != nil {
		p.binds.level = depth
		return b.quantified(kind, p.binds, b.form(p.l[0], depth+1))
	}
	b.parts.more()
	f := api.Form{Kind: kind, Name: p.node.Name}
	for _, x := range p.l {
		if x.term {
			f.Args = append(f.Args, b.term(x, depth))
		} else {
			f.L = append(f.L, b.form(x, depth))
		}
	}
	if p.node.Kind == api.NdFrom || p.node.Kind == api.NdIf {
		f.L[0], f.L[1] = f.L[1], f.L[0]
	}
	return f
}

func (b *builder) quantified(kind int, v *variable, f api.Form) api.Form {
	b.parts.more()
	return api.Form{Kind: kind, Name: v.name, Type: b.typ(v.typ), L: []api.Form{f}}
}

// typ returns a type that is found.
func (b *builder) typ(s *slot) api.Type {
	b.types.more()
	s = s.last()
	t := api.Type{Name: s.name}
	if s.isArrow() {
		t.Args = []api.Type{b.typ(s.args[0]), b.typ(s.args[1])}
	}
	return t
}

// term returns the canonical term of a part with a number of binders around it.
func (b *builder) term(p *part, depth int) api.Term {
	if p.binds != nil {
		p.binds.level = depth
		return b.lambda(b.term(p.l[0], depth+1))
	}
	head := api.Term{Kind: api.TmCon, Name: p.node.Name}
	level := 0
	if p.means != nil {
		head, level = api.Term{Kind: api.TmBound}, p.means.level
		if p.means.free {
			head.Kind, head.N = api.TmVar, level
		}
	}
	return b.long(head, level, p.l, p.asked, depth)
}

// long returns the eta-long term of a head with some arguments, for a type; the level is that of the head's binder, if it is a bound variable.
func (b *builder) long(head api.Term, level int, args []*part, asked *slot, depth int) api.Term {
	added := asked.arity()
	if len(args)+added > api.MaxArgs {
		panic(api.ErrLong)
	}
	b.parts.more()
	inner := depth + added
	if head.Kind == api.TmBound {
		head.N = inner - 1 - level
	}
	for _, x := range args {
		head.Args = append(head.Args, b.term(x, inner))
	}
	for i := range added {
		head.Args = append(head.Args, b.long(api.Term{Kind: api.TmBound}, depth+i, nil, asked.argument(), inner))
		asked = asked.result()
	}
	for range added {
		head = b.lambda(head)
	}
	return head
}

func (b *builder) lambda(body api.Term) api.Term {
	b.parts.more()
	return api.Term{Kind: api.TmLam, Args: []api.Term{body}}
}
