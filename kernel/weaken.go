package kernel

import "peculium/api"

// remade tells how a proof is made again: what comes of its Terms, and of the numbers of hypotheses in it.
type remade struct {
	term   func(t *api.Term) api.Term
	number func(n int) int
}

// proof makes a proof again, in new memory and in the order in which its Terms stand.
func (r remade) proof(pf *api.Proof) api.Proof {
	out := api.Proof{Kind: pf.Kind, N: pf.N, Uses: r.numbers(pf.Uses), Term: r.term(&pf.Term)}
	if pf.Kind == api.PfAtom {
		out.N = r.number(pf.N)
	}
	for t := range each(pf.Spine) {
		turn := api.Turn{Kind: t.Kind, Term: r.term(&t.Term)}
		turn.L = r.proofs(t.L)
		out.Spine = append(out.Spine, turn)
	}
	for m := range each(pf.Moves) {
		move := api.Move{N: r.number(m.N), Uses: r.numbers(m.Uses)}
		for t := range each(m.Terms) {
			move.Terms = append(move.Terms, r.term(t))
		}
		out.Moves = append(out.Moves, move)
	}
	out.L = r.proofs(pf.L)
	return out
}

func (r remade) proofs(list []api.Proof) []api.Proof {
	var out []api.Proof
	for x := range each(list) {
		out = append(out, r.proof(x))
	}
	return out
}

func (r remade) numbers(list []int) []int {
	var out []int
	for _, n := range list {
		out = append(out, r.number(n))
	}
	return out
}

func clonedTerm(t *api.Term) api.Term {
	out := api.Term{Kind: t.Kind, N: t.N, Name: t.Name}
	for x := range each(t.Args) {
		out.Args = append(out.Args, clonedTerm(x))
	}
	return out
}

func clonedType(ty *api.Type) api.Type {
	out := api.Type{Name: ty.Name}
	for x := range each(ty.Args) {
		out.Args = append(out.Args, clonedType(x))
	}
	return out
}

// Weaken returns a proof in which hypotheses' numbers are raised.
func Weaken(pf api.Proof, from, by int) (api.Proof, api.Errno) {
	if err := Formed(pf); err != api.OK {
		return api.Proof{}, err
	}
	if from < 0 || from > api.MaxHyps || by < 0 || by > api.MaxHyps {
		return api.Proof{}, api.ErrArg
	}
	raised := func(n int) int {
		if n >= from && n <= api.MaxIndex {
			return n + by
		}
		return n
	}
	return remade{clonedTerm, raised}.proof(&pf), api.OK
}

// Hyps returns the numbers of the hypotheses that a proof names.
func Hyps(pf api.Proof) []int {
	if Formed(pf) != api.OK {
		return nil
	}
	var list []int
	var visit func(pf *api.Proof)
	visit = func(pf *api.Proof) {
		if pf.Kind == api.PfAtom {
			list = append(list, pf.N)
		}
		for _, m := range pf.Moves {
			list = append(list, m.N)
			list = append(list, m.Uses...)
		}
		for x := range proofsOf(pf) {
			visit(x)
		}
	}
	visit(&pf)
	return sorted(list)
}

// sorted returns the numbers of a list, each once, increasing.
func sorted(list []int) []int {
	if len(list) < 2 {
		return append([]int(nil), list...)
	}
	a, b := sorted(list[:len(list)/2]), sorted(list[len(list)/2:])
	var out []int
	for len(a) > 0 && len(b) > 0 {
		n := min(a[0], b[0])
		out = append(out, n)
		if a[0] == n {
			a = a[1:]
		}
		if b[0] == n {
			b = b[1:]
		}
	}
	return append(append(out, a...), b...)
}
