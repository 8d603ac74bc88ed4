package kernel

import "peculium/api"

// each yields the elements of a list.
func each[T any](list []T) func(yield func(x *T) bool) {
	return func(yield func(x *T) bool) {
		for i := range list {
			if !yield(&list[i]) {
				return
			}
		}
	}
}

// inside yields what stands directly within a value.
type inside[T any] func(x *T) func(yield func(y *T) bool)

func argsOf(t *api.Term) func(yield func(x *api.Term) bool) { return each(t.Args) }

func partsOf(ty *api.Type) func(yield func(x *api.Type) bool) { return each(ty.Args) }

// proofsOf yields the proofs directly within a proof: those of its Turns, then those of L.
func proofsOf(pf *api.Proof) func(yield func(x *api.Proof) bool) {
	return func(yield func(x *api.Proof) bool) {
		for k := range pf.Spine {
			for x := range each(pf.Spine[k].L) {
				if !yield(x) {
					return
				}
			}
		}
		each(pf.L)(yield)
	}
}

// termsOf yields the Terms of a proof, without those of the proofs within it.
func termsOf(pf *api.Proof) func(yield func(t *api.Term) bool) {
	return func(yield func(t *api.Term) bool) {
		if !yield(&pf.Term) {
			return
		}
		for k := range pf.Spine {
			if !yield(&pf.Spine[k].Term) {
				return
			}
		}
		for i := range pf.Moves {
			for t := range each(pf.Moves[i].Terms) {
				if !yield(t) {
					return
				}
			}
		}
	}
}

// full is what counting ends with when there is too much.
type full struct{}

// counted returns how often something ticks, no more than most + 1. It stops there: so it also ends for what has no end.
func counted(most int, count func(tick func())) (n int) {
	defer func() {
		if recover() != nil {
			n = most + 1
		}
	}()
	count(func() {
		n++
		if n > most {
			panic(full{})
		}
	})
	return n
}

// tree ticks for each node of a value, on so many levels.
func tree[T any](tick func(), x *T, levels int, below inside[T]) {
	tick()
	if levels > 1 {
		for y := range below(x) {
			tree(tick, y, levels-1, below)
		}
	}
}

// levelsOf returns how many levels a value has, no more than most + 1. It goes once through what many parts share: there may be more parts than can be gone through.
func levelsOf[T any](x *T, most int, below inside[T]) int {
	known := map[*T]int{}
	tooMany := false
	var levels func(x *T, above int) int
	levels = func(x *T, above int) int {
		n, ok := known[x]
		if tooMany || above+max(n, 1) > most {
			tooMany = true
			return 0
		}
		if ok {
			return n
		}
		for y := range below(x) {
			n = max(n, levels(y, above+1))
			if tooMany {
				return 0
			}
		}
		if n > 0 {
			known[x] = n + 1
		}
		return n + 1
	}
	n := levels(x, 0)
	if tooMany {
		return most + 1
	}
	return n
}

// Size returns the number of nodes of a proof.
func Size(pf api.Proof) int {
	return counted(api.MaxProof, func(tick func()) {
		var count func(x *api.Proof)
		count = func(x *api.Proof) {
			tick()
			for range len(x.Spine) + len(x.Moves) {
				tick()
			}
			for t := range termsOf(x) {
				if t.Kind != 0 || t.Name != "" || len(t.Args) > 0 {
					tree(tick, t, api.MaxProof+1, argsOf)
				}
			}
			for y := range proofsOf(x) {
				count(y)
			}
		}
		count(&pf)
	})
}

// Levels returns the number of levels of a proof.
func Levels(pf api.Proof) int { return levelsOf(&pf, api.MaxLevels, proofsOf) }

// Depth returns the depth of a proof.
func Depth(pf api.Proof) int {
	if Size(pf) > api.MaxProof || Levels(pf) > api.MaxLevels {
		return 0
	}
	return depth(&pf)
}

// depth is Depth of a proof that is not too large.
func depth(pf *api.Proof) int {
	own, list := 0, each(pf.L)
	switch pf.Kind {
	case api.PfAtom:
		own, list = 1, proofsOf(&api.Proof{Spine: pf.Spine})
	case api.PfMonad:
		own, list = len(pf.Moves), each(pf.L[:min(1, len(pf.L))])
	}
	n := 0
	for x := range list {
		n = max(n, depth(x))
	}
	return own + n
}

// sizeError returns ErrLong or ErrDeep for a proof that is too large.
func sizeError(pf *api.Proof) api.Errno {
	switch {
	case Size(*pf) > api.MaxProof:
		return api.ErrLong
	case Levels(*pf) > api.MaxLevels || hasDeepTerm(pf):
		return api.ErrDeep
	}
	return api.OK
}

// hasDeepTerm reports whether a proof that is not too large has a Term that is.
func hasDeepTerm(pf *api.Proof) bool {
	for t := range termsOf(pf) {
		if levelsOf(t, api.MaxDeep, argsOf) > api.MaxDeep {
			return true
		}
	}
	for x := range proofsOf(pf) {
		if hasDeepTerm(x) {
			return true
		}
	}
	return false
}
