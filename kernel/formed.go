package kernel

import "peculium/api"

// Formed returns OK if a proof is formed.
func Formed(pf api.Proof) api.Errno {
	if err := sizeError(&pf); err != api.OK {
		return err
	}
	if !isFormed(&pf) {
		return api.ErrRefused
	}
	return api.OK
}

// isFormed reports whether a proof that is not too large is formed.
func isFormed(pf *api.Proof) bool {
	if !hasItsFields(pf) {
		return false
	}
	for k := range pf.Spine {
		if !isTurn(&pf.Spine[k]) {
			return false
		}
	}
	for x := range proofsOf(pf) {
		if !isFormed(x) {
			return false
		}
	}
	return true
}

// hasItsFields reports whether a proof has what its kind names, and nothing else.
func hasItsFields(pf *api.Proof) bool {
	parts := 1
	switch pf.Kind {
	case api.PfAtom, api.PfOne, api.PfTop:
		parts = 0
	case api.PfTensor, api.PfWith:
		parts = 2
	}
	return pf.Kind >= api.PfAtom && pf.Kind <= api.PfMonad && len(pf.L) == parts &&
		(pf.Kind == api.PfAtom || pf.N == 0 && len(pf.Spine) == 0) &&
		(pf.Kind == api.PfTop || len(pf.Uses) == 0) &&
		(pf.Kind == api.PfEx || isNoTerm(&pf.Term)) &&
		(pf.Kind == api.PfMonad || len(pf.Moves) == 0)
}

// isTurn reports whether a turn has what its kind names, and nothing else.
func isTurn(t *api.Turn) bool {
	switch t.Kind {
	case api.TuLeft, api.TuRight:
		return isNoTerm(&t.Term) && len(t.L) == 0
	case api.TuAll:
		return len(t.L) == 0
	case api.TuLolli, api.TuImp:
		return isNoTerm(&t.Term) && len(t.L) == 1
	}
	return false
}

func isNoTerm(t *api.Term) bool {
	return t.Kind == 0 && t.N == 0 && t.Name == "" && len(t.Args) == 0
}
