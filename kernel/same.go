package kernel

import "peculium/api"

// Same reports whether two proofs are equal.
func Same(a, b api.Proof) bool {
	return Size(a) <= api.MaxProof && Size(b) <= api.MaxProof && isSameProof(&a, &b)
}

func isSameProof(a, b *api.Proof) bool {
	return a.Kind == b.Kind && a.N == b.N && areEqual(a.Uses, b.Uses, isSameNumber) && isSameTerm(&a.Term, &b.Term) &&
		areEqual(a.Spine, b.Spine, isSameTurn) && areEqual(a.Moves, b.Moves, isSameMove) && areEqual(a.L, b.L, isSameProof)
}

func isSameTurn(a, b *api.Turn) bool {
	return a.Kind == b.Kind && isSameTerm(&a.Term, &b.Term) && areEqual(a.L, b.L, isSameProof)
}

func isSameMove(a, b *api.Move) bool {
	return a.N == b.N && areEqual(a.Terms, b.Terms, isSameTerm) && areEqual(a.Uses, b.Uses, isSameNumber)
}

func isSameTerm(a, b *api.Term) bool {
	return a.Kind == b.Kind && a.N == b.N && a.Name == b.Name && areEqual(a.Args, b.Args, isSameTerm)
}

func isSameNumber(a, b *int) bool { return *a == *b }

// areEqual reports whether two lists have the same number of elements, which are equal.
func areEqual[T any](a, b []T, is func(x, y *T) bool) bool {
	if len(a) != len(b) {
		return false
	}
	for i := range a {
		if !is(&a[i], &b[i]) {
			return false
		}
	}
	return true
}
