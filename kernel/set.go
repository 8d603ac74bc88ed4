package kernel

import "peculium/api"

// set is a set of numbers of hypotheses.
type set [(api.MaxHyps + 63) / 64]uint64

func (s set) has(n int) bool { return s[n/64]>>(n%64)&1 == 1 }

// and returns what is in both sets.
func (s set) and(t set) set {
	for i := range s {
		s[i] &= t[i]
	}
	return s
}

// or returns what is in one of the sets.
func (s set) or(t set) set {
	for i := range s {
		s[i] |= t[i]
	}
	return s
}

// without returns what is in the first set alone.
func (s set) without(t set) set {
	for i := range s {
		s[i] &^= t[i]
	}
	return s
}

// numbers returns the numbers of a set, increasing.
func (s set) numbers() []int {
	var list []int
	for n := range api.MaxHyps {
		if s.has(n) {
			list = append(list, n)
		}
	}
	return list
}

// number is the number of a hypothesis.
type number int

// alone returns the set of one number.
func (n number) alone() set {
	var s set
	s[n/64] = 1 << (n % 64)
	return s
}

// hypothesis is a hypothesis with its number.
type hypothesis struct {
	number
	api.Given
}

// taken returns what is used when a hypothesis is taken.
func (h hypothesis) taken() set {
	if h.Use == api.UsLast {
		return set{}
	}
	return h.alone()
}
