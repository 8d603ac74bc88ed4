package types

import "peculium/api"

// slot is a type that may be still to be found: it has no name until it is.
type slot struct {
	name string
	args [2]*slot // of an arrow
	same *slot    // the slot that it has become one with
	mark int      // the walk that has met it
	done int      // the walk that has left it
}

// last returns the slot that stands for all those that have become one. It shortens the way to it.
func (s *slot) last() *slot {
	for s.same != nil {
		if s.same.same != nil {
			s.same = s.same.same
		}
		s = s.same
	}
	return s
}

// isArrow reports whether a type is known to be an arrow.
func (s *slot) isArrow() bool { return s.last().name == arrow }

// argument returns the first Arg of an arrow, result the second one.
func (s *slot) argument() *slot { return s.last().args[0] }
func (s *slot) result() *slot   { return s.last().args[1] }

// arrowTo returns the type of functions from one type to another one.
func (s *slot) arrowTo(result *slot) *slot {
	return &slot{name: arrow, args: [2]*slot{s, result}}
}

// slotOf returns the slot of a simple type.
func slotOf(t api.Type) *slot {
	if t.Name == arrow {
		return slotOf(t.Args[0]).arrowTo(slotOf(t.Args[1]))
	}
	return &slot{name: t.Name}
}

// agree makes two types one, and reports whether they agree; but not whether they would have no end.
func agree(a, b *slot) bool {
	a, b = a.last(), b.last()
	switch {
	case a == b:
		return true
	case a.name == "":
		a.same = b
		return true
	case b.name == "":
		b.same = a
		return true
	case a.name != b.name:
		return false
	}
	a.same = b // ahead of what is within: so each two slots are compared once, also if they share parts
	return a.name != arrow || agree(a.args[0], b.args[0]) && agree(a.args[1], b.args[1])
}

// walks counts walks through slots, which mark those that they meet: types may share so many parts that each one has to be met once only.
type walks int

// ends reports whether a type is within itself nowhere.
func (w *walks) ends(s *slot) bool {
	*w++
	return w.acyclic(s)
}

func (w *walks) acyclic(s *slot) bool {
	s = s.last()
	pass := int(*w)
	if s.name != arrow || s.done == pass {
		return true
	}
	if s.mark == pass {
		return false
	}
	s.mark = pass
	ok := w.acyclic(s.args[0]) && w.acyclic(s.args[1])
	s.done = pass
	return ok
}

// determined reports whether nothing of a type is still to be found.
func (w *walks) determined(s *slot) bool {
	*w++
	return w.found(s)
}

func (w *walks) found(s *slot) bool {
	s = s.last()
	pass := int(*w)
	if s.name != arrow || s.mark == pass {
		return s.name != ""
	}
	s.mark = pass
	return w.found(s.args[0]) && w.found(s.args[1])
}

// arity returns how many arguments a type has that is found.
func (s *slot) arity() int {
	count := 0
	for s.isArrow() {
		s = s.result()
		count++
	}
	return count
}

// isVariable reports whether a type that is found is a variable type.
func (s *slot) isVariable() bool {
	if s.arity() > api.MaxArgs {
		return false
	}
	for s.isArrow() {
		if s.argument().isArrow() {
			return false
		}
		s = s.result()
	}
	return true
}
