package unify

import (
	"strconv"

	"peculium/api"
)

// maxWork is how many parts of terms a call of Unify may look at. It is far more than is needed where ErrLong would not be right: 1000 pairs of parts, with all values of a store for each.
const maxWork = 20_000_000

// solver has the variables of a store, and new ones behind them, while an equation is solved. Of new variables there is no limit to how many there are, nor to their arguments: most of them get values, and are no part of the solution.
type solver struct {
	api.Store
	bodies map[int]api.Term // of variables that got a value, what is within its lambdas: in the place of that in the store
	met    map[string]bool  // pairs of terms that have been made equal
	work   int              // parts that have been looked at
}

func (u *solver) spend(n int) {
	u.work += n
	if u.work > maxWork {
		panic(failure{api.ErrLong})
	}
}

// body returns what is within the lambdas of a variable's value, if it has one.
func (u *solver) body(v int) (api.Term, bool) {
	if t, ok := u.bodies[v]; ok {
		return t, true
	}
	return bodyOf(u.Vals[v].T), u.Vals[v].Is
}

// isOpen reports whether a term is a variable without a value.
func (u *solver) isOpen(t api.Term) bool {
	if t.Kind != api.TmVar {
		return false
	}
	_, ok := u.body(t.N)
	return !ok
}

// fill returns the body of a value with args for the variables of its lambdas.
func (u *solver) fill(body api.Term, args []api.Term) api.Term {
	u.spend(1)
	if len(args) == 0 {
		return body
	}
	change := filled(args)
	return rebuild(body, func(t api.Term, below int) api.Term {
		u.spend(1)
		return change(t, below)
	})
}

// resolve returns a term in which variables are replaced by their values for as long as these have a variable as head, too.
func (u *solver) resolve(t api.Term) api.Term {
	for t.Kind == api.TmVar {
		body, ok := u.body(t.N)
		if !ok || body.Kind != api.TmVar {
			break
		}
		t = u.fill(body, t.Args)
	}
	return t
}

// unfold returns a term in which a variable with a value is replaced by it.
func (u *solver) unfold(t api.Term) api.Term {
	if t.Kind == api.TmVar {
		body, _ := u.body(t.N)
		t = u.fill(body, t.Args)
	}
	return t
}

// unify makes two terms equal, which stand below the same lambdas.
func (u *solver) unify(a, b api.Term) {
	u.spend(1)
	a, b = u.resolve(a), u.resolve(b)
	switch openA, openB := u.isOpen(a), u.isOpen(b); {
	case openA && openB && a.N == b.N:
		u.meet(a, b)
	case openA && openB:
		u.link(a, b)
	case openA:
		u.bind(a, b)
	case openB:
		u.bind(b, a)
	default:
		u.descend(a, b)
	}
}

// descend makes two terms equal that are no variables without values.
func (u *solver) descend(a, b api.Term) {
	// Values may stand within values so often that each pair has to be looked at once only.
	if (a.Kind == api.TmVar || b.Kind == api.TmVar) && u.meets(a, b) {
		return
	}
	a, b = u.unfold(a), u.unfold(b)
	if !sameHead(a, b) || len(a.Args) != len(b.Args) {
		panic(failure{})
	}
	for i, x := range a.Args {
		u.unify(x, b.Args[i])
	}
}

// meets reports whether two terms are the same, or have been met before.
func (u *solver) meets(a, b api.Term) bool {
	if same(a, b) {
		return true
	}
	key := string(u.key(u.key(nil, a), b))
	if u.met[key] {
		return true
	}
	u.met[key] = true
	return false
}

// key adds a term to bytes that tell it apart from all others.
func (u *solver) key(to []byte, t api.Term) []byte {
	u.spend(1)
	for _, n := range [...]int{t.Kind, t.N, len(t.Args), len(t.Name)} {
		to = append(strconv.AppendInt(to, int64(n), 10), ' ')
	}
	to = append(to, t.Name...)
	for _, x := range t.Args {
		to = u.key(to, x)
	}
	return to
}

// meet makes a variable equal at two places: it can only have those arguments in its value that are the same at both.
func (u *solver) meet(a, b api.Term) {
	v := u.Vals[a.N]
	names, result := split(v.Type)
	var kept arguments
	for i, x := range a.Args {
		if sameHead(x, b.Args[i]) {
			kept.add(argument(len(names), i), names[i])
		}
	}
	if len(kept.args) < len(names) {
		w := u.add(scope{kept, v.Level}, result)
		u.bodies[a.N] = api.Term{Kind: api.TmVar, N: w, Args: kept.args}
	}
}

// add adds a variable for what may stand in a scope, and returns its number.
func (u *solver) add(s scope, result string) int {
	u.Vals = append(u.Vals, api.Val{Level: s.level, Type: joined(s.types, result)})
	return len(u.Vals) - 1
}

// link makes two variables equal. If one of them can be the value of the other one as it is, no new variable is needed; if both can, the later one gets the value.
func (u *solver) link(a, b api.Term) {
	if a.N < b.N {
		a, b = b, a
	}
	if !u.sees(u.scopeOf(a), b, 0) && u.sees(u.scopeOf(b), a, 0) {
		a, b = b, a
	}
	u.bind(a, b)
}

// bind gives a variable the value with which it is equal to another term.
func (u *solver) bind(x, t api.Term) {
	if t.Kind == api.TmLam || u.occurs(x.N, t) {
		panic(failure{})
	}
	body := u.inward(t, u.scopeOf(x))
	u.bodies[x.N] = body
}

// occurs reports whether a variable stands in a term, also by way of values.
func (u *solver) occurs(v int, t api.Term) bool {
	met := map[int]bool{}
	var look func(t api.Term) bool
	look = func(t api.Term) bool {
		for x := range parts(t) {
			u.spend(1)
			if x.Kind != api.TmVar || met[x.N] {
				continue
			}
			met[x.N] = true
			if x.N == v {
				return true
			}
			if body, ok := u.body(x.N); ok && look(body) {
				return true
			}
		}
		return false
	}
	return look(t)
}

// scopeOf returns what the value of a variable that is applied to Args may have in it.
func (u *solver) scopeOf(x api.Term) scope {
	names, _ := split(u.Vals[x.N].Type)
	return scope{arguments{x.Args, names}, u.Vals[x.N].Level}
}

// sees reports whether a variable, with its Args, may stand in a scope.
func (u *solver) sees(s scope, t api.Term, below int) bool {
	if u.Vals[t.N].Level > s.level {
		return false
	}
	for _, x := range t.Args {
		if _, ok := s.head(x, below); !ok {
			return false
		}
	}
	return true
}

// inward returns a term as it is in a scope. The variables in it are narrowed to what they may have in them there.
func (u *solver) inward(t api.Term, s scope) api.Term {
	return rebuild(t, func(t api.Term, below int) api.Term {
		u.spend(1)
		t = u.resolve(t)
		if t.Kind == api.TmVar && !u.sees(s, t, below) {
			u.narrow(t, below, s)
			t = u.resolve(t)
		}
		return s.inward(t, below)
	})
}

// narrow makes a variable, with its Args at a place, have nothing in it that may not stand in a scope. It becomes another variable with those of its arguments that may; and those parameters among the scope's arguments that it could have had in it become arguments, too.
func (u *solver) narrow(t api.Term, below int, s scope) {
	v := u.Vals[t.N]
	names, result := split(v.Type)
	inner := scope{level: min(v.Level, s.level)}
	for i, x := range t.Args {
		if _, ok := s.head(x, below); ok {
			inner.add(argument(len(names), i), names[i])
		}
	}
	dropped := len(inner.args) < len(names)
	for i, x := range s.args {
		if x.Kind == api.TmPar && x.N < v.Level {
			inner.add(x, s.types[i])
		}
	}
	body, ok := u.body(t.N)
	if !ok && !dropped && len(inner.args) == len(names) {
		u.Vals[t.N].Level = inner.level
		return
	}
	w := u.add(inner, result)
	if ok {
		body = u.inward(body, inner)
		u.bodies[w] = body
	}
	u.bodies[t.N] = api.Term{Kind: api.TmVar, N: w, Args: inner.args}
}
