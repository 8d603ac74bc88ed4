package term_test

import (
	"math/rand"
	"slices"
	"strings"
	"testing"

	"peculium/api"
	"peculium/term"
)

var nat, thing = base("nat"), base("i")

// program has two base types, and constants of the orders 0 to 3.
func program() api.Program {
	return api.Program{
		Types: []string{"nat", "i"},
		Consts: []api.Const{
			{Name: "z", Type: nat}, {Name: "s", Type: fn(nat, nat)}, {Name: "f", Type: fn(nat, nat, nat)}, {Name: "lam", Type: fn(fn(nat, nat), nat)},
			{Name: "c", Type: thing}, {Name: "g", Type: fn(thing, nat, thing)}, {Name: "h", Type: fn(fn(fn(nat, thing), nat), thing)},
		},
	}
}

// someTypes are types of the program of the orders 0 to 3.
func someTypes() []api.Type {
	return []api.Type{nat, thing, fn(nat, nat), fn(nat, thing), fn(thing, nat, nat), fn(fn(nat, nat), nat), fn(fn(nat, nat), thing, thing), fn(fn(fn(nat, thing), nat), nat)}
}

// maker makes values, the same ones each time.
type maker struct{ *rand.Rand }

func newMaker(seed int64) maker { return maker{rand.New(rand.NewSource(seed))} }

func pick[T any](m maker, list []T) T { return list[m.Intn(len(list))] }

func (m maker) types(most int) []api.Type {
	var list []api.Type
	for range m.Intn(most + 1) {
		list = append(list, pick(m, someTypes()))
	}
	return list
}

func (m maker) scope() api.Scope {
	return api.Scope{Vars: m.types(3), Pars: m.types(3), Bound: m.types(3)}
}

// headed is a head with its type.
type headed struct {
	head api.Term
	ty   api.Type
}

// parts are the arguments of a type, and its result.
func parts(ty api.Type) ([]api.Type, string) {
	var list []api.Type
	for ; ty.Name == "->"; ty = ty.Args[1] {
		list = append(list, ty.Args[0])
	}
	return list, ty.Name
}

// typed makes a term that is canonical of a type.
func (m maker) typed(p api.Program, s api.Scope, ty api.Type, levels int) api.Term {
	if ty.Name == "->" {
		s.Bound = slices.Concat(s.Bound, ty.Args[:1])
		return lam(m.typed(p, s, ty.Args[1], levels))
	}
	var heads []headed
	for _, c := range p.Consts {
		heads = append(heads, headed{con(c.Name), c.Type})
	}
	for i, x := range s.Vars {
		heads = append(heads, headed{variable(i), x})
	}
	for i, x := range s.Pars {
		heads = append(heads, headed{par(i), x})
	}
	for i, x := range s.Bound {
		x := headed{bound(len(s.Bound) - 1 - i), x}
		heads = append(heads, x, x)
	}
	heads = slices.DeleteFunc(heads, func(x headed) bool {
		args, res := parts(x.ty)
		return res != ty.Name || levels <= 0 && len(args) > 0
	})
	x := pick(m, heads)
	args, _ := parts(x.ty)
	for _, a := range args {
		x.head.Args = append(x.head.Args, m.typed(p, s, a, levels-1))
	}
	return x.head
}

// raw makes a raw term without regard to types, in which many bound variables have Args.
func (m maker) raw(levels, binders int) api.Term {
	kind := 1 + m.Intn(7)
	var t api.Term
	switch {
	case kind == api.TmCon:
		t = con(pick(m, []string{"z", "s", "f", "x@m"}))
	case kind == api.TmPar:
		t = par(m.Intn(3))
	case kind == api.TmVar:
		t = variable(m.Intn(3))
	case kind == api.TmLam && levels > 0:
		return lam(m.raw(levels-1, binders+1))
	default:
		t = bound(m.Intn(binders + 2))
	}
	if m.Intn(60) == 0 && t.Kind != api.TmCon {
		t.N = 100000 - m.Intn(3)
	}
	if levels > 0 {
		for range pick(m, []int{0, 0, 1, 1, 2, 3}) {
			t.Args = append(t.Args, m.raw(levels-1, binders))
		}
	}
	return t
}

// lambda makes a raw lambda that is likely to be applied with some effect.
func (m maker) lambda(levels int) api.Term {
	known := []string{`\ . B0`, `\ . z`, `\ . B0 B0`, `\ . f B0 B0`, `\ . B0 ( \ . f B1 B1 )`, `\ . \ . B1 B0`, `\ . \ . B1 ( B1 B0 )`, `\ . \ . B0 B1`, `\ . B0 ( f B0 B0 ) B0`, `\ . B1 ( \ . B1 B2 )`, `\ . \ . \ . B2 B0 ( B1 B0 )`, `\ . B0 ( \ . B0 B1 B1 )`}
	if m.Intn(2) == 0 {
		t, _, _ := term.Read(pick(m, known))
		return t
	}
	return lam(m.raw(levels, 1))
}

// tower makes a term in which a bound variable and a variable have Args one within the other, and a lambda, with which it becomes as many times larger or deeper.
func (m maker) tower() (api.Term, api.Term) {
	t := m.raw(1, 1)
	for range m.Intn(30) {
		t = con("f", pick(m, []api.Term{bound(0, t), variable(0, t)}))
	}
	s := bound(0)
	for range m.Intn(8) {
		s = con("f", slices.Repeat([]api.Term{s}, 1+m.Intn(15)/14)...)
	}
	return t, lam(s)
}

// anything makes a term, which may be no raw one.
func (m maker) anything(levels int) api.Term {
	t := m.raw(levels, 0)
	for range m.Intn(3) {
		x := &t
		for len(x.Args) > 0 && m.Intn(3) > 0 {
			x = &x.Args[m.Intn(len(x.Args))]
		}
		m.damage(x)
	}
	return t
}

// damage changes something of a term.
func (m maker) damage(t *api.Term) {
	switch m.Intn(6) {
	case 0:
		t.Kind = pick(m, []int{-1, 0, 1, 2, 3, 4, 5, 6, 1 << 40})
	case 1:
		t.N = pick(m, []int{-1, 0, 1, 100000, 100001, -1 << 60, 1 << 60})
	case 2:
		t.Name = pick(m, []string{"", "z", "X", "all", "x y", "a@b", "a@b@c", strings.Repeat("a", 40), strings.Repeat("a", 41), "\xff"})
	case 3:
		t.Args = append(t.Args, m.raw(1, 0))
	case 4:
		t.Args = nil
	case 5:
		for len(t.Args) < 8+m.Intn(2) {
			t.Args = append(t.Args, con("z"))
		}
	}
}

// read reads a text, which has to be that of a term.
func read(t *testing.T, text string) api.Term {
	t.Helper()
	x, at, err := term.Read(text)
	if err != api.OK {
		t.Fatalf("Read(%.60s) = %v, %v", text, at, err)
	}
	return x
}
