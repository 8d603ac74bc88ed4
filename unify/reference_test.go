package unify_test

import (
	"fmt"
	"slices"
	"strconv"
	"strings"

	"peculium/api"
)

// This file does what the chapter says another way: values are texts in which each variable has a name, stores are judged word by word, and solutions are enumerated.

// tooLarge is what a text panics with that becomes too long.
type tooLarge struct{}

// namer writes values: a variable of a lambda has the name x with the number of lambdas around it.
type namer struct {
	s    api.Store
	free func(v int, args []string) string
	left int
}

// text writes the value of a term, names being those of the bound variables around it, the innermost one last.
func (w *namer) text(t api.Term, names []string, lambdas int) string {
	if w.left--; w.left < 0 {
		panic(tooLarge{})
	}
	if t.Kind == api.TmLam {
		x := "x" + strconv.Itoa(lambdas)
		return `\` + x + "." + w.text(t.Args[0], append(slices.Clip(names), x), lambdas+1)
	}
	var args []string
	if t.Kind == api.TmVar {
		for _, x := range t.Args {
			args = append(args, headName(x, names))
		}
		if v := w.s.Vals[t.N]; v.Is {
			body := v.T
			for range args {
				body = body.Args[0]
			}
			return w.text(body, args, lambdas)
		}
		return w.free(t.N, args)
	}
	for _, x := range t.Args {
		args = append(args, w.text(x, names, lambdas))
	}
	return headName(t, names) + list(args)
}

func headName(t api.Term, names []string) string {
	switch t.Kind {
	case api.TmBound:
		return names[len(names)-1-t.N]
	case api.TmPar:
		return "p" + strconv.Itoa(t.N)
	}
	return "'" + t.Name
}

func list(args []string) string {
	if len(args) == 0 {
		return ""
	}
	return "(" + strings.Join(args, ",") + ")"
}

// valueOf is the value of a term as a text.
func valueOf(s api.Store, t api.Term) string {
	w := namer{s: s, left: 1000000}
	w.free = func(v int, args []string) string { return "V" + strconv.Itoa(v) + list(args) }
	return w.text(t, nil, 0)
}

// leastOf are values in which variables are replaced by numbers, and their arguments are sorted: later bound variables ahead of earlier ones, and these ahead of parameters.
func leastOf(s api.Store, terms []api.Term) []string {
	orders := map[int][]int{}
	numbers := map[int]int{}
	w := namer{s: s, left: 1000000}
	w.free = func(v int, args []string) string {
		if _, ok := orders[v]; !ok {
			order := []int{}
			for i := range args {
				order = append(order, i)
			}
			slices.SortFunc(order, func(i, j int) int { return rank(args[i]) - rank(args[j]) })
			orders[v], numbers[v] = order, len(numbers)
		}
		var sorted []string
		for _, i := range orders[v] {
			sorted = append(sorted, args[i])
		}
		return "?" + strconv.Itoa(numbers[v]) + list(sorted)
	}
	var out []string
	for _, t := range terms {
		out = append(out, w.text(t, nil, 0))
	}
	return out
}

func rank(name string) int {
	n, _ := strconv.Atoi(name[1:])
	if name[0] == 'x' {
		return -n
	}
	return 1 + n
}

// solvesIt and extendsIt are Solves and Extends, read by words.
func solvesIt(s api.Store, a, b api.Term) bool { return valueOf(s, a) == valueOf(s, b) }

func extendsIt(s, t api.Store) bool {
	if len(t.Vals) < len(s.Vals) {
		return false
	}
	for v, x := range s.Vals {
		y := t.Vals[v]
		if fmt.Sprint(x.Type) != fmt.Sprint(y.Type) || y.Level > x.Level {
			return false
		}
	}
	for v, x := range s.Vals {
		if x.Is && valueOf(t, eta(t, v)) != valueOf(t, x.T) {
			return false
		}
	}
	return true
}

// inverse is what a value has to be that is a term when it is applied to args; false, if there is none for a variable of this Level.
func inverse(t api.Term, args []api.Term, level int) (api.Term, bool) {
	ok := true
	var build func(t api.Term, below int) api.Term
	build = func(t api.Term, below int) api.Term {
		at := slices.IndexFunc(args, func(x api.Term) bool {
			return x.Kind == t.Kind && (x.Kind == api.TmPar && x.N == t.N || x.Kind == api.TmBound && x.N+below == t.N)
		})
		local := t.Kind == api.TmBound && t.N < below
		switch {
		case at >= 0 && !local:
			t.Kind, t.N = api.TmBound, len(args)-1-at+below
		case t.Kind == api.TmBound && !local, t.Kind == api.TmPar && t.N >= level:
			ok = false
		}
		if t.Kind == api.TmLam {
			below++
		}
		var list []api.Term
		for _, x := range t.Args {
			list = append(list, build(x, below))
		}
		t.Args = list
		return t
	}
	body := build(t, 0)
	return lams(len(args), body), ok
}

// partsOf are the parts of a term by levels, as far as there are no more than 4000.
func partsOf(t api.Term) (parts, levels int) {
	for level := []api.Term{t}; len(level) > 0 && parts <= 4000; levels++ {
		parts += len(level)
		var next []api.Term
		for _, x := range level {
			next = append(next, x.Args[:min(len(x.Args), 4001)]...)
			if len(next) > 4000 {
				break
			}
		}
		level = next
	}
	return parts, levels
}

// fault is what is wrong with a term at a place, or nothing.
func fault(s api.Store, t api.Term, n, top int) string {
	switch {
	case t.Kind < 1 || t.Kind > 5:
		return "no kind"
	case (t.Kind == 1) != (t.Name != "") || len(t.Name) > 40:
		return "a wrong name"
	case (t.Kind == 1 || t.Kind == 5) && t.N != 0 || t.N < 0:
		return "a wrong number"
	case t.Kind == 2 && t.N >= n || t.Kind == 3 && t.N >= top || t.Kind == 4 && t.N >= len(s.Vals):
		return "a number too high"
	case len(t.Args) > 8 || t.Kind == 5 && len(t.Args) != 1:
		return "a wrong number of Args"
	}
	if t.Kind == 4 {
		v := s.Vals[t.N]
		met := map[string]bool{}
		for _, x := range t.Args {
			met[fmt.Sprint(x.Kind, x.N)] = true
			if x.Kind != 2 && x.Kind != 3 || len(x.Args) > 0 || x.Kind == 3 && x.N < v.Level {
				return "a wrong Arg"
			}
		}
		if len(t.Args) != arity(v.Type) || len(met) != len(t.Args) || v.Level > top {
			return "a variable with wrong Args, or a high Level"
		}
	}
	if t.Kind == 5 {
		n++
	}
	for _, x := range t.Args {
		if why := fault(s, x, n, top); why != "" {
			return why
		}
	}
	return ""
}

// errorOf is the error of a store, read by words, if its types have names, and arguments that are base types.
func errorOf(s api.Store) api.Errno {
	sum := 0
	for _, v := range s.Vals {
		if v.Is {
			n, _ := partsOf(v.T)
			sum += n
		}
	}
	if len(s.Vals) > 2000 || sum > 4000 {
		return api.ErrLong
	}
	for v, x := range s.Vals {
		if !x.Is {
			if fmt.Sprint(x.T) != fmt.Sprint(api.Term{}) || x.Level < 0 || x.Level > 60 {
				return api.ErrStore
			}
			continue
		}
		n := arity(x.Type)
		body, ok := x.T, x.Level >= 0 && x.Level <= 60 && n <= 8
		for k := 0; k < n && ok; k++ {
			ok = body.Kind == 5 && len(body.Args) == 1 && body.N == 0 && body.Name == ""
			if ok {
				body = body.Args[0]
			}
		}
		if _, levels := partsOf(body); !ok || body.Kind == 5 || levels > 100 || fault(s, body, n, x.Level) != "" || reaches(s, v, v, len(s.Vals)) {
			return api.ErrStore
		}
	}
	return api.OK
}

// reaches reports whether the variable w stands in the value of v, by way of so many values.
func reaches(s api.Store, v, w, ways int) bool {
	if ways == 0 || v >= len(s.Vals) || !s.Vals[v].Is {
		return false
	}
	var stands func(t api.Term) bool
	stands = func(t api.Term) bool {
		return t.Kind == 4 && (t.N == w || t.N != v && reaches(s, t.N, w, ways-1)) || slices.ContainsFunc(t.Args, stands)
	}
	return stands(s.Vals[v].T)
}

// isIdle reports whether a store with a solution has an argument of a variable without a value that stands nowhere as a variable of the outermost lambdas of a value of the first n variables.
func isIdle(s api.Store, n int) bool {
	used := map[string]bool{}
	for v := range n {
		k := arity(s.Vals[v].Type)
		w := namer{s: s, left: 1000000}
		w.free = func(v int, args []string) string {
			for i, x := range args {
				if at, _ := strconv.Atoi(x[1:]); x[0] == 'x' && at < k {
					used[fmt.Sprint(v, i)] = true
				}
			}
			return ""
		}
		w.text(eta(s, v), nil, 0)
	}
	for v, x := range s.Vals {
		for i := range arity(x.Type) {
			if !x.Is && !used[fmt.Sprint(v, i)] {
				return true
			}
		}
	}
	return false
}

// smallValues are the values with few parts that a variable can have in a store, further variables among them.
func smallValues(s api.Store, v int) []api.Term {
	x := s.Vals[v]
	n := arity(x.Type)
	var heads []api.Term
	for k := range n {
		heads = append(heads, api.Term{Kind: api.TmBound, N: k})
	}
	for k := range x.Level {
		heads = append(heads, api.Term{Kind: api.TmPar, N: k})
	}
	heads = append(heads, con("c"))
	for w, y := range s.Vals {
		if k := arity(y.Type); w != v && !y.Is && y.Level <= x.Level {
			for _, args := range choices(heads, y.Level, k) {
				heads = append(heads, api.Term{Kind: api.TmVar, N: w, Args: args})
			}
		}
	}
	out := slices.Clone(heads)
	for _, y := range heads {
		out = append(out, con("f", y))
		out = append(out, con("li", lams(1, raised(y))))
		if len(heads) < 8 {
			for _, z := range heads {
				out = append(out, con("g", y, z))
			}
		}
	}
	for i, y := range out {
		out[i] = lams(n, y)
	}
	return out
}

// choices are the lists of k different simple variables among heads, for a variable of a Level.
func choices(heads []api.Term, level, k int) [][]api.Term {
	if k == 0 {
		return [][]api.Term{nil}
	}
	var out [][]api.Term
	for i, x := range heads {
		if x.Kind != api.TmBound && x.Kind != api.TmPar || x.Kind == api.TmPar && x.N < level {
			continue
		}
		rest := slices.Delete(slices.Clone(heads), i, i+1)
		for _, more := range choices(rest, level, k-1) {
			out = append(out, append([]api.Term{x}, more...))
		}
	}
	return out
}

// raised is a term without lambdas below one more lambda.
func raised(t api.Term) api.Term {
	if t.Kind == api.TmBound {
		t.N++
	}
	t.Args = slices.Clone(t.Args)
	for i, x := range t.Args {
		t.Args[i] = raised(x)
	}
	return t
}

// smallSolutions yields the valid stores that come of a store by giving small values to variables, and solve two terms, as far as there are no more than most tries.
func smallSolutions(s api.Store, a, b api.Term, most int) func(yield func(api.Store) bool) {
	return func(yield func(api.Store) bool) {
		var try func(s api.Store, v int) bool
		try = func(now api.Store, v int) bool {
			if v == len(s.Vals) {
				most--
				if errorOf(now) == api.OK && solvesIt(now, a, b) && !yield(now) {
					return false
				}
				return most > 0
			}
			if !try(now, v+1) {
				return false
			}
			if s.Vals[v].Is {
				return true
			}
			for _, t := range smallValues(s, v) {
				next := store(slices.Clone(now.Vals)...)
				next.Vals[v].Is, next.Vals[v].T = true, t
				if !try(next, v+1) {
					return false
				}
			}
			return true
		}
		try(s, 0)
	}
}

// isInstance is Instance, read by words: what stands for a parameter is a text in which its arguments are numbers.
func isInstance(pars int, l, m []api.Term) bool {
	found := map[int]string{}
	var match func(a, b api.Term, names []string) bool
	match = func(a, b api.Term, names []string) bool {
		if a.Kind == api.TmPar && a.N >= pars {
			inner := map[string]string{}
			for i, x := range a.Args {
				inner[headName(x, names)] = "#" + strconv.Itoa(i)
			}
			text, ok := replaced(b, names, inner)
			known, is := found[a.N]
			found[a.N] = text
			return ok && b.Kind != api.TmLam && (!is || known == text)
		}
		if headOf(a, names) != headOf(b, names) || len(a.Args) != len(b.Args) {
			return false
		}
		if a.Kind == api.TmLam {
			names = append(slices.Clip(names), "x"+strconv.Itoa(len(names)))
		}
		for i, x := range a.Args {
			if !match(x, b.Args[i], names) {
				return false
			}
		}
		return true
	}
	for i, t := range l {
		if !match(t, m[i], nil) {
			return false
		}
	}
	return true
}

func headOf(t api.Term, names []string) string {
	if t.Kind == api.TmLam {
		return `\`
	}
	return headName(t, names)
}

// replaced writes a term with other names for some simple variables; false, if another one of the names around it stands in it. Its own variables are y0, y1, ...
func replaced(t api.Term, names []string, inner map[string]string) (string, bool) {
	ok := true
	var write func(t api.Term, names []string, lambdas int) string
	write = func(t api.Term, names []string, lambdas int) string {
		if t.Kind == api.TmLam {
			y := "y" + strconv.Itoa(lambdas)
			return `\` + y + "." + write(t.Args[0], append(slices.Clip(names), y), lambdas+1)
		}
		name := headName(t, names)
		if x, is := inner[name]; is {
			name = x
		}
		ok = ok && name[0] != 'x'
		var args []string
		for _, x := range t.Args {
			args = append(args, write(x, names, lambdas))
		}
		return name + list(args)
	}
	text := write(t, names, 0)
	return text, ok
}
