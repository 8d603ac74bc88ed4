package formula

import (
	"strconv"
	"strings"

	"peculium/api"
)

// Text returns the text of a formula.
func Text(f api.Form) string {
	if Raw(f) != api.OK {
		return ""
	}
	text, _ := attempt(func() string {
		var w writer
		w.form(&f)
		return strings.Join(w.tokens, " ")
	})
	return text
}

// writer gathers the tokens of a text, and panics if it becomes too long.
type writer struct {
	tokens []string
	bytes  int
}

func (w *writer) put(tokens ...string) {
	for _, x := range tokens {
		if len(w.tokens) > 0 {
			w.bytes++
		}
		w.bytes += len(x)
		if w.bytes > api.MaxText {
			panic(failure{api.ErrLong})
		}
		w.tokens = append(w.tokens, x)
	}
}

func (w *writer) form(f *api.Form) {
	signs := [...]string{
		api.FoOne: "one", api.FoTop: "top",
		api.FoTensor: "*", api.FoWith: "&", api.FoPlus: "+", api.FoLolli: "-o", api.FoImp: "=>",
		api.FoBang: "!", api.FoAll: "all", api.FoEx: "ex", api.FoMonad: "{",
	}
	sign := signs[f.Kind]
	switch f.Kind {
	case api.FoAtom:
		w.put(f.Name)
		w.args(f.Args)
	case api.FoOne, api.FoTop:
		w.put(sign)
	case api.FoAll, api.FoEx:
		w.put(sign, ":")
		w.typ(&f.Type)
		w.put(".")
		w.form(&f.L[0])
	case api.FoBang:
		w.put(sign)
		w.form(&f.L[0])
	case api.FoMonad:
		w.put(sign)
		w.form(&f.L[0])
		w.put("}")
	default:
		w.put("(")
		w.form(&f.L[0])
		w.put(sign)
		w.form(&f.L[1])
		w.put(")")
	}
}

func (w *writer) typ(ty *api.Type) {
	if len(ty.Args) == 0 {
		w.put(ty.Name)
		return
	}
	w.put("(")
	w.typ(&ty.Args[0])
	w.put("->")
	w.typ(&ty.Args[1])
	w.put(")")
}

// term writes a term as layer 4 does, however many tokens it has.
func (w *writer) term(t *api.Term) {
	letters := [...]string{api.TmBound: "B", api.TmPar: "P", api.TmVar: "V"}
	switch t.Kind {
	case api.TmLam:
		w.put(`\`, ".")
		w.term(&t.Args[0])
		return
	case api.TmCon:
		w.put(t.Name)
	default:
		w.put(letters[t.Kind] + strconv.Itoa(t.N))
	}
	w.args(t.Args)
}

func (w *writer) args(list []api.Term) {
	for i := range list {
		t := &list[i]
		if t.Kind != api.TmLam && len(t.Args) == 0 {
			w.term(t)
			continue
		}
		w.put("(")
		w.term(t)
		w.put(")")
	}
}
