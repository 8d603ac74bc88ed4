package syntax_test

import (
	"strings"
	"testing"

	"peculium/api"
	"peculium/lex"
	"peculium/syntax"
)

// The chapter's grammar once more, without empty rules, for a recognizer that reads any grammar: ambiguous ones, too.
// x stands for a capital name, n for a small one; a word that is no left side is a token.
const bnf = `
text: item | item text
item: type names . | export names . | const names : typ . | mode ns .
item: pred n . | pred n simples . | fact n . | fact n simples . | lasting n . | lasting n simples .
item: rule n : form . | once n : form . | most n : form . | query n : form . | module n . | use n .
names: n | n , names
ns: n | n ns
simples: simple | simple simples
typ: simple | simple -> typ
simple: n | ( typ )
form: arrow | form o- arrow | form <= arrow
arrow: sum | sum -o arrow | sum => arrow
sum: both | both + sum
both: product | product & both
product: part | part * product
part: ! part | one | top | { form } | ( form ) | n | n arguments
part: all name . form | all name : typ . form | ex name . form | ex name : typ . form
arguments: argument | argument arguments
argument: name | ( term )
term: name | name arguments | \ name . term | \ name : typ . term | ( term )
name: n | x
`

// grammar has the right sides of each word of bnf.
var grammar = readGrammar()

func readGrammar() map[string][][]string {
	rules := map[string][][]string{}
	for _, line := range strings.Split(strings.TrimSpace(bnf), "\n") {
		left, right, _ := strings.Cut(line, ": ")
		for _, alternative := range strings.Split(right, " | ") {
			rules[left] = append(rules[left], strings.Fields(alternative))
		}
	}
	return rules
}

// earley is a rule that has been read up to a dot, since the tokens from a place on.
type earley struct {
	left       string
	rule, dot  int
	from       int
	terminated bool // it is the whole right side
}

// chart has the rules that may be read at each place.
type chart []map[earley]bool

func newChart(start string) chart {
	c := chart{{}}
	c.predict(0, start)
	c.close(0)
	return c
}

func (c chart) predict(at int, word string) (added bool) {
	for i := range grammar[word] {
		e := earley{left: word, rule: i, from: at}
		if !c[at][e] {
			c[at][e], added = true, true
		}
	}
	return added
}

func (e earley) word() string { return grammar[e.left][e.rule][e.dot] }

func (e earley) advanced() earley {
	e.dot++
	e.terminated = e.dot == len(grammar[e.left][e.rule])
	return e
}

// close adds what follows from the rules at a place until there is nothing new.
func (c chart) close(at int) {
	for changed := true; changed; {
		changed = false
		var list []earley
		for e := range c[at] {
			list = append(list, e)
		}
		for _, e := range list {
			if !e.terminated {
				changed = c.predict(at, e.word()) || changed
				continue
			}
			for f := range c[e.from] {
				if !f.terminated && f.word() == e.left && !c[at][f.advanced()] {
					c[at][f.advanced()], changed = true, true
				}
			}
		}
	}
}

// read returns the chart behind one token more, and whether any text goes on so.
func (c chart) read(token string) (chart, bool) {
	next := map[earley]bool{}
	for e := range c[len(c)-1] {
		if !e.terminated && e.word() == token {
			next[e.advanced()] = true
		}
	}
	if len(next) == 0 {
		return nil, false
	}
	longer := append(c[:len(c):len(c)], next)
	longer.close(len(c))
	return longer, true
}

// whole reports whether the tokens read are a whole text.
func (c chart) whole(start string) bool {
	for e := range c[len(c)-1] {
		if e.left == start && e.from == 0 && e.terminated {
			return true
		}
	}
	return len(c) == 1 && start == "text"
}

// parsers are the functions that parse texts, by what they parse.
var parsers = map[string]func(string) (api.Node, int, api.Errno){
	"text": syntax.Parse, "form": syntax.ParseForm, "term": syntax.ParseTerm, "typ": syntax.ParseType,
}

// P2.1, S1: what the grammar allows is parsed; what it does not is refused at the first token that continues nothing.
func TestGrammar(t *testing.T) {
	alphabet := strings.Fields(`n x all ex one top ! { } ( ) . , : -> \ -o => o- <= + & *`)
	items := strings.Fields(`type const pred fact lasting mode rule once most query module use export n x : . , ( ) -> *`)
	for start, most := range map[string]int{"text": 6, "form": 5, "term": 6, "typ": 7} {
		letters := alphabet
		if start == "text" {
			letters = items
		}
		count := 0
		var extend func(c chart, text string)
		extend = func(c chart, text string) {
			count++
			expectEnd(t, start, c, text)
			for _, token := range letters {
				longer, ok := c.read(token)
				if next := text + shown(token) + " "; !ok {
					_, at, err := parsers[start](next + " . ) p")
					if err != api.ErrSyntax || at != len(text) {
						t.Fatalf("%v %q: %v at %v, not ErrSyntax at %v", start, next, err, at, len(text))
					}
				} else if len(c) <= most {
					extend(longer, next)
				}
			}
		}
		extend(newChart(start), "")
		if count < 100 {
			t.Errorf("%v: only %v beginnings", start, count)
		}
	}
}

// shown returns a token for a word of bnf.
func shown(word string) string {
	switch word {
	case "n":
		return "in"
	case "x":
		return "X"
	}
	return word
}

// expectEnd checks what a parser says of a text all of whose tokens can be continued.
func expectEnd(t *testing.T, start string, c chart, text string) {
	n, at, err := parsers[start](text)
	switch {
	case c.whole(start):
		if err != api.OK || at != 0 || syntax.Check(n) != api.OK {
			t.Fatalf("%v %q: %v at %v", start, text, err, at)
		}
	case err != api.ErrSyntax || at != len(text):
		t.Fatalf("%v %q: %v at %v, not ErrSyntax at the end", start, text, err, at)
	}
	if list, _, _ := lex.Scan(text); len(list) != len(c)-1 {
		t.Fatalf("%q has %v tokens", text, len(list))
	}
}
