package module_test

import (
	"fmt"
	"strings"
	"testing"

	"peculium/api"
	"peculium/module"
)

// net makes modules without items: "a:bc" is one with the name a that uses b and c.
func net(words string) []api.Module {
	var l []api.Module
	for _, word := range strings.Fields(words) {
		name, uses, _ := strings.Cut(word, ":")
		m := api.Module{Name: name}
		for _, use := range uses {
			m.Uses = append(m.Uses, string(use))
		}
		l = append(l, m)
	}
	return l
}

// Order visits what a module uses ahead of it, in order; Needs tells the same names by bytes.
func TestOrderAndNeeds(t *testing.T) {
	for _, w := range []struct {
		net, root, order, needs string
		err                     api.Errno
	}{
		{"a", "a", "a", "", api.OK},
		{"a:b b", "a", "b a", "b", api.OK},
		{"b a:b", "b", "b", "", api.OK},
		{"a:cb b c", "a", "c b a", "b c", api.OK},
		{"a:bc b:d c:d d", "a", "d b c a", "b c d", api.OK},
		{"a:cb b:d c:d d", "a", "d c b a", "b c d", api.OK},
		{"a:bd b:c c:d d", "a", "d c b a", "b c d", api.OK},
		{"d c:d b:c a:dcb", "a", "d c b a", "b c d", api.OK},
		{"a b:a c:b x:x2", "c", "", "", api.ErrModule},
		{"a b:a c:z z:c y:q", "b", "a b", "a", api.OK},
		{"", "a", "", "", api.ErrMissing},
		{"a", "", "", "", api.ErrMissing},
		{"a", "A b", "", "", api.ErrMissing},
		{"a:b", "a", "", "", api.ErrMissing},
		{"a:b", "b", "", "", api.ErrMissing},
		{"a:b b:c", "a", "", "", api.ErrMissing},
		{"a:bz b", "a", "", "", api.ErrMissing},
		{"a:b b:a", "a", "", "", api.ErrCycle},
		{"a:b b:a", "b", "", "", api.ErrCycle},
		{"a:b b:c c:a", "b", "", "", api.ErrCycle},
		{"a:b b:c c:d d:b", "a", "", "", api.ErrCycle},
		{"a:cb b:a c", "a", "", "", api.ErrCycle},
		{"a:bz b:a", "a", "", "", api.ErrCycle},
		{"a:zb b:a", "a", "", "", api.ErrMissing},
		{"a:b b:za", "a", "", "", api.ErrMissing},
		{"a:b b:az", "a", "", "", api.ErrCycle},
		{"a:bc b:d c:a d:z", "a", "", "", api.ErrMissing},
		{"a:bc b:d c:z d:b", "a", "", "", api.ErrCycle},
		{"a:a", "a", "", "", api.ErrModule},
		{"a a", "a", "", "", api.ErrModule},
		{"a:bb b", "a", "", "", api.ErrModule},
		{"a:b b A", "a", "", "", api.ErrModule},
	} {
		l := net(w.net)
		order, err := module.Order(l, w.root)
		if strings.Join(order, " ") != w.order || err != w.err {
			t.Errorf("Order of %v from %v = %v, %v, not %v, %v", w.net, w.root, order, err, w.order, w.err)
		}
		needs, err := module.Needs(l, w.root)
		if strings.Join(needs, " ") != w.needs || err != w.err {
			t.Errorf("Needs of %v in %v = %v, %v, not %v, %v", w.root, w.net, needs, err, w.needs, w.err)
		}
		resolveErr := api.ErrArg
		if _, ok := find(l, w.root); w.err == api.ErrModule || !ok {
			resolveErr = w.err
		}
		expectAll(t, l, w.root, "", w.err, resolveErr)
	}
}

// Needs is increasing by bytes, and 20 modules in a chain have an order.
func TestChain(t *testing.T) {
	var l []api.Module
	for i := range 20 {
		m := api.Module{Name: fmt.Sprint("m", i)}
		if i > 0 {
			m.Uses = []string{fmt.Sprint("m", i-1)}
		}
		l = append(l, m)
	}
	order, err := module.Order(l, "m19")
	if err != api.OK || len(order) != 20 || order[0] != "m0" || order[10] != "m10" || order[19] != "m19" {
		t.Errorf("Order = %v, %v", order, err)
	}
	needs, err := module.Needs(l, "m19")
	if want := "m0 m1 m10 m11 m12 m13 m14 m15 m16 m17 m18 m2 m3 m4 m5 m6 m7 m8 m9"; err != api.OK || strings.Join(needs, " ") != want {
		t.Errorf("Needs = %v, %v", needs, err)
	}
	l[0].Uses = []string{"m19"}
	if _, err := module.Order(l, "m7"); err != api.ErrCycle {
		t.Errorf("Order of a circle of 20 modules = %v", err)
	}
}

// What names are resolved to.
func TestResolve(t *testing.T) {
	l := readAll(t,
		"module m. export a, b, c. type a, b, c, d.", "module n. export b, c. type b. pred c. const e: b.", "module k. use m. use n. use z. export b, f. pred b. fact f. lasting g.", "module u. use k. use z.", "module v. pred a. pred type'.",
		"module w. use u.", "module "+some(20)+". export "+some(19)+", "+some(20)+". type "+some(19)+", "+some(20)+".", "module y. use "+some(20)+".")
	for _, w := range []struct {
		in, name, want string
		err            api.Errno
	}{
		{"m", "a", "a@m", 0}, {"m", "d", "d@m", 0}, {"m", "d@m", "d@m", 0}, {"m", "e", "", api.ErrUnknown}, {"m", "e@n", "", api.ErrUnknown}, {"m", "b@n", "", api.ErrUnknown}, {"m", "m", "", api.ErrUnknown},
		{"k", "a", "a@m", 0}, {"k", "b", "b@k", 0}, {"k", "b@k", "b@k", 0}, {"k", "b@m", "b@m", 0}, {"k", "b@n", "b@n", 0}, {"k", "c", "", api.ErrUnclear}, {"k", "c@m", "c@m", 0}, {"k", "c@n", "c@n", 0},
		{"k", "d", "", api.ErrUnknown}, {"k", "d@m", "", api.ErrUnknown}, {"k", "e@n", "", api.ErrUnknown}, {"k", "g", "g@k", 0}, {"k", "a@z", "", api.ErrUnknown}, {"k", "c@k", "", api.ErrUnknown}, {"k", "a@k", "", api.ErrUnknown},
		{"u", "b", "b@k", 0}, {"u", "f@k", "f@k", 0}, {"u", "g", "", api.ErrUnknown}, {"u", "g@k", "", api.ErrUnknown}, {"u", "a", "", api.ErrUnknown}, {"u", "a@m", "", api.ErrUnknown}, {"w", "b", "", api.ErrUnknown},
		{"v", "a", "a@v", 0}, {"v", "a@m", "", api.ErrUnknown}, {"v", "type'", "type'@v", 0}, {"v", "type", "", api.ErrArg}, {"v", "type@v", "", api.ErrUnknown}, {"v", "rule@m", "", api.ErrUnknown},
		{"m", "", "", api.ErrArg}, {"m", "A", "", api.ErrArg}, {"m", "a@", "", api.ErrArg}, {"m", "@m", "", api.ErrArg}, {"m", "a@M", "", api.ErrArg}, {"m", "a@m@m", "", api.ErrArg}, {"m", "a ", "", api.ErrArg}, {"m", "a\x00", "", api.ErrArg},
		{"m", some(40), "", api.ErrUnknown}, {"m", some(41), "", api.ErrArg}, {"m", some(1 << 20), "", api.ErrArg}, {"m", some(38) + "@m", "", api.ErrUnknown}, {"m", some(39) + "@m", "", api.ErrArg},
		{"z", "a", "", api.ErrMissing}, {"", "a", "", api.ErrMissing}, {"z", "A", "", api.ErrMissing}, {"M", "", "", api.ErrMissing},
		{some(20), some(19), some(19) + "@" + some(20), 0}, {some(20), some(20), "", api.ErrLong}, {"y", some(19), some(19) + "@" + some(20), 0}, {"y", some(20), "", api.ErrLong}, {"y", some(19) + "@" + some(20), some(19) + "@" + some(20), 0},
		{"y", some(20) + "@" + some(20), "", api.ErrArg},
	} {
		if got, err := module.Resolve(l, w.in, w.name); got != w.want || err != w.err {
			t.Errorf("Resolve in %v of %v = %q, %v, not %q, %v", w.in, w.name, got, err, w.want, w.err)
		}
	}
}
