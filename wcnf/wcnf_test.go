package wcnf_test

import (
	"math"
	"slices"
	"strings"
	"testing"

	"byway/api"
	"byway/bnf"
	"byway/cfg"
	"byway/least"
	"byway/rsm"
	"byway/sample"
	"byway/wcnf"
)

func nt(n int) api.Sym { return api.Sym{N: n} }

func label(n int) api.Sym { return api.Sym{Label: true, N: n} }

func prod(head int, body ...api.Sym) api.Prod { return api.Prod{Head: head, Body: body} }

func cnf(nts int, l ...api.Prod) api.Cnf { return api.Cnf{Nts: nts, Prods: l} }

func sameProds(a, b []api.Prod) bool {
	return slices.EqualFunc(a, b, func(p, q api.Prod) bool { return p.Head == q.Head && slices.Equal(p.Body, q.Body) })
}

func same(a, b api.Cnf) bool { return a.Nts == b.Nts && sameProds(a.Prods, b.Prods) }

func of(t *testing.T, c api.Cnf) api.Cnf {
	t.Helper()
	w, e := wcnf.Of(c)
	if e != api.OK {
		t.Fatal(c, e)
	}
	return w
}

func grammar(t *testing.T, text string) []api.Rule {
	t.Helper()
	g, _, e := bnf.Parse(text)
	if e != api.OK {
		t.Fatal(text, e)
	}
	return g
}

// P14.1
func TestOf(t *testing.T) {
	for _, x := range []struct{ c, want api.Cnf }{
		{cnf(1, prod(0, label(0), nt(0), label(1))), cnf(4, prod(0, nt(1), nt(3)), prod(1, label(0)), prod(2, label(1)), prod(3, nt(0), nt(2)))},
		{cnf(2, prod(0, nt(1)), prod(1), prod(0, nt(1))), cnf(3, prod(0, nt(1), nt(2)), prod(1), prod(2))},
		{cnf(3), cnf(3)},
		// A label alone wants no helper; the first body that wants one has it first.
		{cnf(2, prod(1, label(3)), prod(1, label(5), nt(0)), prod(0, nt(1)), prod(0, label(3), label(5))),
			cnf(5, prod(0, nt(1), nt(3)), prod(0, nt(4), nt(2)), prod(1, label(3)), prod(1, nt(2), nt(0)), prod(2, label(5)), prod(3), prod(4, label(3)))},
		// Bodies of their own helpers, behind those of the labels, even if they are the same.
		{cnf(1, prod(0, nt(0), nt(0), nt(0), nt(0)), prod(0, nt(0), label(1), label(1), label(0)), prod(0, nt(0), nt(0), nt(0), nt(0))),
			cnf(9, prod(0, nt(0), nt(1)), prod(0, nt(0), nt(5)), prod(0, nt(0), nt(7)), prod(1, nt(0), nt(2)), prod(2, nt(0), nt(0)),
				prod(3, label(1)), prod(4, label(0)), prod(5, nt(3), nt(6)), prod(6, nt(3), nt(4)), prod(7, nt(0), nt(8)), prod(8, nt(0), nt(0)))},
		{cnf(1, prod(0, label(1), nt(0)), prod(0, nt(0)), prod(0, nt(0)), prod(0, nt(0), label(1))),
			cnf(3, prod(0, nt(0), nt(1)), prod(0, nt(0), nt(2)), prod(0, nt(1), nt(0)), prod(1, label(1)), prod(2))},
	} {
		before, _ := cfg.Turn(x.c)
		if w := of(t, x.c); !same(w, x.want) {
			t.Error(x.c, w, x.want)
		}
		if after, _ := cfg.Turn(x.c); !same(before, after) {
			t.Error("what was handed in is changed")
		}
	}
}

func TestBounds(t *testing.T) {
	row := func(count int) []api.Sym { return slices.Repeat([]api.Sym{nt(0)}, count) }
	if w := of(t, cnf(1, prod(0, row(1025)...))); w.Nts != 1024 || len(w.Prods) != 1024 {
		t.Error(w.Nts)
	}
	for i, c := range []api.Cnf{cnf(1, prod(0, row(1026)...)), cnf(1, prod(0, row(1<<20)...)), cnf(1024, prod(0, nt(1))), cnf(1024, prod(0, label(1), nt(0))), cnf(1022, prod(0, label(1), label(0), label(1)))} {
		if w, e := wcnf.Of(c); e != api.ErrForm || !same(w, api.Cnf{}) {
			t.Error(i, w.Nts, e)
		}
	}
	if w := of(t, cnf(1021, prod(0, label(1), label(0), label(1)))); w.Nts != 1024 {
		t.Error(w.Nts)
	}
	if w := of(t, cnf(1024, prod(1023, nt(0), nt(1023)), prod(0, label(15)), prod(7))); w.Nts != 1024 || len(w.Prods) != 3 {
		t.Error(w)
	}
	for _, c := range []api.Cnf{{}, cnf(1025), cnf(1, prod(1)), cnf(1, prod(0, nt(-1))), cnf(1, prod(0, label(16))), cnf(math.MaxInt, prod(0, nt(0)))} {
		if w, e := wcnf.Of(c); e != api.ErrProds || !same(w, api.Cnf{}) {
			t.Error(w, e)
		}
	}
}

func TestNew(t *testing.T) {
	for _, g := range [][]api.Rule{nil, {{Head: "s"}}, grammar(t, "S = T; T = a;")[:1]} {
		if w, e := wcnf.New(g); e != bnf.Check(g) || e == api.OK || !same(w, api.Cnf{}) {
			t.Error(w, e)
		}
	}
	g := grammar(t, "S = a S b; S = %;")
	// Of the states 0 to 3 the start alone is S; 4 and 5 are the helpers of a and b.
	want := cnf(6, prod(0), prod(0, nt(4), nt(1)), prod(1, nt(0), nt(2)), prod(2, nt(5), nt(3)), prod(3), prod(4, label(0)), prod(5, label(1)))
	if w, e := wcnf.New(g); e != api.OK || !same(w, want) {
		t.Error(w, e)
	}
	greatest := "S = (a | b | c | d | e | f | g | h | i | j | k | l | m | n | o | p)* " + strings.Repeat("(S | a) ", 24) + ";"
	if w, e := wcnf.New(grammar(t, greatest)); e != api.OK || w.Nts != 65+16 {
		t.Error(w.Nts, e)
	}
}

// P14.2
func TestIsParts(t *testing.T) {
	for _, x := range []struct {
		c  api.Cnf
		is bool
	}{
		{cnf(1), true}, {cnf(1, prod(0)), true}, {cnf(1, prod(0, label(0))), true}, {cnf(1, prod(0, nt(0), nt(0))), true}, {of(t, cnf(2, prod(0, nt(1)))), true},
		{cnf(1, prod(0, nt(0))), false}, {cnf(1, prod(0), prod(0, label(0), nt(0))), false}, {cnf(1, prod(0, nt(0), label(0))), false}, {cnf(1, prod(0, label(0), label(0))), false}, {cnf(1, prod(0, nt(0), nt(0), nt(0))), false},
		{cnf(0), false}, {cnf(1, prod(1)), false}, {cnf(1, prod(0, label(16))), false}, {cnf(1, prod(0, nt(0), nt(1))), false}, {cnf(1025), false},
	} {
		if is := wcnf.Is(x.c); is != x.is {
			t.Error(x.c, is)
		}
		if h, l, p := wcnf.Parts(x.c); !x.is && (h != nil || l != nil || p != nil) {
			t.Error(x.c, h, l, p)
		}
	}
	c := cnf(3, prod(2, nt(1), nt(0)), prod(2), prod(1, label(4)), prod(0), prod(2), prod(0, label(1)), prod(0, nt(0), nt(0)), prod(2, nt(1), nt(0)))
	heads, labels, pairs := wcnf.Parts(c)
	if !slices.Equal(heads, []int{2, 0, 2}) || !sameProds(labels, []api.Prod{c.Prods[2], c.Prods[5]}) || !sameProds(pairs, []api.Prod{c.Prods[0], c.Prods[6], c.Prods[7]}) {
		t.Error(heads, labels, pairs)
	}
	labels[0].Body[0].N = 99
	pairs[0].Body[0].N = 99
	if c.Prods[2].Body[0].N != 4 || c.Prods[0].Body[0].N != 1 {
		t.Error("parts are shared")
	}
}

// P14.3
func TestLanguages(t *testing.T) {
	n := sample.Noise(3)
	for range 250 {
		c := n.Prods(n.Below(10), 1+n.Below(4), n.Below(3), 5)
		w := of(t, c)
		if !wcnf.Is(w) {
			t.Fatal(w)
		}
		old, young := sample.Derived(c, nil, 4), sample.Derived(w, nil, 4)
		e1, _ := least.Empty(c)
		e2, _ := least.Empty(w)
		f1, _ := least.Fruitful(c)
		f2, _ := least.Fruitful(w)
		s1, _ := least.Shortest(c)
		s2, _ := least.Shortest(w)
		for i := range c.Nts {
			if !old[i].Same(young[i]) || e1[i] != e2[i] || f1[i] != f2[i] || s1[i] != s2[i] {
				t.Fatal(c, w, i)
			}
		}
		sorted, _ := cfg.Sort(w)
		if !same(w, sorted) || !same(of(t, w), w) {
			t.Fatal("the weak form of weak productions")
		}
	}
	for range 100 {
		c := n.Weak(n.Below(20), 1+n.Below(4), 2)
		sorted, _ := cfg.Sort(c)
		if !same(of(t, c), sorted) {
			t.Fatal(c)
		}
	}
}

func TestGrammars(t *testing.T) {
	n := sample.Noise(4)
	for range 100 {
		g := n.Grammar(4, 4, []string{"S", "T", "U"}[:1+n.Below(3)], []string{"a", "b"})
		m, e := rsm.New(g)
		if e != api.OK {
			continue
		}
		w, e := wcnf.New(g)
		if e != api.OK || !wcnf.Is(w) || w.Nts < m.States() || w.Nts > m.States()+len(m.Labels())+1 {
			t.Fatal(w, e)
		}
		want, got := sample.Languages(g, 4), sample.Derived(w, m.Labels(), 4)
		for i, name := range m.Names() {
			if !want[name].Same(got[i]) {
				t.Fatal(g, name)
			}
		}
	}
}
