package cfg_test

import (
	"math"
	"slices"
	"strconv"
	"strings"
	"testing"

	"byway/api"
	"byway/bnf"
	"byway/cfg"
	"byway/rsm"
	"byway/sample"
)

func grammar(t *testing.T, text string) []api.Rule {
	t.Helper()
	g, _, e := bnf.Parse(text)
	if e != api.OK {
		t.Fatal(text, e)
	}
	return g
}

func of(t *testing.T, g []api.Rule) api.Cnf {
	t.Helper()
	m, e := rsm.New(g)
	if e != api.OK {
		t.Fatal(e)
	}
	c, e := cfg.Of(m)
	if e != api.OK || cfg.Check(c) != api.OK {
		t.Fatal(e)
	}
	return c
}

func nt(n int) api.Sym { return api.Sym{N: n} }

func label(n int) api.Sym { return api.Sym{Label: true, N: n} }

func prod(head int, body ...api.Sym) api.Prod { return api.Prod{Head: head, Body: body} }

func cnf(nts int, l ...api.Prod) api.Cnf { return api.Cnf{Nts: nts, Prods: l} }

func same(a, b api.Cnf) bool {
	return a.Nts == b.Nts && slices.EqualFunc(a.Prods, b.Prods, func(p, q api.Prod) bool {
		return p.Head == q.Head && slices.Equal(p.Body, q.Body)
	})
}

// key is a text that rises as productions do.
func key(p api.Prod) string {
	num := func(n int) string { return strings.Repeat("0", 5-len(strconv.Itoa(n))) + strconv.Itoa(n) }
	text := num(p.Head) + " " + num(len(p.Body))
	for _, s := range p.Body {
		if s.Label {
			text += " b" + num(s.N)
		} else {
			text += " a" + num(s.N)
		}
	}
	return text
}

func rises(c api.Cnf) bool {
	for i := 1; i < len(c.Prods); i++ {
		if key(c.Prods[i-1]) >= key(c.Prods[i]) {
			return false
		}
	}
	return true
}

// P12.1
func TestOf(t *testing.T) {
	c := of(t, grammar(t, "S = a S b; S = %;"))
	want := cnf(4, prod(0), prod(0, label(0), nt(1)), prod(1, nt(0), nt(2)), prod(2, label(1), nt(3)), prod(3))
	if !same(c, want) {
		t.Error(c)
	}
	c = of(t, grammar(t, "S = T a; T = S | a;"))
	// The states of S are 0 to 2, those of T 3 to 5: so T is 1, and the others are 2 to 5.
	want = cnf(6, prod(0, nt(1), nt(2)), prod(1, nt(0), nt(4)), prod(1, label(0), nt(5)), prod(2, label(0), nt(3)), prod(3), prod(4), prod(5))
	if !same(c, want) {
		t.Error(c)
	}
	for _, m := range []*rsm.Machine{nil, new(rsm.Machine)} {
		if c, e := cfg.Of(m); !same(c, api.Cnf{}) || e != api.ErrNil {
			t.Error(c, e)
		}
	}
}

func TestCheck(t *testing.T) {
	for _, c := range []api.Cnf{cnf(1), cnf(1024, prod(1023, nt(1023), label(15))), cnf(1, prod(0)), cnf(2, prod(1, nt(0)), prod(1, nt(0)))} {
		if e := cfg.Check(c); e != api.OK {
			t.Error(c, e)
		}
	}
	for _, c := range []api.Cnf{
		{}, cnf(0, prod(0)), cnf(-1), cnf(1025), cnf(math.MinInt), cnf(math.MaxInt), cnf(1, prod(1)), cnf(1, prod(-1)), cnf(1, prod(0, nt(1))), cnf(1, prod(0, nt(-1))), cnf(3, prod(0), prod(0, label(0), label(16))),
		cnf(1, prod(0, label(-1))), cnf(20, prod(0, label(17))), cnf(1, prod(math.MaxInt)), cnf(1, prod(0, nt(math.MinInt))), cnf(1, prod(0, label(math.MaxInt))),
	} {
		s, e1 := cfg.Sort(c)
		u, e2 := cfg.Turn(c)
		r, e3 := cfg.Rules(c, nil, nil)
		for _, e := range []api.Errno{cfg.Check(c), e1, e2, e3} {
			if e != api.ErrProds {
				t.Error(c, e)
			}
		}
		if !same(s, api.Cnf{}) || !same(u, api.Cnf{}) || r != nil {
			t.Error(c, "an answer beside an error")
		}
	}
}

// P12.2
func TestSortTurn(t *testing.T) {
	n := sample.Noise(1)
	for range 200 {
		c := n.Prods(n.Below(40), 1+n.Below(4), 1+n.Below(4), 3)
		before, _ := cfg.Turn(c)
		s, e := cfg.Sort(c)
		if e != api.OK || s.Nts != c.Nts || !rises(s) {
			t.Fatal(s, e)
		}
		met := map[string]bool{}
		for _, p := range c.Prods {
			met[key(p)] = true
		}
		for _, p := range s.Prods {
			if !met[key(p)] {
				t.Fatal(p)
			}
		}
		if len(met) != len(s.Prods) {
			t.Fatal(len(met), len(s.Prods))
		}
		u, e := cfg.Turn(c)
		if e != api.OK || u.Nts != c.Nts || len(u.Prods) != len(c.Prods) {
			t.Fatal(e)
		}
		for i, p := range c.Prods {
			back := slices.Clone(p.Body)
			slices.Reverse(back)
			if u.Prods[i].Head != p.Head || !slices.Equal(u.Prods[i].Body, back) {
				t.Fatal(p, u.Prods[i])
			}
		}
		twice, _ := cfg.Turn(u)
		again, _ := cfg.Turn(c)
		if !same(twice, c) || !same(again, before) {
			t.Fatal("turn twice")
		}
	}
	c := cnf(2, prod(1, nt(0), nt(1)), prod(0, label(2)))
	s, _ := cfg.Sort(c)
	u, _ := cfg.Turn(c)
	s.Prods[1].Body[0] = nt(9)
	u.Prods[0].Body[0] = nt(9)
	s.Prods[0].Body[0] = nt(9)
	if !same(c, cnf(2, prod(1, nt(0), nt(1)), prod(0, label(2)))) {
		t.Error("something is shared")
	}
}

// P12.3
func TestRules(t *testing.T) {
	c := cnf(1, prod(0), prod(0, label(0), nt(0)))
	g, e := cfg.Rules(c, []string{"S"}, []string{"a"})
	if text, _ := bnf.Print(g); e != api.OK || text != "S = % ;\nS = a S ;\n" {
		t.Error(g, e)
	}
	g, e = cfg.Rules(cnf(2, prod(1, nt(0)), prod(0, label(1), label(0), label(1)), prod(1, nt(0)), prod(0, label(2))), []string{"S", "T"}, []string{"z", "b", "a", "c"})
	if text, _ := bnf.Print(g); e != api.OK || text != "T = S ;\nS = b z b ;\nT = S ;\nS = a ;\n" {
		t.Error(text, e)
	}
	long := strings.Repeat("A", 17)
	for _, x := range []struct{ names, labels []string }{
		{[]string{"S", "T"}, []string{"a"}}, {[]string{"S"}, nil}, {nil, []string{"a"}}, {[]string{"s"}, []string{"a"}}, {[]string{""}, []string{"a"}}, {[]string{long}, []string{"a"}},
		{[]string{"S"}, []string{"A"}}, {[]string{"S"}, []string{"a", "a"}}, {[]string{"S"}, []string{"a", ""}}, {[]string{"S"}, []string{"a", "b-"}}, {[]string{"S"}, []string{"a", "a" + long[:16]}}, {[]string{"9"}, []string{"a"}}, {[]string{"S "}, []string{"a"}},
	} {
		if g, e := cfg.Rules(c, x.names, x.labels); g != nil || e != api.ErrArg {
			t.Error(x, g, e)
		}
	}
	if g, e := cfg.Rules(cnf(2), []string{"S", "S"}, nil); g != nil || e != api.ErrArg {
		t.Error(g, e)
	}
	if g, e := cfg.Rules(cnf(2), []string{"S", long[:16]}, []string{"a"}); len(g) != 0 || e != api.OK {
		t.Error(g, e)
	}
	if g, e := cfg.Rules(cnf(1, prod(0)), []string{"S"}, nil); len(g) != 1 || e != api.OK {
		t.Error(g, e)
	}
}

func TestManyRules(t *testing.T) {
	var names []string
	for i := range 1024 {
		names = append(names, "A"+strconv.Itoa(i))
	}
	g, e := cfg.Rules(cnf(1024, prod(1023, nt(1022), label(15))), names, strings.Fields("a b c d e f g h i j k l m n o p q"))
	if e != api.OK || len(g) != 1 || g[0].Head != "A1023" || !slices.Equal(g[0].Body, []api.Node{{Kind: api.KindSeq, Kids: 2}, {Kind: api.KindName, Name: "A1022"}, {Kind: api.KindLabel, Name: "p"}}) {
		t.Error(g, e)
	}
}

// P12.4
func TestHeads(t *testing.T) {
	c := cnf(2, prod(1, nt(0), nt(1)), prod(0), prod(1), prod(-7, label(99)), prod(1, label(2)))
	type found struct {
		at   int
		body []api.Sym
	}
	for nt, want := range map[int][]found{1: {{0, []api.Sym{nt(0), nt(1)}}, {2, nil}, {4, []api.Sym{label(2)}}}, 0: {{1, nil}}, -7: {{3, []api.Sym{label(99)}}}, 5: nil} {
		seq := cfg.Heads(c, nt)
		for range 2 {
			var l []found
			for i, body := range seq {
				l = append(l, found{i, slices.Clone(body)})
				for k := range body {
					body[k].N = 55
				}
			}
			if !slices.EqualFunc(l, want, func(a, b found) bool { return a.at == b.at && slices.Equal(a.body, b.body) }) {
				t.Error(nt, l)
			}
		}
		for range seq {
			break
		}
	}
	seq := cfg.Heads(c, 1)
	c.Prods[0].Body[0].N = 77
	c.Prods[2].Head = 0
	for i, body := range seq {
		if i == 0 && body[0].N != 0 {
			t.Error("the iterator hangs on what was handed in")
		}
	}
	for range cfg.Heads(api.Cnf{}, 0) {
		t.Error("a production of none")
	}
}

// P12.5
func TestLanguages(t *testing.T) {
	n := sample.Noise(6)
	for range 150 {
		g := n.Grammar(4, 4, []string{"S", "T", "U"}[:1+n.Below(3)], []string{"a", "b"})
		if bnf.Check(g) != api.OK {
			continue
		}
		c := of(t, g)
		if !rises(c) {
			t.Fatal(c)
		}
		m, _ := rsm.New(g)
		want := sample.Languages(g, 4)
		got := sample.Derived(c, m.Labels(), 4)
		for i, name := range m.Names() {
			if !want[name].Same(got[i]) {
				t.Fatal(g, name, want[name], got[i])
			}
		}
	}
}

func TestRulesLanguages(t *testing.T) {
	n := sample.Noise(7)
	names, labels := []string{"S", "T", "U"}, []string{"b", "a"}
	for range 200 {
		c := n.Prods(8, 3, 2, 3)
		g, e := cfg.Rules(c, names, labels)
		if e != api.OK {
			t.Fatal(e)
		}
		if bnf.Check(g) != api.OK {
			continue
		}
		want := sample.Derived(c, labels, 4)
		m, _ := rsm.New(g)
		got := sample.Derived(of(t, g), m.Labels(), 4)
		for i, name := range m.Names() {
			if !want[slices.Index(names, name)].Same(got[i]) {
				t.Fatal(c, name)
			}
		}
	}
}
