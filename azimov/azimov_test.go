package azimov_test

import (
	"math"
	"slices"
	"strconv"
	"testing"

	"byway/api"
	"byway/azimov"
	"byway/graph"
	"byway/rsm"
	"byway/sample"
	"byway/wcnf"
)

func nt(n int) api.Sym { return api.Sym{N: n} }

func label(n int) api.Sym { return api.Sym{Label: true, N: n} }

func prod(head int, body ...api.Sym) api.Prod { return api.Prod{Head: head, Body: body} }

func cnf(nts int, l ...api.Prod) api.Cnf { return api.Cnf{Nts: nts, Prods: l} }

func cell(r, c int) api.Cell { return api.Cell{Row: r, Col: c} }

func edge(from, label, to string) api.Edge { return api.Edge{From: from, Label: label, To: to} }

func names(prefix string, count int) []string {
	var l []string
	for i := range count {
		l = append(l, prefix+strconv.Itoa(i))
	}
	return l
}

func graphOf(t *testing.T, nodes []string, l ...api.Edge) *graph.Graph {
	t.Helper()
	g := graph.New()
	for _, n := range nodes {
		g.AddNode(n)
	}
	for _, x := range l {
		if _, e := g.AddEdge(x.From, x.Label, x.To); e != api.OK {
			t.Fatal(x, e)
		}
	}
	return g
}

func closure(t *testing.T, c api.Cnf, labels []string, g *graph.Graph) *azimov.Closure {
	t.Helper()
	x, e := azimov.New(c, labels, g)
	if e != api.OK || x == nil {
		t.Fatal(e)
	}
	return x
}

// example is the chapter's grammar and graph.
func example(t *testing.T) (api.Cnf, *graph.Graph) {
	t.Helper()
	c := cnf(3, prod(0, nt(1), nt(2)), prod(1, label(0)), prod(2, nt(0), nt(2)), prod(2, label(1)))
	return c, graphOf(t, nil, edge("n0", "a", "n1"), edge("n1", "a", "n0"), edge("n1", "b", "n2"), edge("n2", "b", "n1"))
}

// agree holds all that a closure tells against relations.
func agree(t *testing.T, x *azimov.Closure, want []sample.Relation) {
	t.Helper()
	var facts []api.Fact
	for nt, r := range want {
		pairs, e := x.Pairs(nt)
		if e != api.OK || !slices.Equal(pairs, r.Pairs()) {
			t.Fatal(nt, pairs, r.Pairs(), e)
		}
		for _, p := range pairs {
			facts = append(facts, api.Fact{Nt: nt, From: p.Row, To: p.Col})
		}
		for u := range r {
			for v := range r {
				if is, e := x.Has(api.Fact{Nt: nt, From: u, To: v}); is != r[u][v] || e != api.OK {
					t.Fatal(nt, u, v, is, e)
				}
			}
		}
	}
	if got := slices.Collect(x.Facts()); !slices.Equal(got, facts) || x.Len() != len(facts) {
		t.Fatal(got, facts)
	}
}

// P18.1
func TestCheck(t *testing.T) {
	ab := []string{"a", "b"}
	many := slices.Repeat([]api.Prod{prod(0, nt(0), nt(0))}, 8193)
	for i, x := range []struct {
		c      api.Cnf
		labels []string
		e      api.Errno
	}{
		{cnf(1), nil, api.OK}, {cnf(512, prod(511), prod(0, label(1)), prod(3, nt(511), nt(0))), ab, api.OK}, {cnf(1, many[:8192]...), nil, api.OK}, {cnf(1), names("b", 10), api.OK}, {cnf(1), []string{"", "-", "A", "a b"}, api.OK},
		{cnf(0), nil, api.ErrArg}, {cnf(-1), nil, api.ErrArg}, {cnf(513), nil, api.ErrArg}, {cnf(math.MaxInt), nil, api.ErrArg}, {cnf(math.MinInt), nil, api.ErrArg}, {cnf(1, many...), nil, api.ErrArg},
		{cnf(1, prod(1)), nil, api.ErrArg}, {cnf(1, prod(-1)), nil, api.ErrArg}, {cnf(1, prod(0, label(0))), nil, api.ErrArg}, {cnf(1, prod(0, label(2))), ab, api.ErrArg}, {cnf(1, prod(0, label(-1))), ab, api.ErrArg}, {cnf(1, prod(0, nt(0))), ab, api.ErrArg},
		{cnf(1, prod(0, nt(0), nt(1))), ab, api.ErrArg}, {cnf(1, prod(0, nt(-1), nt(0))), ab, api.ErrArg}, {cnf(1, prod(0, nt(0), label(0))), ab, api.ErrArg}, {cnf(1, prod(0, label(0), nt(0))), ab, api.ErrArg}, {cnf(1, prod(0, label(0), label(0))), ab, api.ErrArg},
		{cnf(1, prod(0, nt(0), nt(0), nt(0))), ab, api.ErrArg}, {cnf(1), []string{"b", "a"}, api.ErrArg}, {cnf(1), []string{"a", "a"}, api.ErrArg}, {cnf(1), append(names("a", 10), names("b", 7)...), api.ErrArg}, {cnf(1), append(names("a", 10), names("b", 6)...), api.OK},
	} {
		if e := azimov.Check(x.c, x.labels); e != x.e {
			t.Error(i, e, x.e)
		}
		if y, e := azimov.New(x.c, x.labels, graph.New()); e != x.e || (y == nil) != (e != api.OK) {
			t.Error(i, e, x.e)
		}
		for _, none := range []*graph.Graph{nil, new(graph.Graph)} {
			if y, e := azimov.New(x.c, x.labels, none); y != nil || e != api.ErrNil {
				t.Error(i, e)
			}
		}
	}
}

// P18.2
func TestExamples(t *testing.T) {
	c, g := example(t)
	x := closure(t, c, []string{"a", "b"}, g)
	if l, e := x.Pairs(1); !slices.Equal(l, []api.Cell{cell(0, 1), cell(1, 0)}) || e != api.OK {
		t.Error(l, e)
	}
	agree(t, x, sample.Facts(c, []string{"a", "b"}, g.Nodes(), g.Data().Edges))
	for _, n := range []int{-1, 3, math.MinInt, math.MaxInt} {
		if l, e := x.Pairs(n); l != nil || e != api.ErrNone {
			t.Error(n, l, e)
		}
		for _, f := range []api.Fact{{Nt: n}, {From: n}, {To: n}} {
			if is, e := x.Has(f); is || e != api.ErrNone {
				t.Error(f, is, e)
			}
		}
	}
	one := closure(t, cnf(1, prod(0)), nil, g)
	if l, e := one.Pairs(0); !slices.Equal(l, []api.Cell{cell(0, 0), cell(1, 1), cell(2, 2)}) || e != api.OK {
		t.Error(l, e)
	}
	for range one.Facts() {
		break
	}
}

func TestNil(t *testing.T) {
	for _, x := range []*azimov.Closure{nil, new(azimov.Closure)} {
		if x.Len() != 0 || len(slices.Collect(x.Facts())) != 0 {
			t.Error("facts of none")
		}
		if is, e := x.Has(api.Fact{Nt: -1}); is || e != api.ErrNil {
			t.Error(is, e)
		}
		if l, e := x.Pairs(-1); l != nil || e != api.ErrNil {
			t.Error(l, e)
		}
	}
}

func TestNoNodes(t *testing.T) {
	x := closure(t, cnf(2, prod(0), prod(1, nt(0), nt(0))), nil, graph.New())
	if x.Len() != 0 {
		t.Error(x.Len())
	}
	if is, e := x.Has(api.Fact{}); is || e != api.ErrNone {
		t.Error(is, e)
	}
	if l, e := x.Pairs(1); len(l) != 0 || e != api.OK {
		t.Error(l, e)
	}
}

// P18.3
func TestFacts(t *testing.T) {
	n := sample.Noise(1)
	labels := []string{"a", "b"}
	for range 200 {
		c := n.Weak(n.Below(20), 1+n.Below(5), 2)
		nodes := names("n", 1+n.Below(7))
		l := n.Edges(n.Below(14), nodes, []string{"a", "b", "c"})
		g := graphOf(t, nodes, l...)
		x := closure(t, c, labels, g)
		agree(t, x, sample.Facts(c, labels, nodes, l))
		before := slices.Collect(x.Facts())
		other := cnf(c.Nts, append(slices.Clone(c.Prods), c.Prods...)...)
		slices.Reverse(other.Prods)
		if got := slices.Collect(closure(t, other, labels, g).Facts()); !slices.Equal(got, before) {
			t.Fatal("the order of productions counts")
		}
		g.AddEdge(nodes[0], "a", "more")
		for i := range c.Prods {
			c.Prods[i].Head = 0
		}
		if got := slices.Collect(x.Facts()); !slices.Equal(got, before) {
			t.Fatal("what comes later counts")
		}
	}
}

func TestMore(t *testing.T) {
	n := sample.Noise(2)
	for range 60 {
		c := n.Weak(8, 4, 2)
		g := graphOf(t, names("n", 5), n.Edges(6, names("n", 5), []string{"a", "b"})...)
		before := slices.Collect(closure(t, c, []string{"a", "b"}, g).Facts())
		g.AddNode("m")
		x := n.Edges(1, names("n", 5), []string{"a", "b"})[0]
		g.AddEdge(x.From, x.Label, x.To)
		c.Prods = append(c.Prods, n.Weak(1, 4, 2).Prods...)
		y := closure(t, c, []string{"a", "b"}, g)
		for _, f := range before {
			if is, _ := y.Has(f); !is {
				t.Fatal("a fact is lost", f)
			}
		}
	}
}

func TestGrammars(t *testing.T) {
	n := sample.Noise(3)
	for range 60 {
		r := n.Grammar(4, 4, []string{"S", "T", "U"}[:1+n.Below(3)], []string{"a", "b"})
		m, e := rsm.New(r)
		if e != api.OK {
			continue
		}
		nodes := names("n", 1+n.Below(6))
		l := n.Edges(n.Below(12), nodes, []string{"a", "b"})
		c, _ := wcnf.New(r)
		x := closure(t, c, m.Labels(), graphOf(t, nodes, l...))
		want := sample.Solved(r, nodes, l)
		for i, name := range m.Names() {
			if pairs, _ := x.Pairs(i); !slices.Equal(pairs, want[name].Pairs()) {
				t.Fatal(r, name, pairs, want[name].Pairs())
			}
		}
	}
}

func TestGreat(t *testing.T) {
	// Two rings of unlike lengths: a to the n and b to the n lead from each to each.
	var l []api.Edge
	ring := func(nodes []string, label string) {
		for i := range nodes {
			l = append(l, edge(nodes[i], label, nodes[(i+1)%len(nodes)]))
		}
	}
	nodes := names("n", 30)
	ring(nodes[:16], "a")
	ring(append([]string{"n0"}, nodes[16:]...), "b")
	g := graphOf(t, nodes, l...)
	c := cnf(4, prod(0, nt(1), nt(2)), prod(0, nt(1), nt(3)), prod(1, label(0)), prod(2, nt(0), nt(3)), prod(3, label(1)))
	x := closure(t, c, []string{"a", "b"}, g)
	if pairs, _ := x.Pairs(0); len(pairs) != 16*15 {
		t.Error(len(pairs))
	}
	n := sample.Noise(4)
	big := n.Weak(8192, 512, 2)
	y := closure(t, big, []string{"a", "b"}, g)
	if y.Len() == 0 || y.Len() > 512*30*30 {
		t.Error(y.Len())
	}
}
