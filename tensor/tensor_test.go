package tensor_test

import (
	"math"
	"slices"
	"strconv"
	"strings"
	"testing"

	"byway/api"
	"byway/azimov"
	"byway/bnf"
	"byway/derive"
	"byway/graph"
	"byway/rsm"
	"byway/sample"
	"byway/tensor"
	"byway/wcnf"
)

func cell(r, c int) api.Cell { return api.Cell{Row: r, Col: c} }

func edge(from, label, to string) api.Edge { return api.Edge{From: from, Label: label, To: to} }

func names(prefix string, count int) []string {
	var l []string
	for i := range count {
		l = append(l, prefix+strconv.Itoa(i))
	}
	return l
}

func graphOf(t *testing.T, nodes []string, l ...api.Edge) *graph.Graph {
	t.Helper()
	g := graph.New()
	for _, n := range nodes {
		g.AddNode(n)
	}
	for _, x := range l {
		if _, e := g.AddEdge(x.From, x.Label, x.To); e != api.OK {
			t.Fatal(x, e)
		}
	}
	return g
}

func rules(t *testing.T, text string) []api.Rule {
	t.Helper()
	r, _, e := bnf.Parse(text)
	if e != api.OK {
		t.Fatal(text, e)
	}
	return r
}

func machine(t *testing.T, text string) *rsm.Machine {
	t.Helper()
	m, _ := rsm.New(rules(t, text))
	return m
}

func closure(t *testing.T, m *rsm.Machine, g *graph.Graph) *tensor.Closure {
	t.Helper()
	x, e := tensor.New(m, g)
	if e != api.OK || x == nil {
		t.Fatal(e)
	}
	return x
}

// exampleGraph is that of the chapter's examples.
func exampleGraph(t *testing.T) *graph.Graph {
	return graphOf(t, nil, edge("x", "a", "y"), edge("y", "a", "x"), edge("x", "b", "z"), edge("z", "b", "x"))
}

// agree holds all that a closure tells against plain relations.
func agree(t *testing.T, x *tensor.Closure, m *rsm.Machine, g *graph.Graph, want map[string]sample.Relation) {
	t.Helper()
	var facts []api.Fact
	for nt, name := range m.Names() {
		r := want[name]
		pairs, e := x.Pairs(nt)
		if e != api.OK || !slices.Equal(pairs, r.Pairs()) {
			t.Fatal(nt, pairs, r.Pairs(), e)
		}
		for _, p := range pairs {
			facts = append(facts, api.Fact{Nt: nt, From: p.Row, To: p.Col})
		}
		for u := range r {
			for v := range r {
				if is, e := x.Has(api.Fact{Nt: nt, From: u, To: v}); is != r[u][v] || e != api.OK {
					t.Fatal(nt, u, v, is, e)
				}
			}
			if l, e := x.Stands(nt, u); e != api.OK || !slices.Equal(l, stands(m, g, want, nt, u)) {
				t.Fatal(nt, u, l, stands(m, g, want, nt, u), e)
			}
		}
	}
	if got := slices.Collect(x.Facts()); !slices.Equal(got, facts) || x.Len() != len(facts) {
		t.Fatal(got, facts)
	}
}

// stands are those of a nonterminal and a node, by a search over arcs and pairs.
func stands(m *rsm.Machine, g *graph.Graph, want map[string]sample.Relation, nt, from int) []api.Cell {
	nodes := g.Nodes()
	leads := func(s api.Sym, u, v int) bool {
		if s.Label {
			return g.Has(nodes[u], m.Labels()[s.N], nodes[v])
		}
		return want[m.Names()[s.N]][u][v]
	}
	l := []api.Cell{cell(m.Start(nt), from)}
	for i := 0; i < len(l); i++ {
		for s, q := range m.Out(l[i].Row) {
			for v := range nodes {
				if c := cell(q, v); leads(s, l[i].Col, v) && !slices.Contains(l, c) {
					l = append(l, c)
				}
			}
		}
	}
	slices.SortFunc(l, func(a, b api.Cell) int { return (a.Row-b.Row)*1000 + a.Col - b.Col })
	return l
}

// P19.1, P19.2, P19.3
func TestExamples(t *testing.T) {
	m, g := machine(t, "S = a S b | a b ;"), exampleGraph(t)
	x := closure(t, m, g)
	if l, e := x.Pairs(0); !slices.Equal(l, []api.Cell{cell(0, 0), cell(1, 2)}) || e != api.OK {
		t.Error(l, e)
	}
	empty := closure(t, machine(t, "S = %;"), g)
	if l, e := empty.Pairs(0); !slices.Equal(l, []api.Cell{cell(0, 0), cell(1, 1), cell(2, 2)}) || e != api.OK {
		t.Error(l, e)
	}
	if l, e := empty.Stands(0, 1); !slices.Equal(l, []api.Cell{cell(0, 1)}) || e != api.OK {
		t.Error(l, e)
	}
	for range x.Facts() {
		break
	}
	for _, n := range []int{-1, 3, math.MinInt, math.MaxInt} {
		_, e1 := x.Pairs(n)
		_, e2 := x.Has(api.Fact{Nt: n})
		_, e3 := x.Has(api.Fact{From: n})
		is, e4 := x.Has(api.Fact{To: n})
		_, e5 := x.Stands(n, 0)
		l, e6 := x.Stands(0, n)
		for i, e := range []api.Errno{e1, e2, e3, e4, e5, e6} {
			if e != api.ErrNone || is || l != nil {
				t.Error(n, i, e)
			}
		}
	}
	if _, e := x.Pairs(1); e != api.ErrNone {
		t.Error(e)
	}
	if _, e := x.Stands(1, 0); e != api.ErrNone {
		t.Error(e)
	}
}

func TestNil(t *testing.T) {
	m, g := machine(t, "S = a;"), exampleGraph(t)
	for _, x := range []struct {
		m *rsm.Machine
		g *graph.Graph
	}{{nil, g}, {m, nil}, {nil, nil}, {new(rsm.Machine), g}, {m, new(graph.Graph)}} {
		if c, e := tensor.New(x.m, x.g); c != nil || e != api.ErrNil {
			t.Error(c, e)
		}
	}
	for _, c := range []*tensor.Closure{nil, new(tensor.Closure)} {
		is, e1 := c.Has(api.Fact{Nt: -1})
		_, e2 := c.Pairs(-1)
		_, e3 := c.Stands(-1, 0)
		if is || c.Len() != 0 || len(slices.Collect(c.Facts())) != 0 || e1 != api.ErrNil || e2 != api.ErrNil || e3 != api.ErrNil {
			t.Error(e1, e2, e3)
		}
	}
}

func TestSide(t *testing.T) {
	row := func(count int) *rsm.Machine { return machine(t, "S = "+strings.Repeat("a ", count)+";") }
	for _, x := range []struct {
		occ, nodes int
		e          api.Errno
	}{{31, 32, api.OK}, {32, 32, api.ErrSide}, {63, 16, api.OK}, {63, 17, api.ErrSide}, {64, 15, api.OK}, {64, 16, api.ErrSide}, {64, 0, api.OK}} {
		c, e := tensor.New(row(x.occ), graphOf(t, names("n", x.nodes)))
		if e != x.e || (c == nil) != (e != api.OK) {
			t.Error(x, e)
		}
	}
}

func TestNoNodes(t *testing.T) {
	x := closure(t, machine(t, "S = % | S S;"), graph.New())
	if l, e := x.Pairs(0); len(l) != 0 || e != api.OK || x.Len() != 0 {
		t.Error(l, e)
	}
	if _, e := x.Stands(0, 0); e != api.ErrNone {
		t.Error(e)
	}
}

// P19.4
func TestGrammars(t *testing.T) {
	n := sample.Noise(1)
	for range 150 {
		r := n.Grammar(1+n.Below(4), 4, []string{"S", "T", "U"}[:1+n.Below(3)], []string{"a", "b"})
		m, e := rsm.New(r)
		if e != api.OK {
			continue
		}
		nodes := names("n", 1+n.Below(6))
		l := n.Edges(n.Below(12), nodes, []string{"a", "b", "c"})
		g := graphOf(t, nodes, l...)
		x := closure(t, m, g)
		agree(t, x, m, g, sample.Solved(r, nodes, l))
		c, _ := wcnf.New(r)
		y, _ := azimov.New(c, m.Labels(), g)
		for nt := range m.Names() {
			mine, _ := x.Pairs(nt)
			other, _ := y.Pairs(nt)
			if !slices.Equal(mine, other) {
				t.Fatal(r, nt)
			}
		}
		before := slices.Collect(x.Facts())
		add := n.Edges(1, append(nodes, "m"), []string{"a", "b"})[0]
		g.AddEdge(add.From, add.Label, add.To)
		if got := slices.Collect(x.Facts()); !slices.Equal(got, before) {
			t.Fatal("what comes later counts")
		}
		z := closure(t, m, g)
		for _, f := range before {
			if is, _ := z.Has(f); !is {
				t.Fatal("a fact is lost")
			}
		}
	}
}

func TestWords(t *testing.T) {
	n := sample.Noise(2)
	for range 40 {
		r := n.Grammar(3, 4, []string{"S", "T"}, []string{"a", "b"})
		m, e := rsm.New(r)
		if e != api.OK || len(m.Labels()) == 0 {
			continue
		}
		c, _ := wcnf.New(r)
		for range 20 {
			var l []api.Edge
			var word []int
			nodes := names("n", 1+n.Below(8))
			for i := range len(nodes) - 1 {
				word = append(word, n.Below(len(m.Labels())))
				l = append(l, edge(nodes[i], m.Labels()[word[i]], nodes[i+1]))
			}
			x := closure(t, m, graphOf(t, nodes, l...))
			for nt := range m.Names() {
				want, _ := derive.Has(c, nt, word...)
				if is, e := x.Has(api.Fact{Nt: nt, From: 0, To: len(nodes) - 1}); is != want || e != api.OK {
					t.Fatal(r, word, is, want)
				}
			}
		}
	}
}

func TestGreat(t *testing.T) {
	// Just as many rows as there may be, and rounds one behind the other.
	nodes := names("n", 32)
	var l []api.Edge
	for i := range 32 {
		l = append(l, edge(nodes[i], "a", nodes[(i+1)%32]))
	}
	m := machine(t, "S = S S | a | % | (a S)* ; T = (T | S)+ a* (S T)? (a a | S)* ((a | T)+ S?)* a a a (a | a) T* S S a* S S T a a;")
	if m.States() != 32 {
		t.Fatal(m.States())
	}
	x := closure(t, m, graphOf(t, nodes, l...))
	if pairs, _ := x.Pairs(0); len(pairs) != 1024 {
		t.Error(len(pairs))
	}
	if l, e := x.Stands(0, 31); e != api.OK || len(l) != 4*32+2 {
		t.Error(len(l), e)
	}
}
