package gll_test

import (
	"math"
	"slices"
	"strconv"
	"strings"
	"testing"

	"byway/api"
	"byway/azimov"
	"byway/bnf"
	"byway/gll"
	"byway/graph"
	"byway/rsm"
	"byway/sample"
	"byway/tensor"
	"byway/wcnf"
)

func cell(r, c int) api.Cell { return api.Cell{Row: r, Col: c} }

func edge(from, label, to string) api.Edge { return api.Edge{From: from, Label: label, To: to} }

func names(prefix string, count int) []string {
	var l []string
	for i := range count {
		l = append(l, prefix+strconv.Itoa(i))
	}
	return l
}

func graphOf(t *testing.T, nodes []string, l ...api.Edge) *graph.Graph {
	t.Helper()
	g := graph.New()
	for _, n := range nodes {
		g.AddNode(n)
	}
	for _, x := range l {
		if _, e := g.AddEdge(x.From, x.Label, x.To); e != api.OK {
			t.Fatal(x, e)
		}
	}
	return g
}

func machine(t *testing.T, text string) *rsm.Machine {
	t.Helper()
	r, _, e := bnf.Parse(text)
	if e != api.OK {
		t.Fatal(text, e)
	}
	m, _ := rsm.New(r)
	return m
}

// exampleGraph is that of chapter 19's examples.
func exampleGraph(t *testing.T) *graph.Graph {
	return graphOf(t, nil, edge("x", "a", "y"), edge("y", "a", "x"), edge("x", "b", "z"), edge("z", "b", "x"))
}

func TestExamples(t *testing.T) {
	m, g := machine(t, "S = a S b | a b ;"), exampleGraph(t)
	if l, e := gll.Pairs(m, g, 0); !slices.Equal(l, []api.Cell{cell(0, 0), cell(1, 2)}) || e != api.OK {
		t.Error(l, e)
	}
	if l, e := gll.From(m, g, 0, 2); len(l) != 0 || e != api.OK {
		t.Error(l, e)
	}
	if l, e := gll.From(m, g, 0, 1); !slices.Equal(l, []int{2}) || e != api.OK {
		t.Error(l, e)
	}
	if l, e := gll.Called(m, g, 0, 0); !slices.Equal(l, []api.Cell{cell(0, 0), cell(0, 1)}) || e != api.OK {
		t.Error(l, e)
	}
	if l, e := gll.All(m, g); !slices.Equal(l, []api.Fact{{Nt: 0, From: 0, To: 0}, {Nt: 0, From: 1, To: 2}}) || e != api.OK {
		t.Error(l, e)
	}
}

// ask hands all calls the same, and holds their errors against one.
func ask(t *testing.T, m *rsm.Machine, g *graph.Graph, nt, u int, from, pairs, all api.Errno) {
	t.Helper()
	l1, e1 := gll.From(m, g, nt, u)
	l2, e2 := gll.Called(m, g, nt, u)
	l3, e3 := gll.Pairs(m, g, nt)
	l4, e4 := gll.All(m, g)
	if e1 != from || e2 != from || e3 != pairs || e4 != all {
		t.Error(nt, u, e1, e2, e3, e4)
	}
	if e1 != api.OK && l1 != nil || e2 != api.OK && l2 != nil || e3 != api.OK && l3 != nil || e4 != api.OK && l4 != nil {
		t.Error("an answer beside an error")
	}
}

func TestErrors(t *testing.T) {
	m, g := machine(t, "S = a S b | a b ;"), exampleGraph(t)
	for _, n := range []int{-1, 3, math.MinInt, math.MaxInt} {
		ask(t, m, g, n, 0, api.ErrNone, api.ErrNone, api.OK)
		ask(t, m, g, 0, n, api.ErrNone, api.OK, api.OK)
	}
	ask(t, m, g, 1, 0, api.ErrNone, api.ErrNone, api.OK)
	for _, none := range []*rsm.Machine{nil, new(rsm.Machine)} {
		ask(t, none, g, -1, -1, api.ErrNil, api.ErrNil, api.ErrNil)
	}
	for _, none := range []*graph.Graph{nil, new(graph.Graph)} {
		ask(t, m, none, -1, -1, api.ErrNil, api.ErrNil, api.ErrNil)
	}
	ask(t, m, graph.New(), 0, 0, api.ErrNone, api.OK, api.OK)
	row := func(count int) *rsm.Machine { return machine(t, "S = "+strings.Repeat("a ", count)+";") }
	big := graphOf(t, names("n", 32))
	ask(t, row(31), big, 0, 0, api.OK, api.OK, api.OK)
	ask(t, row(32), big, -1, -1, api.ErrSide, api.ErrSide, api.ErrSide)
	ask(t, row(63), graphOf(t, names("n", 16)), 0, 15, api.OK, api.OK, api.OK)
	ask(t, row(64), graphOf(t, names("n", 16)), 0, 0, api.ErrSide, api.ErrSide, api.ErrSide)
}

// called is the least list that Called asks for, by stands of tensor.
func called(t *testing.T, m *rsm.Machine, x *tensor.Closure, nt, u int) []api.Cell {
	t.Helper()
	l := []api.Cell{cell(nt, u)}
	for i := 0; i < len(l); i++ {
		stands, e := x.Stands(l[i].Row, l[i].Col)
		if e != api.OK {
			t.Fatal(e)
		}
		for _, c := range stands {
			for s := range m.Out(c.Row) {
				if k := cell(s.N, c.Col); !s.Label && !slices.Contains(l, k) {
					l = append(l, k)
				}
			}
		}
	}
	slices.SortFunc(l, func(a, b api.Cell) int { return (a.Row-b.Row)*1000 + a.Col - b.Col })
	return l
}

// P21.1, P21.2, P21.3
func TestGrammars(t *testing.T) {
	n := sample.Noise(1)
	for range 200 {
		r := n.Grammar(1+n.Below(4), 4, []string{"S", "T", "U"}[:1+n.Below(3)], []string{"a", "b"})
		m, e := rsm.New(r)
		if e != api.OK {
			continue
		}
		nodes := names("n", 1+n.Below(6))
		l := n.Edges(n.Below(12), nodes, []string{"a", "b", "c"})
		g := graphOf(t, nodes, l...)
		x, _ := tensor.New(m, g)
		c, _ := wcnf.New(r)
		y, _ := azimov.New(c, m.Labels(), g)
		want := sample.Solved(r, nodes, l)
		var facts []api.Fact
		for nt, name := range m.Names() {
			pairs, e := gll.Pairs(m, g, nt)
			if e != api.OK || !slices.Equal(pairs, want[name].Pairs()) {
				t.Fatal(r, name, pairs, want[name].Pairs(), e)
			}
			var from []api.Cell
			for u := range nodes {
				ends, e := gll.From(m, g, nt, u)
				if e != api.OK || !slices.IsSorted(ends) {
					t.Fatal(ends, e)
				}
				for _, v := range ends {
					from = append(from, cell(u, v))
					facts = append(facts, api.Fact{Nt: nt, From: u, To: v})
				}
				if l, e := gll.Called(m, g, nt, u); e != api.OK || !slices.Equal(l, called(t, m, x, nt, u)) {
					t.Fatal(r, nt, u, l, e)
				}
			}
			other, _ := y.Pairs(nt)
			if !slices.Equal(from, pairs) || !slices.Equal(other, pairs) {
				t.Fatal(from, other, pairs)
			}
		}
		all, e := gll.All(m, g)
		if e != api.OK || !slices.Equal(all, facts) || !slices.Equal(all, slices.Collect(x.Facts())) {
			t.Fatal(all, facts, e)
		}
	}
}

func TestHard(t *testing.T) {
	// Left recursion, hidden left recursion, empty words, cycles.
	for _, text := range []string{"S = S S S | S S | a | %;", "S = A S a | a; A = % | S;", "S = T; T = S | U; U = T a | %;", "S = S;", "S = (S | T)* a; T = S? T?;"} {
		r, _, _ := bnf.Parse(text)
		m, _ := rsm.New(r)
		nodes := names("n", 9)
		l := []api.Edge{edge("n0", "a", "n0"), edge("n8", "b", "n8")}
		for i := range 8 {
			l = append(l, edge(nodes[i], "a", nodes[(i+3)%8]))
		}
		all, e := gll.All(m, graphOf(t, nodes, l...))
		want := sample.Solved(r, nodes, l)
		var facts []api.Fact
		for nt, name := range m.Names() {
			for _, c := range want[name].Pairs() {
				facts = append(facts, api.Fact{Nt: nt, From: c.Row, To: c.Col})
			}
		}
		if e != api.OK || !slices.Equal(all, facts) {
			t.Error(text, all, facts, e)
		}
	}
}

func TestGreat(t *testing.T) {
	nodes := names("n", 32)
	g := graph.New()
	for i := range 32 {
		g.AddEdge(nodes[i], "a", nodes[(i+1)%32])
		g.AddEdge(nodes[i], "a", nodes[(i+5)%32])
	}
	m := machine(t, "S = S S | a | % | (a S)* ; T = (T | S)+ a* (S T)? (a a | S)* ((a | T)+ S?)* a a a (a | a) T* S S a* S S T a a;")
	if all, e := gll.All(m, g); len(all) != 1024 || e != api.OK {
		t.Error(len(all), e)
	}
}
