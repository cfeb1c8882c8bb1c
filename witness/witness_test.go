package witness_test

import (
	"math"
	"slices"
	"strconv"
	"testing"

	"byway/api"
	"byway/derive"
	"byway/far"
	"byway/graph"
	"byway/sample"
	"byway/witness"
)

func nt(n int) api.Sym { return api.Sym{N: n} }

func label(n int) api.Sym { return api.Sym{Label: true, N: n} }

func prod(head int, body ...api.Sym) api.Prod { return api.Prod{Head: head, Body: body} }

func cnf(nts int, l ...api.Prod) api.Cnf { return api.Cnf{Nts: nts, Prods: l} }

func fact(nt, from, to int) api.Fact { return api.Fact{Nt: nt, From: from, To: to} }

func edge(from, label, to string) api.Edge { return api.Edge{From: from, Label: label, To: to} }

var ab = []string{"a", "b"}

func names(prefix string, count int) []string {
	var l []string
	for i := range count {
		l = append(l, prefix+strconv.Itoa(i))
	}
	return l
}

func graphOf(nodes []string, l []api.Edge) *graph.Graph {
	g := graph.New()
	for _, n := range nodes {
		g.AddNode(n)
	}
	for _, x := range l {
		g.AddEdge(x.From, x.Label, x.To)
	}
	return g
}

// ways are all of a fact with so many edges, in order.
func ways(c api.Cnf, g *graph.Graph, f api.Fact, length int) [][]api.Edge {
	nodes := g.Nodes()
	all := [][]api.Edge{nil}
	for range length {
		var next [][]api.Edge
		for _, w := range all {
			at := nodes[f.From]
			if len(w) > 0 {
				at = w[len(w)-1].To
			}
			for _, x := range g.Data().Edges { // these rise
				if x.From == at {
					next = append(next, slices.Concat(w, []api.Edge{x}))
				}
			}
		}
		all = next
	}
	return slices.DeleteFunc(all, func(w []api.Edge) bool {
		at := nodes[f.From]
		var word []int
		for _, x := range w {
			at = x.To
			word = append(word, slices.Index(ab, x.Label))
		}
		is, _ := derive.Has(c, f.Nt, word...)
		return !is || at != nodes[f.To]
	})
}

// P26.1, P26.2, P26.3, P26.4
func TestShortest(t *testing.T) {
	n := sample.Noise(1)
	for range 120 {
		c := n.Weak(3+n.Below(16), 1+n.Below(5), 2)
		nodes := names("n", 1+n.Below(4))
		slices.Reverse(nodes)
		g := graphOf(nodes, n.Edges(n.Below(9), nodes, []string{"a", "b", "c"}))
		l, _ := far.New(c, ab, g)
		for i := range c.Nts {
			for u := range nodes {
				for v := range nodes {
					checkFact(t, c, g, l, fact(i, u, v))
				}
			}
		}
	}
}

func checkFact(t *testing.T, c api.Cnf, g *graph.Graph, l *far.Lengths, f api.Fact) {
	t.Helper()
	length, want := l.Of(f)
	one, e1 := witness.One(c, ab, g, f)
	first, e2 := witness.First(c, ab, g, f)
	touched, e3 := witness.Touched(c, ab, g, f)
	if e1 != want || e2 != want || e3 != want {
		t.Fatal(f, want, e1, e2, e3)
	}
	if want != api.OK {
		if one != nil || first != nil || touched != nil {
			t.Fatal("an answer beside an error")
		}
		return
	}
	if length > 5 {
		if len(one) != length || len(first) != length {
			t.Fatal(f, one, first)
		}
		return
	}
	all := ways(c, g, f, length)
	if len(all) == 0 || !slices.Equal(first, all[0]) || !slices.ContainsFunc(all, func(w []api.Edge) bool { return slices.Equal(w, one) }) {
		t.Fatal(f, one, first, all)
	}
	nodes := []int{f.From, f.To}
	for _, w := range all {
		for _, x := range w {
			u, _ := g.Node(x.From)
			v, _ := g.Node(x.To)
			nodes = append(nodes, u, v)
		}
	}
	slices.Sort(nodes)
	if !slices.Equal(touched, slices.Compact(nodes)) {
		t.Fatal(f, touched, nodes)
	}
}

func TestExamples(t *testing.T) {
	c := cnf(1, prod(0, nt(0), nt(0)), prod(0, label(0)))
	g := graphOf(nil, []api.Edge{edge("n0", "a", "n1"), edge("n1", "a", "n0"), edge("n0", "a", "n0")})
	a := []string{"a"}
	if w, e := witness.One(c, a, g, fact(0, 0, 1)); !slices.Equal(w, []api.Edge{edge("n0", "a", "n1")}) || e != api.OK {
		t.Error(w, e)
	}
	if w, e := witness.First(c, a, g, fact(0, 1, 1)); !slices.Equal(w, []api.Edge{edge("n1", "a", "n0"), edge("n0", "a", "n1")}) || e != api.OK {
		t.Error(w, e)
	}
	if w, e := witness.First(c, a, g, fact(0, 0, 0)); !slices.Equal(w, []api.Edge{edge("n0", "a", "n0")}) || e != api.OK {
		t.Error(w, e)
	}
	if l, e := witness.Touched(c, a, g, fact(0, 1, 1)); !slices.Equal(l, []int{0, 1}) || e != api.OK {
		t.Error(l, e)
	}
	if l, e := witness.Touched(c, a, g, fact(0, 0, 0)); !slices.Equal(l, []int{0}) || e != api.OK {
		t.Error(l, e)
	}
}

// ask hands all three the same, and holds their errors against one.
func ask(t *testing.T, c api.Cnf, labels []string, g *graph.Graph, f api.Fact, want api.Errno) {
	t.Helper()
	one, e1 := witness.One(c, labels, g, f)
	first, e2 := witness.First(c, labels, g, f)
	touched, e3 := witness.Touched(c, labels, g, f)
	if e1 != want || e2 != want || e3 != want || one != nil || first != nil || touched != nil {
		t.Error(f, want, e1, e2, e3)
	}
}

func TestErrors(t *testing.T) {
	c := cnf(3, prod(0, nt(1), nt(1)), prod(1, label(0)), prod(2))
	g := graphOf(nil, []api.Edge{edge("n0", "a", "n1")})
	ask(t, cnf(0), nil, nil, fact(-1, 0, 0), api.ErrNil)
	ask(t, cnf(0), nil, new(graph.Graph), fact(-1, 0, 0), api.ErrNil)
	ask(t, cnf(0), nil, g, fact(-1, 0, 0), api.ErrArg)
	ask(t, cnf(1, prod(0, label(2))), ab, g, fact(-1, 0, 0), api.ErrArg)
	ask(t, c, []string{"b", "a"}, g, fact(-1, 0, 0), api.ErrArg)
	for _, n := range []int{-1, 3, math.MinInt, math.MaxInt} {
		ask(t, c, ab, g, fact(n, 0, 0), api.ErrNone)
		ask(t, c, ab, g, fact(0, n, 0), api.ErrNone)
		ask(t, c, ab, g, fact(0, 0, n), api.ErrNone)
	}
	ask(t, c, ab, g, fact(0, 0, 1), api.ErrApart)
	ask(t, c, ab, g, fact(2, 0, 1), api.ErrApart)
	if w, e := witness.First(c, ab, g, fact(2, 1, 1)); len(w) != 0 || e != api.OK {
		t.Error(w, e)
	}
}

func TestLong(t *testing.T) {
	// 0 of 1 1, 1 of 2 2 and so on: 64 edges, and 128.
	c := cnf(8)
	for i := range 7 {
		c.Prods = append(c.Prods, prod(i, nt(i+1), nt(i+1)))
	}
	c.Prods = append(c.Prods, prod(7, label(0)), prod(7, label(1)))
	nodes := names("n", 9)
	var l []api.Edge
	for i := range 9 {
		l = append(l, edge(nodes[i], "b", nodes[(i+1)%9]), edge(nodes[i], "a", nodes[(i+1)%9]))
	}
	g := graphOf(nodes, l)
	ask(t, c, ab, g, fact(0, 0, 128%9), api.ErrFar)
	first, e := witness.First(c, ab, g, fact(1, 0, 64%9))
	one, e2 := witness.One(c, ab, g, fact(1, 0, 64%9))
	if e != api.OK || e2 != api.OK || len(first) != 64 || len(one) != 64 {
		t.Fatal(e, e2)
	}
	for i, x := range first {
		if x != edge(nodes[i%9], "a", nodes[(i+1)%9]) {
			t.Error(i, x)
		}
	}
	if l, e := witness.Touched(c, ab, g, fact(1, 0, 64%9)); len(l) != 9 || e != api.OK {
		t.Error(l, e)
	}
}

// Ways of many facts, with empty ones in between.
func TestGreat(t *testing.T) {
	n := sample.Noise(2)
	c := n.Weak(400, 40, 2)
	nodes := names("n", 16)
	g := graphOf(nodes, n.Edges(30, nodes, ab))
	l, _ := far.New(c, ab, g)
	count := 0
	for f, length := range l.All() {
		if count++; count%500 != 0 {
			continue
		}
		first, e := witness.First(c, ab, g, f)
		one, e2 := witness.One(c, ab, g, f)
		if e != api.OK || e2 != api.OK || len(first) != length || len(one) != length {
			t.Fatal(f, e, e2)
		}
	}
}
