package far_test

import (
	"math"
	"slices"
	"strconv"
	"testing"

	"byway/api"
	"byway/azimov"
	"byway/far"
	"byway/graph"
	"byway/sample"
)

func nt(n int) api.Sym { return api.Sym{N: n} }

func label(n int) api.Sym { return api.Sym{Label: true, N: n} }

func prod(head int, body ...api.Sym) api.Prod { return api.Prod{Head: head, Body: body} }

func cnf(nts int, l ...api.Prod) api.Cnf { return api.Cnf{Nts: nts, Prods: l} }

func fact(nt, from, to int) api.Fact { return api.Fact{Nt: nt, From: from, To: to} }

var ab = []string{"a", "b"}

func names(prefix string, count int) []string {
	var l []string
	for i := range count {
		l = append(l, prefix+strconv.Itoa(i))
	}
	return l
}

func graphOf(nodes []string, l []api.Edge) *graph.Graph {
	g := graph.New()
	for _, n := range nodes {
		g.AddNode(n)
	}
	for _, x := range l {
		g.AddEdge(x.From, x.Label, x.To)
	}
	return g
}

func lengths(t *testing.T, c api.Cnf, labels []string, g *graph.Graph) *far.Lengths {
	t.Helper()
	l, e := far.New(c, labels, g)
	if e != api.OK || l == nil {
		t.Fatal(e)
	}
	return l
}

// plain is each fact's length, by rounds over all productions.
func plain(c api.Cnf, labels, nodes []string, edges []api.Edge) map[api.Fact]int {
	known := map[api.Fact]int{}
	more := true
	better := func(f api.Fact, n int) {
		if old, is := known[f]; !is || n < old {
			known[f] = n
			more = true
		}
	}
	for more {
		more = false
		for _, p := range c.Prods {
			for u, from := range nodes {
				if len(p.Body) == 0 {
					better(fact(p.Head, u, u), 0)
				}
				for v, to := range nodes {
					if len(p.Body) == 1 && slices.Contains(edges, api.Edge{From: from, Label: labels[p.Body[0].N], To: to}) {
						better(fact(p.Head, u, v), 1)
					}
					for w := range nodes {
						if len(p.Body) < 2 {
							continue
						}
						a, is := known[fact(p.Body[0].N, u, w)]
						b, also := known[fact(p.Body[1].N, w, v)]
						if is && also {
							better(fact(p.Head, u, v), min(a+b, 1<<40))
						}
					}
				}
			}
		}
	}
	return known
}

type told struct {
	f api.Fact
	n int
}

func all(l *far.Lengths) []told {
	var k []told
	for f, n := range l.All() {
		k = append(k, told{f, n})
	}
	return k
}

// agree holds all that is told against plain lengths.
func agree(t *testing.T, l *far.Lengths, nts, nodes int, want map[api.Fact]int) {
	t.Helper()
	var items []told
	most := 0
	for length := 0; length <= api.MaxPath; length++ {
		for i := range nts {
			for u := range nodes {
				for v := range nodes {
					if n, is := want[fact(i, u, v)]; is && n == length {
						items = append(items, told{fact(i, u, v), n})
						most = n
					}
				}
			}
		}
	}
	if got := all(l); !slices.Equal(got, items) || l.Most() != most {
		t.Fatal(got, items, l.Most())
	}
	for i := range nts {
		for u := range nodes {
			for v := range nodes {
				each(t, l, fact(i, u, v), want)
			}
		}
		for _, bound := range []int{0, 1, 2, 5, 63, 64} {
			var cells []api.Cell
			for u := range nodes {
				for v := range nodes {
					if n, is := want[fact(i, u, v)]; is && n <= bound {
						cells = append(cells, api.Cell{Row: u, Col: v})
					}
				}
			}
			if got, e := l.Within(i, bound); !slices.Equal(got, cells) || e != api.OK {
				t.Fatal(i, bound, got, cells, e)
			}
		}
	}
}

func each(t *testing.T, l *far.Lengths, f api.Fact, want map[api.Fact]int) {
	t.Helper()
	n, is := want[f]
	got, e := l.Of(f)
	isFar, e2 := l.Far(f)
	switch {
	case !is:
		if got != 0 || e != api.ErrApart || isFar || e2 != api.ErrApart {
			t.Fatal(f, got, e, e2)
		}
	case n > api.MaxPath:
		if got != 0 || e != api.ErrFar || !isFar || e2 != api.OK {
			t.Fatal(f, n, got, e, isFar, e2)
		}
	default:
		if got != n || e != api.OK || isFar || e2 != api.OK {
			t.Fatal(f, n, got, e, isFar, e2)
		}
	}
}

// P25.1, P25.2, P25.3
func TestLengths(t *testing.T) {
	n := sample.Noise(1)
	for range 200 {
		c := n.Weak(n.Below(16), 1+n.Below(5), 2)
		nodes := names("n", 1+n.Below(5))
		edges := n.Edges(n.Below(9), nodes, []string{"a", "b", "c"})
		g := graphOf(nodes, edges)
		l := lengths(t, c, ab, g)
		want := plain(c, ab, nodes, edges)
		agree(t, l, c.Nts, len(nodes), want)
		closure, _ := azimov.New(c, ab, g)
		for f := range closure.Facts() {
			if _, is := want[f]; !is {
				t.Fatal(f)
			}
		}
		add := n.Edges(1, nodes, ab)[0]
		g.AddEdge(add.From, add.Label, add.To)
		agree(t, l, c.Nts, len(nodes), want)
		shorter := lengths(t, c, ab, g)
		for f, n := range want {
			if k, e := shorter.Of(f); e != api.OK && n <= api.MaxPath || k > n {
				t.Fatal("a length is greater", f, n, k, e)
			}
		}
	}
}

// doubled are 0 of 1 1, 1 of 2 2 and so on, and the last one of label 0.
func doubled(count int) api.Cnf {
	c := cnf(count)
	for i := range count - 1 {
		c.Prods = append(c.Prods, prod(i, nt(i+1), nt(i+1)))
	}
	c.Prods = append(c.Prods, prod(count-1, label(0)))
	return c
}

func TestFar(t *testing.T) {
	loop := graphOf(nil, []api.Edge{{From: "n", Label: "a", To: "n"}})
	l := lengths(t, doubled(8), ab, loop)
	if n, e := l.Of(fact(0, 0, 0)); n != 0 || e != api.ErrFar {
		t.Error(n, e)
	}
	if n, e := l.Of(fact(1, 0, 0)); n != 64 || e != api.OK {
		t.Error(n, e)
	}
	if l.Most() != 64 {
		t.Error(l.Most())
	}
	// Just above the bound, and very far; and a short way of what is long besides.
	c := doubled(8)
	c.Nts = 10
	c.Prods = append(c.Prods, prod(8, nt(1), nt(7)), prod(9, nt(0), nt(0)), prod(9, nt(2), nt(2)))
	l = lengths(t, c, ab, loop)
	for i, want := range map[int]int{8: 65, 9: 64, 2: 32} {
		n, e := l.Of(fact(i, 0, 0))
		if want > 64 && e != api.ErrFar || want <= 64 && (n != want || e != api.OK) {
			t.Error(i, n, e)
		}
	}
	huge := lengths(t, doubled(512), ab, loop)
	if is, e := huge.Far(fact(0, 0, 0)); !is || e != api.OK || huge.Most() != 64 {
		t.Error(is, e)
	}
	if len(all(huge)) != 7 {
		t.Error(all(huge))
	}
	nodes := names("n", 32)
	var ring []api.Edge
	for i := range 32 {
		ring = append(ring, api.Edge{From: nodes[i], Label: "a", To: nodes[(i+1)%32]})
	}
	step := cnf(2, prod(0, nt(1), nt(0)), prod(0, nt(1), nt(1)), prod(1, label(0)))
	l = lengths(t, step, ab, graphOf(nodes, ring))
	agree(t, l, 2, 32, plain(step, ab, nodes, ring))
	if n, e := l.Of(fact(0, 0, 1)); n != 33 || e != api.OK || l.Most() != 33 {
		t.Error(n, e)
	}
}

func TestExamples(t *testing.T) {
	c := cnf(1, prod(0, nt(0), nt(0)), prod(0, label(0)))
	g := graphOf(nil, []api.Edge{{From: "n0", Label: "a", To: "n1"}, {From: "n1", Label: "a", To: "n0"}})
	l := lengths(t, c, []string{"a"}, g)
	want := []told{{fact(0, 0, 1), 1}, {fact(0, 1, 0), 1}, {fact(0, 0, 0), 2}, {fact(0, 1, 1), 2}}
	if got := all(l); !slices.Equal(got, want) || l.Most() != 2 {
		t.Error(got)
	}
	for range l.All() {
		break
	}
	if k, e := l.Within(0, 1); !slices.Equal(k, []api.Cell{{Row: 0, Col: 1}, {Row: 1, Col: 0}}) || e != api.OK {
		t.Error(k, e)
	}
	for _, most := range []int{-1, 65, math.MinInt, math.MaxInt} {
		for _, n := range []int{0, 1} {
			if k, e := l.Within(n, most); k != nil || e != api.ErrArg {
				t.Error(most, k, e)
			}
		}
	}
	for _, n := range []int{-1, 2, math.MinInt, math.MaxInt} {
		if k, e := l.Within(n, 1); k != nil || e != api.ErrNone {
			t.Error(n, k, e)
		}
		for _, f := range []api.Fact{fact(n, 0, 0), fact(0, n, 0), fact(0, 0, n)} {
			k, e1 := l.Of(f)
			is, e2 := l.Far(f)
			if k != 0 || is || e1 != api.ErrNone || e2 != api.ErrNone {
				t.Error(f, e1, e2)
			}
		}
	}
}

func TestErrors(t *testing.T) {
	for _, none := range []*graph.Graph{nil, new(graph.Graph)} {
		if l, e := far.New(cnf(0), nil, none); l != nil || e != api.ErrNil {
			t.Error(l, e)
		}
	}
	for _, c := range []api.Cnf{cnf(0), cnf(513), cnf(1, prod(0, label(2))), cnf(1, prod(0, nt(0)))} {
		if l, e := far.New(c, ab, graph.New()); l != nil || e != api.ErrArg {
			t.Error(l, e)
		}
	}
	if l, e := far.New(cnf(1), []string{"b", "a"}, graph.New()); l != nil || e != api.ErrArg {
		t.Error(l, e)
	}
	for _, l := range []*far.Lengths{nil, new(far.Lengths)} {
		_, e1 := l.Of(fact(-1, 0, 0))
		_, e2 := l.Far(fact(-1, 0, 0))
		k, e3 := l.Within(-1, -1)
		if e1 != api.ErrNil || e2 != api.ErrNil || e3 != api.ErrNil || k != nil || l.Most() != 0 || len(all(l)) != 0 {
			t.Error(e1, e2, e3)
		}
	}
	empty := lengths(t, cnf(1, prod(0)), nil, graph.New())
	if empty.Most() != 0 || len(all(empty)) != 0 {
		t.Error("lengths of no nodes")
	}
}

func TestGreat(t *testing.T) {
	n := sample.Noise(3)
	c := n.Weak(8192, 512, 2)
	nodes := names("n", 16)
	l := lengths(t, c, ab, graphOf(nodes, n.Edges(40, nodes, ab)))
	closure, _ := azimov.New(c, ab, graphOf(nodes, nil))
	if len(all(l)) < closure.Len() {
		t.Error("facts are lost")
	}
}
