package paths_test

import (
	"math"
	"slices"
	"strconv"
	"testing"

	"byway/api"
	"byway/bnf"
	"byway/check"
	"byway/derive"
	"byway/far"
	"byway/graph"
	"byway/paths"
	"byway/rsm"
	"byway/sample"
	"byway/wcnf"
)

func nt(n int) api.Sym { return api.Sym{N: n} }

func label(n int) api.Sym { return api.Sym{Label: true, N: n} }

func prod(head int, body ...api.Sym) api.Prod { return api.Prod{Head: head, Body: body} }

func cnf(nts int, l ...api.Prod) api.Cnf { return api.Cnf{Nts: nts, Prods: l} }

func fact(nt, from, to int) api.Fact { return api.Fact{Nt: nt, From: from, To: to} }

func edge(from, label, to string) api.Edge { return api.Edge{From: from, Label: label, To: to} }

var ab = []string{"a", "b"}

func names(prefix string, count int) []string {
	var l []string
	for i := range count {
		l = append(l, prefix+strconv.Itoa(i))
	}
	return l
}

func graphOf(nodes []string, l []api.Edge) *graph.Graph {
	g := graph.New()
	for _, n := range nodes {
		g.AddNode(n)
	}
	for _, x := range l {
		g.AddEdge(x.From, x.Label, x.To)
	}
	return g
}

func same(a, b [][]api.Edge) bool { return slices.EqualFunc(a, b, slices.Equal) }

// ways are all of a fact with at most so many edges, in order.
func ways(c api.Cnf, g *graph.Graph, f api.Fact, most int) [][]api.Edge {
	nodes := g.Nodes()
	var all [][]api.Edge
	last := [][]api.Edge{nil}
	for range most + 1 {
		var next [][]api.Edge
		for _, w := range last {
			at := nodes[f.From]
			var word []int
			for _, x := range w {
				at = x.To
				word = append(word, slices.Index(ab, x.Label))
			}
			if is, _ := derive.Has(c, f.Nt, word...); is && at == nodes[f.To] {
				all = append(all, w)
			}
			for _, x := range g.Data().Edges { // these rise
				if x.From == at {
					next = append(next, slices.Concat(w, []api.Edge{x}))
				}
			}
		}
		last = next
	}
	return all
}

// agree holds all three calls against the list of all ways.
func agree(t *testing.T, c api.Cnf, g *graph.Graph, f api.Fact, edges, most int, all [][]api.Edge) {
	t.Helper()
	want := all[:min(most, len(all))]
	more := len(all) > most
	l, cut, e := paths.All(c, ab, g, f, edges, most)
	if e != api.OK || cut != more || !same(l, want) {
		t.Fatal(c, f, edges, most, l, want, cut, e)
	}
	if n, cut, e := paths.Count(c, ab, g, f, edges, most); n != len(want) || cut != more || e != api.OK {
		t.Fatal(n, cut, e)
	}
	seq, e := paths.Each(c, ab, g, f, edges, most)
	if e != api.OK {
		t.Fatal(e)
	}
	for range 2 {
		k := 0
		for i, w := range seq {
			if i != k || !slices.Equal(w, want[i]) {
				t.Fatal(i, w)
			}
			for j := range w {
				w[j] = api.Edge{}
			}
			k++
		}
		if k != len(want) {
			t.Fatal(k)
		}
		for range seq {
			break
		}
	}
}

// P28.1, P28.2, P28.3, P28.4
func TestWays(t *testing.T) {
	n := sample.Noise(1)
	for range 150 {
		c := n.Weak(3+n.Below(14), 1+n.Below(5), 2)
		nodes := names("n", 1+n.Below(4))
		slices.Reverse(nodes)
		g := graphOf(nodes, n.Edges(n.Below(7), nodes, []string{"a", "b", "c"}))
		l, _ := far.New(c, ab, g)
		for range 6 {
			f := fact(n.Below(c.Nts), n.Below(len(nodes)), n.Below(len(nodes)))
			edges := n.Below(5)
			all := ways(c, g, f, edges)
			for _, most := range []int{0, 1, 2, 5, 64} {
				agree(t, c, g, f, edges, most, all)
			}
			length, e := l.Of(f)
			if short := e == api.OK && length <= edges; short != (len(all) > 0) || short && len(all[0]) != length {
				t.Fatal(f, length, e, all)
			}
		}
	}
}

func TestExamples(t *testing.T) {
	c := cnf(1, prod(0, nt(0), nt(0)), prod(0, label(0)))
	x, y := edge("n0", "a", "n1"), edge("n1", "a", "n0")
	g := graphOf(nil, []api.Edge{x, y})
	one, three := []api.Edge{x}, []api.Edge{x, y, x}
	for _, k := range []struct {
		f           api.Fact
		edges, most int
		want        [][]api.Edge
		more        bool
	}{{fact(0, 0, 1), 3, 9, [][]api.Edge{one, three}, false}, {fact(0, 0, 1), 3, 1, [][]api.Edge{one}, true}, {fact(0, 0, 1), 8, 0, nil, true}, {fact(0, 0, 0), 1, 9, nil, false}, {fact(0, 0, 1), 0, 0, nil, false}, {fact(0, 0, 1), 3, 2, [][]api.Edge{one, three}, false}} {
		l, more, e := paths.All(c, ab, g, k.f, k.edges, k.most)
		if !same(l, k.want) || more != k.more || e != api.OK {
			t.Error(k, l, more, e)
		}
	}
	if n, more, e := paths.Count(c, ab, g, fact(0, 0, 1), 8, 64); n != 4 || more || e != api.OK {
		t.Error(n, more, e)
	}
}

// ask hands all three the same, and holds their errors against one.
func ask(t *testing.T, c api.Cnf, labels []string, g *graph.Graph, f api.Fact, edges, most int, want api.Errno) {
	t.Helper()
	l, more, e1 := paths.All(c, labels, g, f, edges, most)
	n, also, e2 := paths.Count(c, labels, g, f, edges, most)
	seq, e3 := paths.Each(c, labels, g, f, edges, most)
	if e1 != want || e2 != want || e3 != want {
		t.Error(f, edges, most, e1, e2, e3)
	}
	if want != api.OK && (l != nil || more || n != 0 || also || seq != nil) {
		t.Error("an answer beside an error")
	}
}

func TestErrors(t *testing.T) {
	c := cnf(2, prod(0, nt(1), nt(1)), prod(1, label(0)))
	g := graphOf(nil, []api.Edge{edge("n0", "a", "n1")})
	ask(t, cnf(0), nil, nil, fact(-1, 0, 0), -1, -1, api.ErrNil)
	ask(t, cnf(0), nil, new(graph.Graph), fact(-1, 0, 0), -1, -1, api.ErrNil)
	ask(t, cnf(0), nil, g, fact(-1, 0, 0), -1, -1, api.ErrArg)
	ask(t, c, []string{"b", "a"}, g, fact(-1, 0, 0), 9, 9, api.ErrArg)
	for _, n := range []int{-1, 2, math.MinInt, math.MaxInt} {
		ask(t, c, ab, g, fact(n, 0, 0), -1, 65, api.ErrNone)
		ask(t, c, ab, g, fact(0, n, 0), 9, -1, api.ErrNone)
		ask(t, c, ab, g, fact(0, 0, n), 9, 9, api.ErrNone)
	}
	for _, f := range []api.Fact{fact(1, 0, 1), fact(0, 0, 1)} {
		for _, n := range []int{-1, math.MinInt, math.MaxInt} {
			ask(t, c, ab, g, f, n, 0, api.ErrBound)
			ask(t, c, ab, g, f, 0, n, api.ErrBound)
		}
		ask(t, c, ab, g, f, 9, 1, api.ErrBound)
		ask(t, c, ab, g, f, 8, 65, api.ErrBound)
		ask(t, c, ab, g, f, 8, 64, api.OK)
		ask(t, c, ab, g, f, 0, 0, api.OK)
	}
}

// Many ways, many derivations of each, empty words: the first ones by names.
func TestMany(t *testing.T) {
	r, _, _ := bnf.Parse("S = S S | a | b | % | (a S)* | T ; T = S T | T S | % | c ;")
	m, _ := rsm.New(r)
	c, _ := wcnf.New(r)
	nodes := names("n", 6)
	var l []api.Edge
	for _, u := range nodes {
		for _, v := range nodes {
			l = append(l, edge(u, "a", v), edge(u, "b", v), edge(u, "c", v))
		}
	}
	g := graphOf(nodes, l)
	for edges := range 9 {
		list, more, e := paths.All(c, m.Labels(), g, fact(0, 2, 2), edges, 64)
		if e != api.OK || more != (edges > 2) || !check.Rise(list...) {
			t.Fatal(edges, len(list), more, e)
		}
		want := []int{1, 4, 58, 64, 64, 64, 64, 64, 64}[edges] // 1 + 3 + 3 * 6 * 3
		if len(list) != want {
			t.Error(edges, len(list))
		}
		for i, w := range list {
			if is, e := check.Right(r, g.Data(), "S", "n2", "n2", w); !is || e != api.OK {
				t.Fatal(i, w, e)
			}
		}
	}
	// Of just eight edges: those between two nodes, one way there alone.
	lane := graphOf(names("n", 9), nil)
	for i := range 8 {
		lane.AddEdge("n"+strconv.Itoa(i), "b", "n"+strconv.Itoa(i+1))
		lane.AddEdge("n"+strconv.Itoa(i), "a", "n"+strconv.Itoa(i+1))
	}
	list, more, e := paths.All(c, m.Labels(), lane, fact(0, 0, 8), 8, 64)
	if e != api.OK || !more || len(list) != 64 || !check.Rise(list...) || list[63][1].Label != "a" || list[63][2].Label != "b" || list[0][7].Label != "a" {
		t.Error(len(list), more, e)
	}
}

// Rings of nonterminals that hand their ways round, by an empty one on either
// side, into which two others lead at unlike places.
func TestRings(t *testing.T) {
	g := graphOf(nil, nil)
	for _, l := range []string{"a", "b", "c"} {
		g.AddEdge("u", l, "v")
	}
	for _, l := range []string{"x", "y"} {
		g.AddEdge("v", l, "w")
	}
	labels := []string{"a", "b", "c", "x", "y"}
	for _, ahead := range []bool{true, false} {
		of := func(head, whole int) api.Prod {
			if ahead {
				return prod(head, nt(6), nt(whole))
			}
			return prod(head, nt(whole), nt(6))
		}
		// 0 of 3 4 and of 2 5; 1 has a, 2 has b, 3 has c, and 1 of 2, 2 of 3, 3 of 1; 6 is empty.
		c := cnf(7, prod(0, nt(3), nt(4)), prod(0, nt(2), nt(5)), of(1, 2), of(2, 3), of(3, 1), prod(1, label(0)), prod(2, label(1)), prod(3, label(2)), prod(4, label(3)), prod(5, label(4)), prod(6))
		var want [][]api.Edge
		for _, l := range []string{"a", "b", "c"} {
			for _, k := range []string{"x", "y"} {
				want = append(want, []api.Edge{edge("u", l, "v"), edge("v", k, "w")})
			}
		}
		for most := range 8 {
			list, more, e := paths.All(c, labels, g, fact(0, 0, 2), 2, most)
			if e != api.OK || more != (most < 6) || !same(list, want[:min(most, 6)]) {
				t.Error(ahead, most, list, more, e)
			}
		}
	}
}

// What comes from another nonterminal stands behind what is there already.
func TestBehind(t *testing.T) {
	g := graphOf(nil, []api.Edge{edge("u", "a", "v"), edge("u", "b", "v")})
	c := cnf(3, prod(0, nt(1), nt(2)), prod(0, label(0)), prod(1, label(1)), prod(2))
	want := [][]api.Edge{{edge("u", "a", "v")}, {edge("u", "b", "v")}}
	for most := range 4 {
		agree(t, c, g, fact(0, 0, 1), 3, most, want)
	}
}

// All edges that there may be: their places take all of a byte.
func TestAllEdges(t *testing.T) {
	g := graph.New()
	for i := range 256 {
		if is, e := g.AddEdge(string(rune('a'+i/16)), "a", string(rune('a'+i%16))); !is || e != api.OK {
			t.Fatal(e)
		}
	}
	c := cnf(2, prod(0, nt(1), nt(0)), prod(0, label(0)), prod(1, label(0)))
	list, more, e := paths.All(c, ab, g, fact(0, 15, 15), 8, 64)
	if e != api.OK || !more || len(list) != 64 || !check.Rise(list...) {
		t.Fatal(len(list), more, e)
	}
	want := [][]api.Edge{{edge("p", "a", "p")}}
	for i := range 16 {
		mid := string(rune('a' + i))
		want = append(want, []api.Edge{edge("p", "a", mid), edge(mid, "a", "p")})
	}
	if !same(list[:17], want) {
		t.Error(list[:17])
	}
}

func TestGreat(t *testing.T) {
	// As many nodes and states as a session may have, and very many ways.
	r, _, _ := bnf.Parse("S = S S | a | % | (a S)* ; T = (T | S)+ a* (S T)? (a a | S)* ((a | T)+ S?)* a a a (a | a) T* S S a* S S S a a;")
	m, _ := rsm.New(r)
	c, _ := wcnf.New(r)
	g := graph.New()
	for i := range 32 {
		g.AddEdge("n"+strconv.Itoa(i), "a", "n"+strconv.Itoa((i+1)%32))
		g.AddEdge("n"+strconv.Itoa(i), "a", "n"+strconv.Itoa((i+5)%32))
		g.AddEdge("n"+strconv.Itoa(i), "a", "n"+strconv.Itoa((i+9)%32))
	}
	list, _, e := paths.All(c, m.Labels(), g, fact(1, 0, 8), 8, 64)
	if e != api.OK || !check.Rise(list...) || len(list) == 0 {
		t.Error(len(list), e)
	}
}
