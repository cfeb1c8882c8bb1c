package graph_test

import (
	"cmp"
	"math"
	"slices"
	"strconv"
	"strings"
	"testing"

	"byway/api"
	"byway/edges"
	"byway/graph"
	"byway/quad"
	"byway/sample"
)

func edge(from, label, to string) api.Edge { return api.Edge{From: from, Label: label, To: to} }

func hop(label string, n int) api.Hop { return api.Hop{Label: label, Node: n} }

func cell(r, c int) api.Cell { return api.Cell{Row: r, Col: c} }

var long = strings.Repeat("a", 17)

// many are the names n0, n1 and so on.
func many(count int) []string {
	var l []string
	for i := range count {
		l = append(l, "n"+strconv.Itoa(i))
	}
	return l
}

func addNode(t *testing.T, g *graph.Graph, name string, want bool) {
	t.Helper()
	if is, e := g.AddNode(name); is != want || e != api.OK {
		t.Fatal(name, is, e)
	}
}

func addEdge(t *testing.T, g *graph.Graph, x api.Edge, want bool) {
	t.Helper()
	if is, e := g.AddEdge(x.From, x.Label, x.To); is != want || e != api.OK {
		t.Fatal(x, is, e)
	}
}

func byHop(a, b api.Hop) int {
	return cmp.Or(strings.Compare(a.Label, b.Label), a.Node-b.Node)
}

// agree holds all that a graph tells against its names, in order, and its edges.
func agree(t *testing.T, g *graph.Graph, names []string, l []api.Edge) {
	t.Helper()
	want, e := edges.Of(names, l)
	if e != api.OK {
		t.Fatal(e)
	}
	nodes, count := g.Len()
	if data := g.Data(); !edges.Same(data, want) || edges.Check(data) != api.OK || nodes != len(names) || count != len(want.Edges) {
		t.Fatal(data, want)
	}
	labels, _ := edges.Labels(want)
	if !slices.Equal(g.Nodes(), names) || !slices.Equal(g.Labels(), labels) {
		t.Fatal(g.Nodes(), names, g.Labels())
	}
	for i, name := range names {
		if n, e := g.Node(name); n != i || e != api.OK {
			t.Fatal(name, n, e)
		}
		var out, in []api.Hop
		for _, x := range want.Edges {
			if x.From == name {
				out = append(out, hop(x.Label, slices.Index(names, x.To)))
			}
			if x.To == name {
				in = append(in, hop(x.Label, slices.Index(names, x.From)))
			}
		}
		slices.SortFunc(out, byHop)
		slices.SortFunc(in, byHop)
		gotOut, e1 := g.Out(i)
		gotIn, e2 := g.In(i)
		if e1 != api.OK || e2 != api.OK || !slices.Equal(gotOut, out) || !slices.Equal(gotIn, in) {
			t.Fatal(name, gotOut, out, gotIn, in)
		}
	}
	agreeMatrices(t, g, names, want)
}

func agreeMatrices(t *testing.T, g *graph.Graph, names []string, want api.Edges) {
	t.Helper()
	cells := 0
	for _, label := range append(g.Labels(), "nolabel", "", "-") {
		for _, side := range []int{max(1, len(names)), 100, 1024} {
			m, _ := quad.New(side)
			for _, x := range want.Edges {
				if x.Label == label {
					m.Set(slices.Index(names, x.From), slices.Index(names, x.To))
				}
			}
			got, e := g.Matrix(label, side)
			if e != api.OK || !quad.Same(got, m) {
				t.Fatal(label, side, e)
			}
			if side == 100 {
				cells += got.Len()
			}
		}
	}
	if cells != len(want.Edges) {
		t.Fatal(cells)
	}
	for _, from := range names {
		for _, to := range names {
			for _, label := range []string{"x", "y"} {
				if g.Has(from, label, to) != slices.Contains(want.Edges, edge(from, label, to)) {
					t.Fatal(from, label, to)
				}
			}
		}
	}
}

// P17.1
func TestNewOf(t *testing.T) {
	agree(t, graph.New(), nil, nil)
	n := sample.Noise(1)
	for range 100 {
		nodes := many(12)[:1+n.Below(12)]
		value, _ := edges.Of(nodes[:n.Below(len(nodes)+1)], n.Edges(n.Below(20), nodes, []string{"x", "y"}))
		g, e := graph.Of(value)
		if e != api.OK {
			t.Fatal(e)
		}
		agree(t, g, value.Nodes, value.Edges)
		if len(value.Nodes) > 0 {
			value.Nodes[0] = "changed"
			if g.Nodes()[0] == "changed" {
				t.Fatal("the value is kept")
			}
		}
	}
	for _, wrong := range []api.Edges{{Nodes: []string{"b", "a"}}, {Nodes: []string{"-"}}, {Nodes: []string{"a"}, Edges: []api.Edge{edge("a", "x", "b")}}} {
		if g, e := graph.Of(wrong); g != nil || e != edges.Check(wrong) || e == api.OK {
			t.Error(g, e)
		}
	}
}

// P17.2, P17.3, P17.7
func TestGrows(t *testing.T) {
	n := sample.Noise(2)
	for range 60 {
		g := graph.New()
		var names []string
		var l []api.Edge
		come := func(name string) bool {
			if slices.Contains(names, name) {
				return false
			}
			names = append(names, name)
			return true
		}
		for range n.Below(60) {
			x := n.Edges(1, many(10), []string{"x", "y", "z"})[0]
			if n.Below(4) == 0 {
				addNode(t, g, x.From, come(x.From))
				continue
			}
			fresh := !slices.Contains(l, x)
			come(x.From)
			come(x.To)
			l = append(l, x)
			addEdge(t, g, x, fresh)
		}
		agree(t, g, names, l)
		refused(t, g)
		agree(t, g, names, l)
		other := graph.New()
		slices.Reverse(l)
		for _, x := range l {
			other.AddEdge(x.From, x.Label, x.To)
		}
		for _, name := range names {
			other.AddNode(name)
		}
		if !edges.Same(other.Data(), g.Data()) {
			t.Fatal("the order counts")
		}
	}
}

func refused(t *testing.T, g *graph.Graph) {
	t.Helper()
	for _, name := range []string{"", "-", "a b", " a", long, "ä"} {
		if is, e := g.AddNode(name); is || e != api.ErrName {
			t.Error(name, is, e)
		}
		for _, x := range []api.Edge{edge(name, "x", "fresh"), edge("fresh", "x", name), edge("fresh", name, "other")} {
			if is, e := g.AddEdge(x.From, x.Label, x.To); is || e != api.ErrName {
				t.Error(x, is, e)
			}
		}
		if n, e := g.Node(name); n != 0 || e != api.ErrNone {
			t.Error(name, n, e)
		}
	}
	for _, label := range []string{"X", "9", "_x"} {
		if is, e := g.AddEdge("n0", label, "n0"); is || e != api.ErrName {
			t.Error(label, is, e)
		}
	}
	nodes, _ := g.Len()
	for _, i := range []int{-1, nodes, math.MinInt, math.MaxInt} {
		out, e1 := g.Out(i)
		in, e2 := g.In(i)
		if out != nil || in != nil || e1 != api.ErrNone || e2 != api.ErrNone {
			t.Error(i, e1, e2)
		}
	}
	for _, side := range []int{nodes - 1, 0, -1, 1025, math.MinInt, math.MaxInt} {
		if m, e := g.Matrix("x", side); m != nil || e != api.ErrSide {
			t.Error(side, e)
		}
	}
	if g.Has("fresh", "x", "n0") || g.Has("n0", "x", "fresh") || g.Has("", "", "") || g.Has("n0", "", "n0") {
		t.Error("an edge that is none")
	}
}

func full(t *testing.T, names []string) *graph.Graph {
	t.Helper()
	g := graph.New()
	for _, name := range names {
		addNode(t, g, name, true)
	}
	return g
}

func wrong(t *testing.T, g *graph.Graph, x api.Edge, want api.Errno) {
	t.Helper()
	before, names := g.Data(), g.Nodes()
	if is, e := g.AddEdge(x.From, x.Label, x.To); is || e != want {
		t.Error(x, is, e, want)
	}
	if !edges.Same(g.Data(), before) || !slices.Equal(g.Nodes(), names) {
		t.Error("what is refused has changed something")
	}
}

func TestBounds(t *testing.T) {
	g := full(t, many(32))
	if is, e := g.AddNode("more"); is || e != api.ErrNodes {
		t.Error(is, e)
	}
	addNode(t, g, "n7", false)
	wrong(t, g, edge("n0", "x", "more"), api.ErrNodes)
	wrong(t, g, edge("more", "x", "more"), api.ErrNodes)
	addEdge(t, g, edge("n0", "x", "n1"), true)
	g = full(t, many(31))
	wrong(t, g, edge("more", "x", "again"), api.ErrNodes)
	addEdge(t, g, edge("n0", "x", "more"), true)

	g = graph.New()
	for i := range 16 {
		addEdge(t, g, edge("a", "x"+strconv.Itoa(i), "b"), true)
	}
	wrong(t, g, edge("a", "y", "b"), api.ErrLabels)
	wrong(t, g, edge("c", "y", "d"), api.ErrLabels)
	addEdge(t, g, edge("b", "x0", "a"), true)

	g = graph.New()
	for i := range 256 {
		addEdge(t, g, edge(string(rune('a'+i/16)), "x", string(rune('a'+i%16))), true)
	}
	wrong(t, g, edge("a", "y", "b"), api.ErrEdges)
	wrong(t, g, edge("q", "x", "r"), api.ErrEdges)
	addEdge(t, g, edge("a", "x", "a"), false)
	if is, e := g.AddNode("q"); is || e != api.ErrWide {
		t.Error(is, e)
	}
}

func TestWide(t *testing.T) {
	g := graph.New()
	name := long[:15]
	for i := range 38 {
		addEdge(t, g, edge(name+string(rune('a'+i/19)), long[:16], name+string(rune('a'+i%19))), true)
	}
	// 38 edges of 53 bytes are 2014 bytes: 34 are left.
	wrong(t, g, edge("x", long[:14], name+"z"), api.ErrWide)
	addNode(t, g, long[:13]+"_1", true)
	if is, e := g.AddNode(long[:14]); is || e != api.ErrWide {
		t.Error(is, e)
	}
	if is, e := g.AddNode(long[:14] + "b"); is || e != api.ErrWide {
		t.Error(is, e)
	}
	addNode(t, g, long[:13], true)
	if is, e := g.AddNode("q"); is || e != api.ErrWide {
		t.Error(is, e)
	}
	// An edge between the lone nodes takes just the 34 bytes that they took.
	wrong(t, g, edge(long[:13]+"_1", "xx", long[:13]), api.ErrWide)
	addEdge(t, g, edge(long[:13]+"_1", "x", long[:13]), true)
}

func TestNil(t *testing.T) {
	for _, g := range []*graph.Graph{nil, new(graph.Graph)} {
		nodes, count := g.Len()
		data := g.Data()
		if nodes != 0 || count != 0 || len(g.Nodes()) != 0 || len(g.Labels()) != 0 || g.Has("a", "x", "a") || g.Copy() != nil || len(data.Nodes) != 0 || len(data.Edges) != 0 {
			t.Error("a nil graph is something")
		}
		is1, e1 := g.AddNode("-")
		is2, e2 := g.AddEdge("-", "", "")
		n, e3 := g.Node("a")
		if is1 || is2 || n != 0 {
			t.Error("an answer beside an error")
		}
		_, e4 := g.Out(0)
		_, e5 := g.In(-1)
		_, e6 := g.Matrix("x", -1)
		for i, e := range []api.Errno{e1, e2, e3, e4, e5, e6} {
			if e != api.ErrNil {
				t.Error(i, e)
			}
		}
	}
}

// P17.6
func TestCopy(t *testing.T) {
	g := graph.New()
	addEdge(t, g, edge("b", "x", "a"), true)
	addNode(t, g, "c", true)
	o := g.Copy()
	addEdge(t, o, edge("b", "w", "d"), true)
	addEdge(t, g, edge("b", "z", "b"), true)
	addEdge(t, g, edge("a", "x", "e"), true)
	agree(t, o, []string{"b", "a", "c", "d"}, []api.Edge{edge("b", "x", "a"), edge("b", "w", "d")})
	agree(t, g, []string{"b", "a", "c", "e"}, []api.Edge{edge("b", "x", "a"), edge("b", "z", "b"), edge("a", "x", "e")})
	data := g.Data()
	data.Nodes[0], data.Edges[0].To = "q", "q"
	g.Nodes()[0] = "q"
	g.Labels()[0] = "q"
	hops, _ := g.Out(0)
	hops[0].Label = "q"
	m, _ := g.Matrix("x", 9)
	m.Set(5, 5)
	agree(t, g, []string{"b", "a", "c", "e"}, []api.Edge{edge("b", "x", "a"), edge("b", "z", "b"), edge("a", "x", "e")})
}

func TestExamples(t *testing.T) {
	g := graph.New()
	addEdge(t, g, edge("b", "x", "a"), true)
	addNode(t, g, "c", true)
	addEdge(t, g, edge("a", "y", "a"), true)
	agree(t, g, []string{"b", "a", "c"}, []api.Edge{edge("b", "x", "a"), edge("a", "y", "a")})
	if l, e := g.In(1); !slices.Equal(l, []api.Hop{hop("x", 0), hop("y", 1)}) || e != api.OK {
		t.Error(l, e)
	}
	if m, e := g.Matrix("x", 3); e != api.OK || m.Len() != 1 {
		t.Error(e)
	} else if is, _ := m.Get(0, 1); !is {
		t.Error("the cell", cell(0, 1))
	}
	if m, e := g.Matrix("x", 2); m != nil || e != api.ErrSide {
		t.Error(m, e)
	}
	addEdge(t, g, edge("b", "x", "a"), false)
	addNode(t, g, "c", false)
	o, _ := graph.Of(g.Data())
	if !slices.Equal(o.Nodes(), []string{"a", "b", "c"}) {
		t.Error(o.Nodes())
	}
}
