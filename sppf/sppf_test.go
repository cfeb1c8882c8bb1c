package sppf_test

import (
	"math"
	"slices"
	"strconv"
	"testing"

	"byway/api"
	"byway/azimov"
	"byway/graph"
	"byway/sample"
	"byway/sppf"
)

func nt(n int) api.Sym { return api.Sym{N: n} }

func label(n int) api.Sym { return api.Sym{Label: true, N: n} }

func prod(head int, body ...api.Sym) api.Prod { return api.Prod{Head: head, Body: body} }

func cnf(nts int, l ...api.Prod) api.Cnf { return api.Cnf{Nts: nts, Prods: l} }

func fact(nt, from, to int) api.Fact { return api.Fact{Nt: nt, From: from, To: to} }

func leaf(spot, prod int) api.Pack { return api.Pack{Spot: spot, Prod: prod, Left: -1, Right: -1} }

func names(prefix string, count int) []string {
	var l []string
	for i := range count {
		l = append(l, prefix+strconv.Itoa(i))
	}
	return l
}

func graphOf(nodes []string, l []api.Edge) *graph.Graph {
	g := graph.New()
	for _, n := range nodes {
		g.AddNode(n)
	}
	for _, x := range l {
		g.AddEdge(x.From, x.Label, x.To)
	}
	return g
}

func same(x, y api.Forest) bool {
	return slices.Equal(x.Spots, y.Spots) && slices.Equal(x.Packs, y.Packs)
}

// example is the chapter's grammar and graph.
func example() (api.Cnf, *graph.Graph) {
	return cnf(1, prod(0, nt(0), nt(0)), prod(0, label(0))), graphOf(nil, []api.Edge{{From: "n0", Label: "a", To: "n1"}, {From: "n1", Label: "a", To: "n0"}})
}

// plain is a fact's forest, by loops over all facts.
func plain(c api.Cnf, labels []string, nodes []string, edges []api.Edge, f api.Fact) api.Forest {
	known := sample.Facts(c, labels, nodes, edges)
	has := func(f api.Fact) bool { return known[f.Nt][f.From][f.To] }
	if !has(f) {
		return api.Forest{}
	}
	reached := map[api.Fact]bool{f: true}
	parts := func(f api.Fact, tell func(prod, mid int, l ...api.Fact)) {
		for i, p := range c.Prods {
			if p.Head != f.Nt {
				continue
			}
			switch len(p.Body) {
			case 0:
				if f.From == f.To {
					tell(i, 0)
				}
			case 1:
				if slices.Contains(edges, api.Edge{From: nodes[f.From], Label: labels[p.Body[0].N], To: nodes[f.To]}) {
					tell(i, 0)
				}
			default:
				for w := range nodes {
					b, c := fact(p.Body[0].N, f.From, w), fact(p.Body[1].N, w, f.To)
					if has(b) && has(c) {
						tell(i, w, b, c)
					}
				}
			}
		}
	}
	for count := 0; count != len(reached); {
		count = len(reached)
		for f := range reached {
			parts(f, func(_, _ int, l ...api.Fact) {
				for _, p := range l {
					reached[p] = true
				}
			})
		}
	}
	var x api.Forest
	for n := range c.Nts {
		for u := range nodes {
			for v := range nodes {
				if reached[fact(n, u, v)] {
					x.Spots = append(x.Spots, fact(n, u, v))
				}
			}
		}
	}
	for i, f := range x.Spots {
		parts(f, func(prod, mid int, l ...api.Fact) {
			p := leaf(i, prod)
			if len(l) > 0 {
				p.Mid, p.Left, p.Right = mid, slices.Index(x.Spots, l[0]), slices.Index(x.Spots, l[1])
			}
			x.Packs = append(x.Packs, p)
		})
	}
	return x
}

// P22.1
func TestExamples(t *testing.T) {
	c, g := example()
	x, e := sppf.Of(c, []string{"a"}, g, fact(0, 0, 1))
	if e != api.OK || !slices.Equal(x.Spots, []api.Fact{fact(0, 0, 0), fact(0, 0, 1), fact(0, 1, 0), fact(0, 1, 1)}) || len(x.Packs) != 10 {
		t.Error(x, e)
	}
	want := []api.Pack{{Spot: 0, Prod: 0, Mid: 0, Left: 0, Right: 0}, {Spot: 0, Prod: 0, Mid: 1, Left: 1, Right: 2}, {Spot: 1, Prod: 0, Mid: 0, Left: 0, Right: 1}, {Spot: 1, Prod: 0, Mid: 1, Left: 1, Right: 3}, leaf(1, 1)}
	if !slices.Equal(x.Packs[:5], want) {
		t.Error(x.Packs)
	}
	for _, f := range []api.Fact{fact(0, 0, 2), fact(0, 2, 0), fact(1, 0, 0), fact(-1, 0, 0), fact(0, -1, 0), fact(0, 0, math.MinInt), fact(math.MaxInt, 0, 0)} {
		if x, e := sppf.Of(c, []string{"a"}, g, f); e != api.ErrNone || !same(x, api.Forest{}) {
			t.Error(f, x, e)
		}
	}
	if x, e := sppf.Of(cnf(1), []string{"a"}, g, fact(0, 0, 0)); e != api.OK || !same(x, api.Forest{}) {
		t.Error(x, e)
	}
	for _, labels := range [][]string{nil, {"b", "a"}} {
		if x, e := sppf.Of(c, labels, g, fact(9, 9, 9)); e != api.ErrArg || !same(x, api.Forest{}) {
			t.Error(x, e)
		}
	}
	for _, none := range []*graph.Graph{nil, new(graph.Graph)} {
		if x, e := sppf.Of(cnf(0), nil, none, fact(9, 9, 9)); e != api.ErrNil || !same(x, api.Forest{}) {
			t.Error(x, e)
		}
	}
}

// P22.1, P22.4
func TestOf(t *testing.T) {
	n := sample.Noise(1)
	labels := []string{"a", "b"}
	for range 150 {
		c := n.Weak(n.Below(12), 1+n.Below(4), 2)
		nodes := names("n", 1+n.Below(5))
		edges := n.Edges(n.Below(10), nodes, []string{"a", "b", "c"})
		g := graphOf(nodes, edges)
		closure, _ := azimov.New(c, labels, g)
		for i := range c.Nts {
			f := fact(i, n.Below(len(nodes)), n.Below(len(nodes)))
			x, e := sppf.Of(c, labels, g, f)
			if e != api.OK || !same(x, plain(c, labels, nodes, edges, f)) || sppf.Check(x) != api.OK {
				t.Fatal(c, f, x, e)
			}
			if is, _ := closure.Has(f); is != (len(x.Spots) > 0) {
				t.Fatal(f, is)
			}
			for _, s := range x.Spots {
				if is, _ := closure.Has(s); !is {
					t.Fatal(s)
				}
				part, _ := sppf.Of(c, labels, g, s)
				for _, k := range part.Spots {
					if _, is := sppf.Find(x, k); !is {
						t.Fatal("a part's spot is no spot", k)
					}
				}
			}
			slices.Reverse(edges)
			if y, _ := sppf.Of(c, labels, graphOf(nodes, edges), f); !same(x, y) {
				t.Fatal("the order of edges counts")
			}
		}
	}
}

// P22.2
func TestCheck(t *testing.T) {
	c, g := example()
	good, _ := sppf.Of(c, []string{"a"}, g, fact(0, 0, 1))
	copied := func() api.Forest {
		return api.Forest{Spots: slices.Clone(good.Spots), Packs: slices.Clone(good.Packs)}
	}
	for i, x := range []api.Forest{good, {}, {Spots: []api.Fact{fact(-3, math.MaxInt, math.MinInt)}, Packs: []api.Pack{leaf(0, math.MaxInt)}}, {Spots: []api.Fact{fact(0, 5, 5)}, Packs: []api.Pack{{Prod: 1, Mid: 5}, {Prod: 2, Mid: 5}}}} {
		if e := sppf.Check(x); e != api.OK {
			t.Error(i, e)
		}
	}
	for i, spoil := range []func(x *api.Forest){
		func(x *api.Forest) { x.Spots[0], x.Spots[1] = x.Spots[1], x.Spots[0] },
		func(x *api.Forest) { x.Spots[1] = x.Spots[0] },
		func(x *api.Forest) { x.Spots = append(x.Spots, fact(9, 9, 9)) },
		func(x *api.Forest) { x.Spots = x.Spots[:3] },
		func(x *api.Forest) { x.Spots = nil },
		func(x *api.Forest) { x.Packs = nil },
		func(x *api.Forest) { x.Packs = x.Packs[5:] },
		func(x *api.Forest) { x.Packs[0], x.Packs[1] = x.Packs[1], x.Packs[0] },
		func(x *api.Forest) { x.Packs[1] = x.Packs[0] },
		func(x *api.Forest) { x.Packs[0].Spot = -1 },
		func(x *api.Forest) { x.Packs[9].Spot = 4 },
		func(x *api.Forest) { x.Packs[9].Spot = math.MaxInt },
		func(x *api.Forest) { x.Packs[0].Prod = -1 },
		func(x *api.Forest) { x.Packs[4].Mid = 1 },
		func(x *api.Forest) { x.Packs[4].Mid = -1 },
		func(x *api.Forest) { x.Packs[4].Left = 0 },
		func(x *api.Forest) { x.Packs[4].Right = 0 },
		func(x *api.Forest) { x.Packs[4].Left, x.Packs[4].Right = -2, -2 },
		func(x *api.Forest) { x.Packs[0].Left = -1 },
		func(x *api.Forest) { x.Packs[0].Right = 4 },
		func(x *api.Forest) { x.Packs[0].Right = math.MinInt },
		func(x *api.Forest) { x.Packs[0].Left = 1 },
		func(x *api.Forest) { x.Packs[0].Left = 2 },
		func(x *api.Forest) { x.Packs[0].Right = 1 },
		func(x *api.Forest) { x.Packs[0].Right = 2 },
		func(x *api.Forest) { x.Packs[1].Mid = 2 },
	} {
		x := copied()
		spoil(&x)
		l, e := sppf.Uses(x, 0)
		if sppf.Check(x) != api.ErrForest || e != api.ErrForest || l != nil {
			t.Error(i, sppf.Check(x), e)
		}
	}
	twice := api.Forest{Spots: []api.Fact{fact(0, 0, 0), fact(0, 0, 0)}, Packs: []api.Pack{leaf(0, 0), leaf(1, 0)}}
	if e := sppf.Check(twice); e != api.ErrForest {
		t.Error(e)
	}
	negative := api.Forest{Spots: []api.Fact{fact(0, -1, -1)}, Packs: []api.Pack{{Mid: -1}}}
	if e := sppf.Check(negative); e != api.ErrForest {
		t.Error(e)
	}
}

// P22.3
func TestFindPacksUses(t *testing.T) {
	c, g := example()
	x, _ := sppf.Of(c, []string{"a"}, g, fact(0, 0, 1))
	for i, s := range x.Spots {
		if at, is := sppf.Find(x, s); at != i || !is {
			t.Error(s, at, is)
		}
	}
	if at, is := sppf.Find(x, fact(0, 0, 2)); at != 0 || is {
		t.Error(at, is)
	}
	odd := api.Forest{Spots: []api.Fact{fact(5, 5, 5), fact(1, 1, 1), fact(5, 5, 5), fact(1, 1, 1)}, Packs: []api.Pack{leaf(7, 1), leaf(-3, 2), leaf(7, 0), leaf(7, 1)}}
	if at, is := sppf.Find(odd, fact(1, 1, 1)); at != 1 || !is {
		t.Error(at, is)
	}
	seq := sppf.Packs(odd, 7)
	odd.Packs[0].Prod = 99
	for range 2 {
		if l := slices.Collect(seq); !slices.Equal(l, []api.Pack{leaf(7, 1), leaf(7, 0), leaf(7, 1)}) {
			t.Error(l)
		}
		for range seq {
			break
		}
	}
	if l := slices.Collect(sppf.Packs(odd, 0)); len(l) != 0 {
		t.Error(l)
	}
	for spot, want := range [][]int{{0, 1, 2}, {0, 1, 3}, {0, 2, 3}, {1, 2, 3}} {
		if l, e := sppf.Uses(x, spot); !slices.Equal(l, want) || e != api.OK {
			t.Error(spot, l, e)
		}
	}
	for _, spot := range []int{-1, 4, math.MinInt, math.MaxInt} {
		if l, e := sppf.Uses(x, spot); l != nil || e != api.ErrNone {
			t.Error(spot, l, e)
		}
	}
	one := api.Forest{Spots: []api.Fact{fact(0, 0, 0)}, Packs: []api.Pack{leaf(0, 3)}}
	if l, e := sppf.Uses(one, 0); len(l) != 0 || e != api.OK {
		t.Error(l, e)
	}
	if l, e := sppf.Uses(api.Forest{}, 0); l != nil || e != api.ErrNone {
		t.Error(l, e)
	}
}

func TestTwice(t *testing.T) {
	_, g := example()
	c := cnf(1, prod(0, label(0)), prod(0), prod(0, label(0)), prod(0))
	x, e := sppf.Of(c, []string{"a"}, g, fact(0, 0, 1))
	if e != api.OK || !same(x, api.Forest{Spots: []api.Fact{fact(0, 0, 1)}, Packs: []api.Pack{leaf(0, 0), leaf(0, 2)}}) {
		t.Error(x, e)
	}
	x, e = sppf.Of(c, []string{"a"}, g, fact(0, 1, 1))
	if e != api.OK || !same(x, api.Forest{Spots: []api.Fact{fact(0, 1, 1)}, Packs: []api.Pack{leaf(0, 1), leaf(0, 3)}}) {
		t.Error(x, e)
	}
}
