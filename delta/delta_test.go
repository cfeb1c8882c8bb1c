package delta_test

import (
	"cmp"
	"math"
	"slices"
	"strconv"
	"strings"
	"testing"

	"byway/api"
	"byway/azimov"
	"byway/delta"
	"byway/edges"
	"byway/graph"
	"byway/sample"
)

func nt(n int) api.Sym { return api.Sym{N: n} }

func label(n int) api.Sym { return api.Sym{Label: true, N: n} }

func prod(head int, body ...api.Sym) api.Prod { return api.Prod{Head: head, Body: body} }

func cnf(nts int, l ...api.Prod) api.Cnf { return api.Cnf{Nts: nts, Prods: l} }

func fact(nt, from, to int) api.Fact { return api.Fact{Nt: nt, From: from, To: to} }

var ab = []string{"a", "b"}

func names(prefix string, count int) []string {
	var l []string
	for i := range count {
		l = append(l, prefix+strconv.Itoa(i))
	}
	return l
}

func order(a, b api.Fact) int {
	return cmp.Or(cmp.Compare(a.Nt, b.Nt), cmp.Compare(a.From, b.From), cmp.Compare(a.To, b.To))
}

// example is chapter 18's grammar.
func example() api.Cnf {
	return cnf(3, prod(0, nt(1), nt(2)), prod(1, label(0)), prod(2, nt(0), nt(2)), prod(2, label(1)))
}

func closure(t *testing.T, c api.Cnf, labels []string, g *graph.Graph) *delta.Closure {
	t.Helper()
	x, e := delta.New(c, labels, g)
	if e != api.OK || x == nil {
		t.Fatal(e)
	}
	return x
}

// agree holds a closure against what azimov reckons of its graph.
func agree(t *testing.T, x *delta.Closure, c api.Cnf, labels []string) []api.Fact {
	t.Helper()
	g := x.Graph()
	want, e := azimov.New(c, labels, g)
	if e != api.OK {
		t.Fatal(e)
	}
	facts := slices.Collect(want.Facts())
	if got := slices.Collect(x.Facts()); !slices.Equal(got, facts) || x.Len() != len(facts) {
		t.Fatal(got, facts)
	}
	nodes, _ := g.Len()
	for nt := range c.Nts {
		mine, e1 := x.Pairs(nt)
		other, e2 := want.Pairs(nt)
		if !slices.Equal(mine, other) || e1 != e2 {
			t.Fatal(nt, mine, other)
		}
		for u := range nodes + 1 {
			a, e1 := x.Has(fact(nt, u, 0))
			b, e2 := want.Has(fact(nt, u, 0))
			c, e3 := x.Has(fact(nt, 0, u))
			d, e4 := want.Has(fact(nt, 0, u))
			if a != b || e1 != e2 || c != d || e3 != e4 {
				t.Fatal(nt, u, a, b, e1, e2)
			}
		}
	}
	return facts
}

// P23.1, P23.2, P23.3, P23.5
func TestGrows(t *testing.T) {
	n := sample.Noise(1)
	for range 60 {
		c := n.Weak(n.Below(14), 1+n.Below(4), 2)
		g := graph.New()
		nodes := names("n", 1+n.Below(7))
		for _, x := range n.Edges(n.Below(5), nodes, []string{"a", "b", "c"}) {
			g.AddEdge(x.From, x.Label, x.To)
		}
		x := closure(t, c, ab, g)
		told := agree(t, x, c, ab)
		for range n.Below(18) {
			step := n.Edges(1, nodes, []string{"a", "b", "c"})[0]
			before := x.Graph()
			var fresh []api.Fact
			var is, want bool
			var e api.Errno
			if n.Below(4) == 0 {
				fresh, is, e = x.AddNode(step.From)
				want, _ = before.AddNode(step.From)
			} else {
				fresh, is, e = x.AddEdge(step.From, step.Label, step.To)
				want, _ = before.AddEdge(step.From, step.Label, step.To)
			}
			if e != api.OK || is != want || !is && fresh != nil || !slices.IsSortedFunc(fresh, order) {
				t.Fatal(step, fresh, is, e)
			}
			if !slices.Equal(x.Graph().Nodes(), before.Nodes()) || !edges.Same(x.Graph().Data(), before.Data()) {
				t.Fatal("its graph is another one")
			}
			told = append(told, fresh...)
			slices.SortFunc(told, order)
			if now := agree(t, x, c, ab); !slices.Equal(now, told) {
				t.Fatal(now, told)
			}
		}
		refused(t, x)
	}
}

func refused(t *testing.T, x *delta.Closure) {
	t.Helper()
	before, data := slices.Collect(x.Facts()), x.Graph().Data()
	for _, name := range []string{"", "-", strings.Repeat("a", 17)} {
		l1, is1, e1 := x.AddNode(name)
		l2, is2, e2 := x.AddEdge(name, "a", "fresh")
		l3, is3, e3 := x.AddEdge("fresh", name, "more")
		l4, is4, e4 := x.AddEdge("fresh", "a", name)
		if e1 != api.ErrName || e2 != api.ErrName || e3 != api.ErrName || e4 != api.ErrName || is1 || is2 || is3 || is4 || l1 != nil || l2 != nil || l3 != nil || l4 != nil {
			t.Error(name, e1, e2, e3, e4)
		}
	}
	if !slices.Equal(slices.Collect(x.Facts()), before) || !edges.Same(x.Graph().Data(), data) {
		t.Error("what is refused has changed something")
	}
	for _, n := range []int{-1, 99, math.MinInt, math.MaxInt} {
		l, e1 := x.Pairs(n)
		_, e2 := x.Has(fact(n, 0, 0))
		_, e3 := x.Has(fact(0, n, 0))
		is, e4 := x.Has(fact(0, 0, n))
		if e1 != api.ErrNone || e2 != api.ErrNone || e3 != api.ErrNone || e4 != api.ErrNone || l != nil || is {
			t.Error(n, e1, e2, e3, e4)
		}
	}
}

func TestExamples(t *testing.T) {
	x := closure(t, example(), ab, graph.New())
	if x.Len() != 0 {
		t.Error(x.Len())
	}
	add := func(from, label, to string, want []api.Fact, fresh bool) {
		t.Helper()
		if l, is, e := x.AddEdge(from, label, to); !slices.Equal(l, want) || is != fresh || e != api.OK {
			t.Error(l, is, e)
		}
	}
	add("x", "a", "y", []api.Fact{fact(1, 0, 1)}, true)
	add("y", "b", "z", []api.Fact{fact(0, 0, 2), fact(2, 1, 2)}, true)
	add("y", "b", "z", nil, false)
	if l, is, e := x.AddNode("w"); len(l) != 0 || !is || e != api.OK {
		t.Error(l, is, e)
	}
	if l, is, e := x.AddNode("w"); len(l) != 0 || is || e != api.OK {
		t.Error(l, is, e)
	}
	if l, is, e := x.AddEdge("x", "A", "y"); l != nil || is || e != api.ErrName {
		t.Error(l, is, e)
	}
	if x.Len() != 3 {
		t.Error(x.Len())
	}
}

func TestErrors(t *testing.T) {
	for _, none := range []*graph.Graph{nil, new(graph.Graph)} {
		if x, e := delta.New(cnf(0), ab, none); x != nil || e != api.ErrNil {
			t.Error(x, e)
		}
	}
	for _, c := range []api.Cnf{cnf(0), cnf(513), cnf(1, prod(0, label(2))), cnf(1, prod(0, nt(0)))} {
		if x, e := delta.New(c, ab, graph.New()); x != nil || e != api.ErrArg {
			t.Error(x, e)
		}
	}
	if x, e := delta.New(cnf(1), []string{"b", "a"}, graph.New()); x != nil || e != api.ErrArg {
		t.Error(x, e)
	}
	for _, x := range []*delta.Closure{nil, new(delta.Closure)} {
		l1, is1, e1 := x.AddNode("-")
		l2, is2, e2 := x.AddEdge("-", "", "")
		is3, e3 := x.Has(fact(-1, 0, 0))
		if l1 != nil || l2 != nil || is1 || is2 || is3 {
			t.Error("an answer beside an error")
		}
		_, e4 := x.Pairs(-1)
		if e1 != api.ErrNil || e2 != api.ErrNil || e3 != api.ErrNil || e4 != api.ErrNil {
			t.Error(e1, e2, e3, e4)
		}
		if x.Len() != 0 || len(slices.Collect(x.Facts())) != 0 || x.Graph() != nil || x.Copy() != nil {
			t.Error("a nil closure is something")
		}
	}
}

func TestBounds(t *testing.T) {
	g := graph.New()
	for _, name := range names("n", 32) {
		g.AddNode(name)
	}
	c := cnf(2, prod(0), prod(1, nt(0), nt(1)), prod(1, label(0)), prod(1, nt(1), nt(1)))
	x := closure(t, c, ab, g)
	if l, is, e := x.AddNode("more"); l != nil || is || e != api.ErrNodes {
		t.Error(l, is, e)
	}
	if l, is, e := x.AddEdge("n0", "a", "more"); l != nil || is || e != api.ErrNodes {
		t.Error(l, is, e)
	}
	count := x.Len()
	for i := range 32 {
		l, is, e := x.AddEdge("n"+strconv.Itoa(i), "a", "n"+strconv.Itoa((i+1)%32))
		if !is || e != api.OK {
			t.Error(e)
		}
		count += len(l)
	}
	if count != 32+1024 || x.Len() != count {
		t.Error(count, x.Len())
	}
	agree(t, x, c, ab)
}

// P23.4
func TestApart(t *testing.T) {
	c, g := example(), graph.New()
	labels := slices.Clone(ab)
	g.AddEdge("x", "a", "y")
	x := closure(t, c, labels, g)
	g.AddEdge("y", "b", "z")
	c.Prods[0].Body[0].N = 2
	labels[0] = "b"
	agree(t, x, example(), ab)
	x.Graph().AddEdge("y", "b", "q")
	o := x.Copy()
	seq := x.Facts()
	o.AddEdge("y", "b", "x")
	if l := agree(t, o, example(), ab); len(l) != 3 {
		t.Error(l)
	}
	if l := agree(t, x, example(), ab); len(l) != 1 {
		t.Error(l)
	}
	x.AddEdge("y", "b", "y")
	for range 2 {
		if l := slices.Collect(seq); !slices.Equal(l, []api.Fact{fact(1, 0, 1)}) {
			t.Error(l)
		}
		for range seq {
			break
		}
	}
	agree(t, o, example(), ab)
	agree(t, x, example(), ab)
}

// named are a closure's facts, with names in the place of numbers.
func named(x *delta.Closure) []string {
	nodes := x.Graph().Nodes()
	var l []string
	for f := range x.Facts() {
		l = append(l, strconv.Itoa(f.Nt)+" "+nodes[f.From]+" "+nodes[f.To])
	}
	slices.Sort(l)
	return l
}

func TestOrder(t *testing.T) {
	n := sample.Noise(2)
	for range 40 {
		c := n.Weak(10, 4, 2)
		l := n.Edges(9, names("n", 6), ab)
		x, y := closure(t, c, ab, graph.New()), closure(t, c, ab, graph.New())
		for _, s := range l {
			x.AddEdge(s.From, s.Label, s.To)
		}
		x.AddNode("lone")
		y.AddNode("lone")
		slices.Reverse(l)
		for _, s := range l {
			y.AddEdge(s.From, s.Label, s.To)
		}
		if a, b := named(x), named(y); !slices.Equal(a, b) {
			t.Fatal(a, b)
		}
	}
}

func TestGreat(t *testing.T) {
	n := sample.Noise(3)
	c := n.Weak(8192, 512, 2)
	x := closure(t, c, ab, graph.New())
	for _, s := range n.Edges(12, names("n", 32), ab) {
		x.AddEdge(s.From, s.Label, s.To)
	}
	agree(t, x, c, ab)
}
