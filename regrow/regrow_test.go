package regrow_test

import (
	"cmp"
	"math"
	"slices"
	"strconv"
	"strings"
	"testing"

	"byway/api"
	"byway/bnf"
	"byway/delta"
	"byway/edges"
	"byway/graph"
	"byway/regrow"
	"byway/rsm"
	"byway/sample"
	"byway/tensor"
	"byway/wcnf"
)

func fact(nt, from, to int) api.Fact { return api.Fact{Nt: nt, From: from, To: to} }

func names(prefix string, count int) []string {
	var l []string
	for i := range count {
		l = append(l, prefix+strconv.Itoa(i))
	}
	return l
}

func order(a, b api.Fact) int {
	return cmp.Or(cmp.Compare(a.Nt, b.Nt), cmp.Compare(a.From, b.From), cmp.Compare(a.To, b.To))
}

func rules(t *testing.T, text string) []api.Rule {
	t.Helper()
	r, _, e := bnf.Parse(text)
	if e != api.OK {
		t.Fatal(text, e)
	}
	return r
}

func machine(t *testing.T, text string) *rsm.Machine {
	t.Helper()
	m, _ := rsm.New(rules(t, text))
	return m
}

func closure(t *testing.T, m *rsm.Machine, g *graph.Graph) *regrow.Closure {
	t.Helper()
	x, e := regrow.New(m, g)
	if e != api.OK || x == nil {
		t.Fatal(e)
	}
	return x
}

// agree holds a closure against what tensor reckons of its graph.
func agree(t *testing.T, x *regrow.Closure, m *rsm.Machine) []api.Fact {
	t.Helper()
	g := x.Graph()
	want, e := tensor.New(m, g)
	if e != api.OK {
		t.Fatal(e)
	}
	facts := slices.Collect(want.Facts())
	if got := slices.Collect(x.Facts()); !slices.Equal(got, facts) || x.Len() != len(facts) {
		t.Fatal(got, facts)
	}
	nodes, _ := g.Len()
	for nt := range m.Names() {
		mine, e1 := x.Pairs(nt)
		other, e2 := want.Pairs(nt)
		if !slices.Equal(mine, other) || e1 != e2 {
			t.Fatal(nt, mine, other)
		}
		for u := range nodes + 1 {
			a, e1 := x.Has(fact(nt, u, 0))
			b, e2 := want.Has(fact(nt, u, 0))
			c, e3 := x.Has(fact(nt, 0, u))
			d, e4 := want.Has(fact(nt, 0, u))
			if a != b || e1 != e2 || c != d || e3 != e4 {
				t.Fatal(nt, u, a, b, e1, e2)
			}
		}
	}
	return facts
}

// P24.1, P24.2, P24.3, P24.5
func TestGrows(t *testing.T) {
	n := sample.Noise(1)
	for range 60 {
		r := n.Grammar(1+n.Below(4), 4, []string{"S", "T", "U"}[:1+n.Below(3)], []string{"a", "b"})
		m, e := rsm.New(r)
		if e != api.OK {
			continue
		}
		g := graph.New()
		nodes := names("n", 1+n.Below(7))
		for _, x := range n.Edges(n.Below(5), nodes, []string{"a", "b", "c"}) {
			g.AddEdge(x.From, x.Label, x.To)
		}
		x := closure(t, m, g)
		c, _ := wcnf.New(r)
		y, _ := delta.New(c, m.Labels(), g)
		told := agree(t, x, m)
		for range n.Below(18) {
			step := n.Edges(1, nodes, []string{"a", "b", "c"})[0]
			before := x.Graph()
			var fresh []api.Fact
			var is, want bool
			var e api.Errno
			if n.Below(4) == 0 {
				fresh, is, e = x.AddNode(step.From)
				want, _ = before.AddNode(step.From)
				y.AddNode(step.From)
			} else {
				fresh, is, e = x.AddEdge(step.From, step.Label, step.To)
				want, _ = before.AddEdge(step.From, step.Label, step.To)
				y.AddEdge(step.From, step.Label, step.To)
			}
			if e != api.OK || is != want || !is && fresh != nil || !slices.IsSortedFunc(fresh, order) {
				t.Fatal(step, fresh, is, e)
			}
			if !slices.Equal(x.Graph().Nodes(), before.Nodes()) || !edges.Same(x.Graph().Data(), before.Data()) {
				t.Fatal("its graph is another one")
			}
			told = append(told, fresh...)
			slices.SortFunc(told, order)
			if now := agree(t, x, m); !slices.Equal(now, told) {
				t.Fatal(now, told)
			}
			for nt := range m.Names() {
				mine, _ := x.Pairs(nt)
				other, _ := y.Pairs(nt)
				if !slices.Equal(mine, other) {
					t.Fatal("delta has others", mine, other)
				}
			}
		}
		refused(t, x)
	}
}

func refused(t *testing.T, x *regrow.Closure) {
	t.Helper()
	before, data := slices.Collect(x.Facts()), x.Graph().Data()
	for _, name := range []string{"", "-", strings.Repeat("a", 17)} {
		l1, is1, e1 := x.AddNode(name)
		l2, is2, e2 := x.AddEdge(name, "a", "fresh")
		l3, is3, e3 := x.AddEdge("fresh", name, "more")
		l4, is4, e4 := x.AddEdge("fresh", "a", name)
		if e1 != api.ErrName || e2 != api.ErrName || e3 != api.ErrName || e4 != api.ErrName || is1 || is2 || is3 || is4 || l1 != nil || l2 != nil || l3 != nil || l4 != nil {
			t.Error(name, e1, e2, e3, e4)
		}
	}
	if !slices.Equal(slices.Collect(x.Facts()), before) || !edges.Same(x.Graph().Data(), data) {
		t.Error("what is refused has changed something")
	}
	for _, n := range []int{-1, 99, math.MinInt, math.MaxInt} {
		l, e1 := x.Pairs(n)
		_, e2 := x.Has(fact(n, 0, 0))
		_, e3 := x.Has(fact(0, n, 0))
		is, e4 := x.Has(fact(0, 0, n))
		if e1 != api.ErrNone || e2 != api.ErrNone || e3 != api.ErrNone || e4 != api.ErrNone || l != nil || is {
			t.Error(n, e1, e2, e3, e4)
		}
	}
}

func TestExamples(t *testing.T) {
	x := closure(t, machine(t, "S = a S b | a b;"), graph.New())
	if x.Len() != 0 {
		t.Error(x.Len())
	}
	add := func(from, label, to string, want []api.Fact, fresh bool) {
		t.Helper()
		if l, is, e := x.AddEdge(from, label, to); !slices.Equal(l, want) || is != fresh || e != api.OK {
			t.Error(l, is, e)
		}
	}
	add("x", "a", "y", nil, true)
	add("y", "b", "z", []api.Fact{fact(0, 0, 2)}, true)
	add("y", "b", "z", nil, false)
	add("z", "b", "x", nil, true)
	add("w", "a", "x", []api.Fact{fact(0, 3, 0)}, true)
	add("x", "b", "z", []api.Fact{fact(0, 3, 2)}, true)
	if x.Len() != 3 {
		t.Error(x.Len())
	}
	add("x", "nolabel", "q", nil, true)
	if l, is, e := x.AddEdge("x", "A", "y"); l != nil || is || e != api.ErrName {
		t.Error(l, is, e)
	}
}

func TestErrors(t *testing.T) {
	m, g := machine(t, "S = a;"), graph.New()
	for _, x := range []struct {
		m *rsm.Machine
		g *graph.Graph
	}{{nil, g}, {m, nil}, {nil, nil}, {new(rsm.Machine), g}, {m, new(graph.Graph)}} {
		if c, e := regrow.New(x.m, x.g); c != nil || e != api.ErrNil {
			t.Error(c, e)
		}
	}
	for _, x := range []*regrow.Closure{nil, new(regrow.Closure)} {
		l1, is1, e1 := x.AddNode("-")
		l2, is2, e2 := x.AddEdge("-", "", "")
		is3, e3 := x.Has(fact(-1, 0, 0))
		if l1 != nil || l2 != nil || is1 || is2 || is3 {
			t.Error("an answer beside an error")
		}
		_, e4 := x.Pairs(-1)
		if e1 != api.ErrNil || e2 != api.ErrNil || e3 != api.ErrNil || e4 != api.ErrNil {
			t.Error(e1, e2, e3, e4)
		}
		if x.Len() != 0 || len(slices.Collect(x.Facts())) != 0 || x.Graph() != nil || x.Copy() != nil {
			t.Error("a nil closure is something")
		}
	}
}

// Sides: just as many nodes as there may be with a machine, and one more.
func TestSide(t *testing.T) {
	for _, c := range []struct{ occ, nodes int }{{63, 16}, {64, 15}, {31, 32}, {32, 31}, {40, 24}} {
		m := machine(t, "S = % |"+strings.Repeat(" a", c.occ)+";")
		g := graph.New()
		for _, name := range names("n", c.nodes-1) {
			g.AddNode(name)
		}
		x := closure(t, m, g)
		if l, is, e := x.AddEdge("n0", "b", "last"); !slices.Equal(l, []api.Fact{fact(0, c.nodes-1, c.nodes-1)}) || !is || e != api.OK {
			t.Error(c, l, is, e)
		}
		want := api.ErrSide
		if c.nodes == api.MaxNodes {
			want = api.ErrNodes
		}
		before := x.Graph().Data()
		l1, is1, e1 := x.AddNode("more")
		l2, is2, e2 := x.AddEdge("n0", "a", "more")
		if e1 != want || e2 != want || is1 || is2 || l1 != nil || l2 != nil || !edges.Same(x.Graph().Data(), before) {
			t.Error(c, e1, e2)
		}
		if _, _, e := x.AddNode("-"); e != api.ErrName {
			t.Error(e)
		}
		if l, is, e := x.AddNode("last"); l != nil || is || e != api.OK {
			t.Error(l, is, e)
		}
		if l, is, e := x.AddEdge("n0", "b", "last"); l != nil || is || e != api.OK {
			t.Error(l, is, e)
		}
		if _, is, e := x.AddEdge("n0", "a", "n0"); !is || e != api.OK {
			t.Error(is, e)
		}
		agree(t, x, m)
		g = x.Graph()
		if is, _ := g.AddNode("more"); is {
			if y, e := regrow.New(m, g); y != nil || e != api.ErrSide {
				t.Error(y, e)
			}
		}
	}
}

// P24.4
func TestApart(t *testing.T) {
	m, g := machine(t, "S = a b;"), graph.New()
	g.AddEdge("x", "a", "y")
	handed := *m
	x := closure(t, &handed, g)
	handed = rsm.Machine{}
	g.AddEdge("y", "b", "z")
	agree(t, x, m)
	x.Graph().AddEdge("y", "b", "q")
	o := x.Copy()
	if l, _, _ := o.AddEdge("y", "b", "x"); !slices.Equal(l, []api.Fact{fact(0, 0, 0)}) {
		t.Error(l)
	}
	seq := o.Facts()
	if l := agree(t, x, m); len(l) != 0 {
		t.Error(l)
	}
	x.AddEdge("y", "b", "y")
	o.AddEdge("y", "b", "w")
	for range 2 {
		if l := slices.Collect(seq); !slices.Equal(l, []api.Fact{fact(0, 0, 0)}) {
			t.Error(l)
		}
		for range seq {
			break
		}
	}
	agree(t, o, m)
	agree(t, x, m)
}

// named are a closure's facts, with names in the place of numbers.
func named(x *regrow.Closure) []string {
	nodes := x.Graph().Nodes()
	var l []string
	for f := range x.Facts() {
		l = append(l, strconv.Itoa(f.Nt)+" "+nodes[f.From]+" "+nodes[f.To])
	}
	slices.Sort(l)
	return l
}

func TestOrder(t *testing.T) {
	n := sample.Noise(2)
	for range 40 {
		m, e := rsm.New(n.Grammar(3, 4, []string{"S", "T"}, []string{"a", "b"}))
		if e != api.OK {
			continue
		}
		l := n.Edges(9, names("n", 6), []string{"a", "b"})
		x, y := closure(t, m, graph.New()), closure(t, m, graph.New())
		for _, s := range l {
			x.AddEdge(s.From, s.Label, s.To)
		}
		x.AddNode("lone")
		y.AddNode("lone")
		slices.Reverse(l)
		for _, s := range l {
			y.AddEdge(s.From, s.Label, s.To)
		}
		if a, b := named(x), named(y); !slices.Equal(a, b) {
			t.Fatal(a, b)
		}
	}
}

func TestGreat(t *testing.T) {
	m := machine(t, "S = S S | a | % | (a S)* ; T = (T | S)+ a* (S T)? (a a | S)* ((a | T)+ S?)* a a a (a | a) T* S S a* S S T a a;")
	x := closure(t, m, graph.New())
	count := 0
	for i := range 32 {
		l, _, e := x.AddEdge("n"+strconv.Itoa(i), "a", "n"+strconv.Itoa((i+1)%32))
		if e != api.OK {
			t.Fatal(e)
		}
		count += len(l)
	}
	if count != 1024 || x.Len() != count {
		t.Error(count)
	}
	agree(t, x, m)
}
