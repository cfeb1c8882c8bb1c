package check_test

import (
	"slices"
	"strconv"
	"strings"
	"testing"

	"byway/api"
	"byway/bnf"
	"byway/check"
	"byway/derive"
	"byway/edges"
	"byway/sample"
	"byway/wcnf"
)

func edge(from, label, to string) api.Edge { return api.Edge{From: from, Label: label, To: to} }

func rules(t *testing.T, text string) []api.Rule {
	t.Helper()
	r, _, e := bnf.Parse(text)
	if e != api.OK {
		t.Fatal(text, e)
	}
	return r
}

func graph(t *testing.T, text string) api.Edges {
	t.Helper()
	g, _, e := edges.Parse(text)
	if e != api.OK {
		t.Fatal(text, e)
	}
	return g
}

func names(prefix string, count int) []string {
	var l []string
	for i := range count {
		l = append(l, prefix+strconv.Itoa(i))
	}
	return l
}

func spell(text string) []string { return strings.Fields(text) }

// around is a way of so many edges along a loop.
func around(count int) []api.Edge { return slices.Repeat([]api.Edge{edge("x", "a", "x")}, count) }

func TestExamples(t *testing.T) {
	r, g := rules(t, "S = a S b | a b;"), graph(t, "n0 a n1; n1 b n0;")
	both := []api.Edge{edge("n0", "a", "n1"), edge("n1", "b", "n0")}
	for _, x := range []struct {
		from, to string
		way      []api.Edge
		e        api.Errno
	}{{"n0", "n0", both, api.OK}, {"n0", "n1", both, api.ErrWay}, {"n0", "n0", nil, api.OK}, {"n0", "n2", nil, api.ErrNone}} {
		if e := check.Way(g, x.from, x.to, x.way); e != x.e {
			t.Error(x, e)
		}
	}
	if l := check.Spell(both); !slices.Equal(l, spell("a b")) {
		t.Error(l)
	}
	for _, x := range []struct {
		nt, word string
		is       bool
		e        api.Errno
	}{{"S", "a b", true, api.OK}, {"S", "a", false, api.OK}, {"T", "a", false, api.ErrNone}, {"S", "z", false, api.OK}} {
		if is, e := check.Word(r, x.nt, spell(x.word)); is != x.is || e != x.e {
			t.Error(x, is, e)
		}
	}
	if is, e := check.Right(r, g, "S", "n0", "n0", both); !is || e != api.OK {
		t.Error(is, e)
	}
	if is, e := check.Right(r, g, "S", "n0", "n1", both); is || e != api.OK {
		t.Error(is, e)
	}
	if check.Cmp(both, both[:1]) != 1 || check.Cmp(both[:1], both[1:]) != -1 || !check.Rise(nil, both[:1], both) {
		t.Error("the order")
	}
}

// P27.1
func TestWay(t *testing.T) {
	g := graph(t, "x a x; x a y; y b x; z;")
	for i, c := range []struct {
		from, to string
		way      []api.Edge
		e        api.Errno
	}{
		{"x", "x", around(64), api.OK}, {"x", "x", around(65), api.ErrLong}, {"x", "y", around(65), api.ErrLong}, {"q", "x", around(65), api.ErrNone}, {"x", "q", nil, api.ErrNone}, {"", "x", nil, api.ErrNone}, {"z", "z", nil, api.OK}, {"z", "x", nil, api.ErrWay},
		{"x", "x", []api.Edge{edge("x", "a", "y"), edge("y", "b", "x")}, api.OK}, {"x", "x", []api.Edge{edge("y", "b", "x")}, api.ErrWay}, {"x", "y", []api.Edge{edge("x", "a", "y"), edge("x", "a", "y")}, api.ErrWay}, {"x", "x", []api.Edge{edge("x", "b", "x")}, api.ErrWay},
		{"x", "z", []api.Edge{edge("x", "a", "z")}, api.ErrWay}, {"x", "x", []api.Edge{edge("x", "a", "y")}, api.ErrWay}, {"x", "x", []api.Edge{{}}, api.ErrWay},
	} {
		if e := check.Way(g, c.from, c.to, c.way); e != c.e {
			t.Error(i, e)
		}
	}
	for _, bad := range []api.Edges{{Nodes: []string{"b", "a"}}, {Nodes: []string{"-"}}} {
		if e := check.Way(bad, "q", "q", around(65)); e != edges.Check(bad) || e == api.OK {
			t.Error(e)
		}
	}
	if l := check.Spell([]api.Edge{edge("", "-", ""), edge("x", "", "y"), edge("q", "a", "r")}); !slices.Equal(l, []string{"-", "", "a"}) {
		t.Error(l)
	}
	if l := check.Spell(nil); len(l) != 0 {
		t.Error(l)
	}
}

// P27.2
func TestWord(t *testing.T) {
	words := sample.Words([]string{"a", "b", "c"}, 4)
	n := sample.Noise(1)
	for range 40 {
		r := n.Grammar(4, 4, []string{"S", "T"}, []string{"b", "a"})
		if bnf.Check(r) != api.OK {
			continue
		}
		want := sample.Languages(r, 4)
		for _, name := range []string{"S", "T"} {
			for _, w := range words {
				_, in := want[name][strings.Join(append(w, ""), " ")]
				if is, e := check.Word(r, name, w); is != in || e != api.OK {
					t.Fatal(r, name, w, is, e)
				}
			}
		}
	}
	r, long := rules(t, "S = a*;"), slices.Repeat([]string{"a"}, 65)
	if is, e := check.Word(r, "S", long[:64]); !is || e != api.OK {
		t.Error(is, e)
	}
	for i, c := range []struct {
		r    []api.Rule
		nt   string
		word []string
		e    api.Errno
	}{
		{nil, "T", long, api.ErrRules}, {rules(t, "S = T; T = a;")[:1], "T", long, api.ErrMissing}, {r, "T", long, api.ErrNone}, {r, "", long, api.ErrNone}, {r, "a", nil, api.ErrNone}, {r, "S", long, api.ErrLong},
	} {
		is, e1 := check.Word(c.r, c.nt, c.word)
		also, e2 := check.Tree(c.r, c.nt, c.word, nil)
		if is || also || e1 != c.e || e2 != c.e {
			t.Error(i, e1, e2)
		}
	}
	for _, w := range [][]string{{"A"}, {""}, {"a", "-"}, {"a", "S"}} {
		if is, e := check.Word(r, "S", w); is || e != api.OK {
			t.Error(w, is, e)
		}
	}
}

// P27.2, P27.5
func TestRight(t *testing.T) {
	n := sample.Noise(2)
	r := rules(t, "S = a S b | a b | T; T = c+ | S S;")
	nodes := names("n", 3)
	for range 400 {
		g, _ := edges.Of(nodes, n.Edges(7, nodes, []string{"a", "b", "c", "d"}))
		from, to := nodes[n.Below(3)], nodes[n.Below(3)]
		var way []api.Edge
		at := from
		for range n.Below(5) {
			l := slices.DeleteFunc(slices.Clone(g.Edges), func(x api.Edge) bool { return x.From != at && n.Below(20) > 0 })
			if len(l) > 0 {
				way = append(way, l[n.Below(len(l))])
				at = way[len(way)-1].To
			}
		}
		if n.Below(3) > 0 {
			to = at
		}
		isWord, _ := check.Word(r, "S", check.Spell(way))
		want := isWord && check.Way(g, from, to, way) == api.OK
		if is, e := check.Right(r, g, "S", from, to, way); is != want || e != api.OK {
			t.Fatal(way, is, want, e)
		}
	}
	g, bad := graph(t, "x a x;"), api.Edges{Nodes: []string{"b", "a"}}
	for i, c := range []struct {
		r            []api.Rule
		g            api.Edges
		nt, from, to string
		e            api.Errno
	}{
		{r, graph(t, "x b x;"), "S", "x", "x", api.ErrLong}, {nil, bad, "Q", "q", "q", api.ErrRules}, {r, bad, "Q", "q", "q", api.ErrArg}, {r, g, "Q", "x", "x", api.ErrNone}, {r, g, "S", "q", "x", api.ErrNone}, {r, g, "S", "x", "q", api.ErrNone}, {r, g, "S", "x", "x", api.ErrLong},
	} {
		if is, e := check.Right(c.r, c.g, c.nt, c.from, c.to, around(65)); is || e != c.e {
			t.Error(i, is, e)
		}
	}
	if is, e := check.Right(rules(t, "S = a*;"), g, "S", "x", "x", around(64)); !is || e != api.OK {
		t.Error(is, e)
	}
}

// P27.3, P27.5
func TestTree(t *testing.T) {
	r := rules(t, "T = b; S = a S b | T+ | %;")
	c, _ := wcnf.New(r)
	for _, text := range []string{"", "a b", "a a b b b", "b b", "a a b"} {
		w := spell(text)
		numbers := []int{}
		for _, s := range w {
			numbers = append(numbers, slices.Index([]string{"a", "b"}, s))
		}
		l, e := derive.Tree(c, 1, numbers...)
		is, e2 := check.Tree(r, "S", w, l)
		if want := e == api.OK; is != want || e2 != api.OK {
			t.Error(text, is, e, e2)
		}
		if is, e := check.Tree(r, "T", w, l); is || e != api.OK {
			t.Error(text, is, e)
		}
		if is, e := check.Tree(r, "S", append(w, "z"), l); is || e != api.OK {
			t.Error(text, is, e)
		}
		if len(l) > 0 {
			l[0].Prod++
			if is, e := check.Tree(r, "S", w, l); is || e != api.OK {
				t.Error(text, is, e)
			}
		}
	}
	// A text between two labels is none of them.
	for _, text := range []string{"aa", "a0", "c", "", "B"} {
		if is, e := check.Tree(rules(t, "S = b; T = a;"), "S", []string{text}, treeOf(t, "S = b; T = a;", 0, 1)); is || e != api.OK {
			t.Error(text, is, e)
		}
	}
	long := slices.Repeat([]int{0}, 64)
	if is, e := check.Tree(rules(t, "S = a*;"), "S", slices.Repeat([]string{"a"}, 64), treeOf(t, "S = a*;", 0, long...)); !is || e != api.OK {
		t.Error(is, e)
	}
	for count, want := range map[int]api.Errno{4096: api.OK, 4097: api.ErrLong} {
		if is, e := check.Tree(r, "S", nil, make([]api.Step, count)); is || e != want {
			t.Error(count, is, e)
		}
	}
	if is, e := check.Tree(r, "S", spell("z"), make([]api.Step, 4097)); is || e != api.ErrLong {
		t.Error(is, e)
	}
}

// treeOf is a derivation of a word by a nonterminal of a grammar's text.
func treeOf(t *testing.T, text string, nt int, word ...int) []api.Step {
	t.Helper()
	c, _ := wcnf.New(rules(t, text))
	l, e := derive.Tree(c, nt, word...)
	if e != api.OK {
		t.Fatal(text, e)
	}
	return l
}

// P27.4
func TestOrder(t *testing.T) {
	x, y, z := edge("a", "x", "b"), edge("a", "x", "c"), edge("a", "y", "a")
	b := edge("b", "a", "a")
	rising := [][]api.Edge{nil, {x}, {y}, {z}, {b}, {x, x}, {x, b}, {y, x}, {b, b}, {x, x, x}}
	for i, v := range rising {
		for k, w := range rising {
			want := 0
			if i < k {
				want = -1
			} else if i > k {
				want = 1
			}
			if got := check.Cmp(v, w); got != want {
				t.Error(v, w, got)
			}
		}
	}
	if !check.Rise(rising...) || !check.Rise() || !check.Rise(rising[3]) || check.Rise(nil, nil) || check.Rise(rising[1], rising[1]) || check.Rise(rising[2], rising[1]) || check.Rise(rising[1], rising[2], rising[2]) {
		t.Error("rise")
	}
}

func TestEdges(t *testing.T) {
	way := []api.Edge{edge("b", "x", "a"), edge("a", "y", "b"), edge("b", "x", "a")}
	g, e := check.Edges(way)
	if want := graph(t, "b x a; a y b;"); e != api.OK || !edges.Same(g, want) {
		t.Error(g, e)
	}
	if e := check.Way(g, "b", "a", way); e != api.OK {
		t.Error(e)
	}
	if g, e := check.Edges(nil); e != api.OK || !edges.Same(g, api.Edges{}) {
		t.Error(g, e)
	}
	var many []api.Edge
	for _, n := range names("n", 33) {
		many = append(many, edge(n, "a", n))
	}
	for _, c := range []struct {
		way []api.Edge
		e   api.Errno
	}{{[]api.Edge{edge("a", "X", "b")}, api.ErrName}, {[]api.Edge{edge("", "x", "b")}, api.ErrName}, {many, api.ErrNodes}} {
		if g, e := check.Edges(c.way); e != c.e || !edges.Same(g, api.Edges{}) {
			t.Error(e)
		}
	}
}
