package edges_test

import (
	"maps"
	"slices"
	"strconv"
	"strings"
	"testing"

	"byway/api"
	"byway/edges"
	"byway/sample"
)

func edge(from, label, to string) api.Edge { return api.Edge{From: from, Label: label, To: to} }

func graph(nodes []string, l ...api.Edge) api.Edges { return api.Edges{Nodes: nodes, Edges: l} }

func names(text string) []string { return strings.Fields(text) }

func of(t *testing.T, nodes []string, l ...api.Edge) api.Edges {
	t.Helper()
	g, e := edges.Of(nodes, l)
	if e != api.OK {
		t.Fatal(nodes, l, e)
	}
	return g
}

func parse(t *testing.T, text string) api.Edges {
	t.Helper()
	g, at, e := edges.Parse(text)
	if e != api.OK || at != 0 {
		t.Fatalf("%q: %d, %v", text, at, e)
	}
	return g
}

func print(t *testing.T, g api.Edges) string {
	t.Helper()
	text, e := edges.Print(g)
	if e != api.OK {
		t.Fatal(g, e)
	}
	return text
}

// many are the names n00, n01 and so on.
func many(count int) []string {
	var l []string
	for i := range count {
		l = append(l, "n"+strconv.Itoa(i/10)+strconv.Itoa(i%10))
	}
	return l
}

// complete are so many edges between 16 nodes, by labels of some bytes.
func complete(count, labels int, suffix string) []api.Edge {
	var l []api.Edge
	for i := range count {
		l = append(l, edge("n"+strconv.Itoa(i%16), "a"+strconv.Itoa(i/256%labels)+suffix, "n"+strconv.Itoa(i/16%16)))
	}
	return l
}

var long = strings.Repeat("a", 17)

// P16.1
func TestCheckForm(t *testing.T) {
	x := edge("a", "x", "b")
	for i, g := range []api.Edges{
		graph(names("b a")), graph(names("a a")), graph(names("a b"), x, x), graph(names("a b"), edge("b", "x", "a"), x), graph(names("a b"), edge("a", "y", "a"), x), graph(names("a b"), edge("a", "x", "b"), edge("a", "x", "a")),
		graph(nil, x), graph(names("a"), x), graph(names("b"), x), graph(names("a c"), x), graph([]string{"", ""}), graph(names("- +")[:0], edge("", "", "")), graph(slices.Repeat([]string{long}, 40)),
	} {
		text, e1 := edges.Print(g)
		labels, e2 := edges.Labels(g)
		lone, e3 := edges.Lone(g)
		both, e4 := edges.Join(g, graph(nil))
		both2, e5 := edges.Join(graph(nil), g)
		for _, e := range []api.Errno{edges.Check(g), e1, e2, e3, e4, e5} {
			if e != api.ErrArg {
				t.Error(i, e)
			}
		}
		if text != "" || labels != nil || lone != nil || !edges.Same(both, api.Edges{}) || !edges.Same(both2, api.Edges{}) {
			t.Error(i, "an answer beside an error")
		}
	}
}

func TestCheckNames(t *testing.T) {
	for _, name := range []string{"", "-", "a-", " a", "a ", "a b", "ä", long, "a\n", ";"} {
		if e := edges.Check(graph([]string{name})); e != api.ErrName {
			t.Error(name, e)
		}
		if g, e := edges.Of([]string{"a", name}, nil); e != api.ErrName || !edges.Same(g, api.Edges{}) {
			t.Error(name, e)
		}
		for _, x := range []api.Edge{edge(name, "x", "a"), edge("a", "x", name), edge("a", name, "b")} {
			if g, e := edges.Of(nil, []api.Edge{edge("a", "x", "a"), x}); e != api.ErrName || !edges.Same(g, api.Edges{}) {
				t.Error(x, e)
			}
		}
		if e := edges.Check(graph(names("a b"), edge("a", name, "b"))); e != api.ErrName {
			t.Error(name, e)
		}
	}
	for _, label := range []string{"X", "9", "_", "Xx", long, "a;"} {
		if e := edges.Check(graph(names("a b"), edge("a", label, "b"))); e != api.ErrName {
			t.Error(label, e)
		}
		if _, e := edges.Of(nil, []api.Edge{edge("a", label, "b")}); e != api.ErrName {
			t.Error(label, e)
		}
	}
	good := graph(names("9 A _ a"), edge("9", "x9_A", "A"), edge("_", long[:16], "a"))
	if e := edges.Check(good); e != api.OK {
		t.Error(e)
	}
}

// P16.1, P16.2
func TestBounds(t *testing.T) {
	labels := func(count int) []api.Edge {
		var l []api.Edge
		for _, name := range many(count) {
			l = append(l, edge("a", name, "a"))
		}
		return l
	}
	for i, x := range []struct {
		nodes []string
		l     []api.Edge
		e     api.Errno
	}{
		{many(32), nil, api.OK}, {many(33), nil, api.ErrNodes}, {many(33), labels(17), api.ErrNodes}, {nil, labels(16), api.OK}, {nil, labels(17), api.ErrLabels}, {nil, append(labels(17), complete(256, 1, "")...), api.ErrLabels},
		{nil, complete(257, 2, ""), api.ErrEdges}, {nil, complete(256, 1, ""), api.ErrWide}, {nil, complete(150, 1, ""), api.OK}, {many(31), labels(16), api.OK}, {many(32), labels(16), api.ErrNodes},
	} {
		g, e := edges.Of(x.nodes, x.l)
		if e != x.e || e != api.OK && !edges.Same(g, api.Edges{}) {
			t.Error(i, e)
		}
		raw := rawOf(x.nodes, x.l)
		if e := edges.Check(raw); e != x.e {
			t.Error(i, e)
		}
	}
}

// rawOf is the graph of nodes and edges, without bounds.
func rawOf(nodes []string, l []api.Edge) api.Edges {
	all := map[string]bool{}
	set := map[api.Edge]bool{}
	for _, n := range nodes {
		all[n] = true
	}
	for _, x := range l {
		all[x.From], all[x.To], set[x] = true, true, true
	}
	g := graph(slices.Sorted(maps.Keys(all)))
	g.Edges = slices.SortedFunc(maps.Keys(set), func(a, b api.Edge) int {
		return strings.Compare(a.From+" "+a.Label+" "+a.To, b.From+" "+b.Label+" "+b.To)
	})
	return g
}

func TestJustWide(t *testing.T) {
	nodes := many(19)
	for i := range nodes {
		nodes[i] += strings.Repeat("x", 13)
	}
	// Edges of 53 bytes each are 2014 bytes, a lone node is 19, one more is the rest.
	var l []api.Edge
	for i := range 38 {
		l = append(l, edge(nodes[i/19], long[:16], nodes[i%19]))
	}
	for pad, want := range map[int]api.Errno{11: api.OK, 12: api.OK, 13: api.ErrWide, 14: api.ErrWide} {
		lone := []string{strings.Repeat("y", 16), strings.Repeat("z", pad)}
		g, e := edges.Of(lone, l)
		raw := rawOf(lone, l)
		if e != want || edges.Check(raw) != want {
			t.Error(pad, e, edges.Check(raw))
		}
		if e == api.OK && len(print(t, g)) != 2036+pad {
			t.Error(pad, len(print(t, g)))
		}
	}
}

func TestOf(t *testing.T) {
	n := sample.Noise(1)
	for range 300 {
		nodes := many(20)[:1+n.Below(20)]
		l := n.Edges(n.Below(30), nodes, names("x y z"))
		given := names("b a c b")[:n.Below(5)]
		before, nodesBefore := slices.Clone(l), slices.Clone(given)
		g := of(t, given, append(l, l[:len(l)/2]...)...)
		if want := rawOf(given, l); !edges.Same(g, want) || edges.Check(g) != api.OK {
			t.Fatal(g, want)
		}
		if !slices.Equal(l, before) || !slices.Equal(given, nodesBefore) {
			t.Fatal("what was handed in is changed")
		}
	}
}

// P16.3
func TestSyntax(t *testing.T) {
	for text, want := range map[string]int{
		"a": 1, "a b": 3, "a b c": 5, "a B c;": 2, "a b c d;": 6, "; a": 0, "a b = c;": 4, "a - ;": 2, "a;;": 2, "a b;": 3, "a b c;d": 7, "a b c; d e": 10, "a 9 c;": 2, "=": 0, "$": 0, "a;$": 2,
		"a b c $;": 6, "a b c; $": 7, "a $": 2, "a b $ c": 4, " a": 2, "a ; ; $": 4, "%;": 0, "a b c | d;": 6, "a b _ = $": 6, "a\x00b": 1, "a _;": 2, "a b c\n": 6,
	} {
		if g, at, e := edges.Parse(text); at != want || e != api.ErrSyntax || !edges.Same(g, api.Edges{}) {
			t.Errorf("%q: %d, %v, not at %d", text, at, e, want)
		}
	}
	pool := []string{"a", "B", "9", ";", "=", "$", "x", "y", ";"}
	ends := []string{"", ";", "a;", "x a;"}
	n := sample.Noise(2)
	goesOn := func(text string) bool {
		return slices.ContainsFunc(ends, func(end string) bool {
			_, _, e := edges.Parse(text + " " + end)
			return e == api.OK
		})
	}
	for range 2000 {
		text := ""
		for range n.Below(9) {
			text += pool[n.Below(len(pool))] + " "
		}
		if _, at, e := edges.Parse(text); e == api.ErrSyntax && (!goesOn(text[:at]) || at < len(text) && goesOn(text[:at+1])) {
			t.Fatalf("%q: %d", text, at)
		}
	}
}

func TestParseErrors(t *testing.T) {
	for _, x := range []struct {
		text string
		at   int
		e    api.Errno
	}{
		{strings.Repeat(" ", 2049), 0, api.ErrLong}, {strings.Repeat("$", 2049), 0, api.ErrLong}, {strings.Repeat(" ", 2048), 0, api.OK}, {"", 0, api.OK}, {strings.Repeat(" ", 2047) + "a", 2048, api.ErrSyntax},
		{long + ";", 0, api.ErrName}, {long, 17, api.ErrSyntax}, {"a " + long + " b;", 0, api.ErrName}, {"a b " + long + ";", 0, api.ErrName}, {"A " + long + " b; =", 23, api.ErrSyntax}, {long[:16] + ";", 0, api.OK},
		{strings.Join(many(33), ";") + ";", 0, api.ErrNodes}, {strings.Join(many(33), ";") + ";" + long + ";", 0, api.ErrName}, {strings.Join(many(32), ";") + ";n00;", 0, api.OK},
		{"a " + strings.Join(many(17), " a;a ") + " a;", 0, api.ErrLabels}, {strings.Repeat("a b c;", 340), 0, api.OK},
	} {
		if g, at, e := edges.Parse(x.text); at != x.at || e != x.e || e != api.OK && !edges.Same(g, api.Edges{}) {
			t.Errorf("%.40q: %d, %v", x.text, at, e)
		}
	}
	// Tight texts that are read, the first one of 2048 bytes as it is written.
	var tight strings.Builder
	for i := range 257 {
		tight.WriteString(string(rune('a'+i/17)) + " x " + string(rune('a'+i%17)) + ";")
	}
	text := tight.String()
	for text, want := range map[string]api.Errno{text[:256*6]: api.OK, text[:255*6] + "aa x a;": api.ErrWide, text: api.ErrEdges} {
		if _, at, e := edges.Parse(text); at != 0 || e != want {
			t.Error(at, e, want)
		}
	}
}

func TestExamples(t *testing.T) {
	g := parse(t, "b a c; x; c a b;x ;")
	if !edges.Same(g, graph(names("b c x"), edge("b", "a", "c"), edge("c", "a", "b"))) {
		t.Error(g)
	}
	if text := print(t, g); text != "x ;\nb a c ;\nc a b ;\n" {
		t.Errorf("%q", text)
	}
	if g := of(t, names("b"), edge("a", "x", "b")); !edges.Same(g, graph(names("a b"), edge("a", "x", "b"))) {
		t.Error(g)
	}
}

// P16.4
func TestJoinLabelsLone(t *testing.T) {
	n := sample.Noise(3)
	for range 200 {
		nodes := many(12)
		a := of(t, nodes[:n.Below(9)], n.Edges(n.Below(9), nodes, names("x y"))...)
		b := of(t, nodes[n.Below(9):], n.Edges(n.Below(9), nodes, names("z x"))...)
		both, e := edges.Join(a, b)
		back, e2 := edges.Join(b, a)
		if e != api.OK || e2 != api.OK || !edges.Same(both, back) || !edges.Same(both, rawOf(slices.Concat(a.Nodes, b.Nodes), slices.Concat(a.Edges, b.Edges))) {
			t.Fatal(both, e)
		}
		if self, e := edges.Join(a, a); e != api.OK || !edges.Same(self, a) {
			t.Fatal(self, e)
		}
		var labels, lone []string
		for _, l := range names("x y z") {
			if slices.ContainsFunc(both.Edges, func(x api.Edge) bool { return x.Label == l }) {
				labels = append(labels, l)
			}
		}
		for _, name := range both.Nodes {
			if !slices.ContainsFunc(both.Edges, func(x api.Edge) bool { return x.From == name || x.To == name }) {
				lone = append(lone, name)
			}
		}
		got, e := edges.Labels(both)
		alone, e2 := edges.Lone(both)
		if e != api.OK || e2 != api.OK || !slices.Equal(got, labels) || !slices.Equal(alone, lone) {
			t.Fatal(got, alone)
		}
	}
	bad, worse := graph([]string{"-"}), graph(names("b a"))
	for _, x := range []struct {
		a, b api.Edges
		e    api.Errno
	}{
		{bad, worse, api.ErrName}, {worse, bad, api.ErrArg}, {graph(nil), bad, api.ErrName}, {graph(many(20)), graph(many(32)), api.OK}, {graph(many(20)), graph(names("a b c d e f g h i j k l m")), api.ErrNodes},
		{of(t, nil, edge("a", "x", "b")), graph(many(33)), api.ErrNodes},
	} {
		if g, e := edges.Join(x.a, x.b); e != x.e || e != api.OK && !edges.Same(g, api.Edges{}) {
			t.Error(x, e)
		}
	}
}

// P16.5
func TestSame(t *testing.T) {
	g := graph(names("a b"), edge("a", "x", "b"))
	if !edges.Same(g, graph(names("a b"), edge("a", "x", "b"))) || !edges.Same(graph([]string{}, []api.Edge{}...), api.Edges{}) || !edges.Same(graph(names("b - b")), graph(names("b - b"))) {
		t.Error("the same")
	}
	for _, o := range []api.Edges{graph(names("b a"), edge("a", "x", "b")), graph(names("a b")), graph(names("a b"), edge("a", "x", "a")), graph(names("a"), edge("a", "x", "b")), graph(names("a b"), edge("a", "x", "b"), edge("a", "x", "b")), {}} {
		if edges.Same(g, o) || edges.Same(o, g) {
			t.Error(o)
		}
	}
}

// P16.6, P16.7
func TestTexts(t *testing.T) {
	n := sample.Noise(4)
	texts := map[string]api.Edges{}
	for range 400 {
		nodes := many(9)[:1+n.Below(9)]
		g := of(t, nodes[:n.Below(len(nodes)+1)], n.Edges(n.Below(12), nodes, names("x y n00"))...)
		text := print(t, g)
		if !edges.Same(parse(t, text), g) {
			t.Fatal(text)
		}
		if o, is := texts[text]; is && !edges.Same(o, g) {
			t.Fatal(text)
		}
		texts[text] = g
		lines := strings.SplitAfter(text, "\n")
		for i := range lines {
			k := n.Below(i + 1)
			lines[i], lines[k] = lines[k], lines[i]
		}
		shuffled := strings.Join(lines, " \t") + lines[0]
		if !edges.Same(parse(t, strings.ReplaceAll(shuffled, " ", "\r\n ")), g) {
			t.Fatal(shuffled)
		}
		back := slices.Clone(g.Edges)
		slices.Reverse(back)
		turned := slices.Clone(g.Nodes)
		slices.Reverse(turned)
		if !edges.Same(of(t, turned, back...), g) {
			t.Fatal(g)
		}
	}
}

func TestApart(t *testing.T) {
	g := graph(names("a b"), edge("a", "x", "b"))
	both, _ := edges.Join(g, api.Edges{})
	both.Nodes[0] = "z"
	both.Edges[0].To = "z"
	one, _ := edges.Of(g.Nodes, g.Edges)
	one.Nodes[0] = "z"
	one.Edges[0].To = "z"
	if !edges.Same(g, graph(names("a b"), edge("a", "x", "b"))) {
		t.Error("something is shared")
	}
}
