package symbols_test

import (
	"math"
	"slices"
	"strconv"
	"testing"

	"byway/api"
	"byway/bnf"
	"byway/sample"
	"byway/symbols"
)

func grammar(t *testing.T, text string) []api.Rule {
	t.Helper()
	g, _, e := bnf.Parse(text)
	if e != api.OK {
		t.Fatal(text, e)
	}
	return g
}

func table(t *testing.T, text string) *symbols.Table {
	t.Helper()
	x, e := symbols.Of(grammar(t, text))
	if e != api.OK {
		t.Fatal(text, e)
	}
	return x
}

func nt(n int) api.Sym { return api.Sym{N: n} }

func label(n int) api.Sym { return api.Sym{Label: true, N: n} }

type pair struct {
	sym  api.Sym
	name string
}

func all(x *symbols.Table) []pair {
	var l []pair
	for s, name := range x.All() {
		l = append(l, pair{s, name})
	}
	return l
}

// P9.1
func TestOf(t *testing.T) {
	x := table(t, "T = b S | z; S = a; T = c T; U = %;")
	if !slices.Equal(x.Names(), []string{"T", "S", "U"}) || !slices.Equal(x.Labels(), []string{"a", "b", "c", "z"}) {
		t.Error(x.Names(), x.Labels())
	}
	for _, g := range [][]api.Rule{nil, {{Head: "s"}}, grammar(t, "S = T; T = a;")[:1], slices.Repeat(grammar(t, "S = a;"), 65)} {
		if x, e := symbols.Of(g); x != nil || e != bnf.Check(g) || e == api.OK {
			t.Error(x, e)
		}
	}
	x.Names()[0] = "X"
	x.Labels()[0] = "x"
	if x.Names()[0] != "T" || x.Labels()[0] != "a" {
		t.Error("a list is kept")
	}
}

func TestNothingIsKept(t *testing.T) {
	g := grammar(t, "S = a T; T = b;")
	x, _ := symbols.Of(g)
	g[0].Head = "X"
	g[0].Body[1].Name = "z"
	if !slices.Equal(x.Names(), []string{"S", "T"}) || !slices.Equal(x.Labels(), []string{"a", "b"}) {
		t.Error(x.Names(), x.Labels())
	}
}

// P9.2, P9.3: the chapter's examples, and wrong ones
func TestExamples(t *testing.T) {
	x := table(t, "S = b T; T = a S;")
	for _, c := range []struct {
		call func(string) (int, api.Errno)
		name string
		n    int
		e    api.Errno
	}{
		{x.Nt, "S", 0, api.OK}, {x.Nt, "T", 1, api.OK}, {x.Nt, "a", 0, api.ErrNone}, {x.Nt, "", 0, api.ErrNone}, {x.Nt, "U", 0, api.ErrNone},
		{x.Label, "a", 0, api.OK}, {x.Label, "b", 1, api.OK}, {x.Label, "c", 0, api.ErrNone}, {x.Label, "S", 0, api.ErrNone}, {x.Label, "", 0, api.ErrNone},
	} {
		if n, e := c.call(c.name); n != c.n || e != c.e {
			t.Error(c.name, n, e)
		}
	}
	for _, c := range []struct {
		n   api.Node
		sym api.Sym
		e   api.Errno
	}{
		{api.Node{Kind: api.KindName, Name: "S"}, nt(0), api.OK}, {api.Node{Kind: api.KindName, Name: "T", Kids: -9}, nt(1), api.OK}, {api.Node{Kind: api.KindLabel, Name: "b", Kids: 3}, label(1), api.OK},
		{api.Node{Kind: api.KindStar}, nt(0), api.ErrArg}, {api.Node{Kind: api.KindStar, Name: "S"}, nt(0), api.ErrArg}, {api.Node{Name: "S"}, nt(0), api.ErrArg}, {api.Node{Kind: 99, Name: "a"}, nt(0), api.ErrArg}, {api.Node{Kind: -1}, nt(0), api.ErrArg},
		{api.Node{Kind: api.KindName, Name: "a"}, nt(0), api.ErrNone}, {api.Node{Kind: api.KindLabel, Name: "S"}, nt(0), api.ErrNone}, {api.Node{Kind: api.KindLabel}, nt(0), api.ErrNone},
	} {
		if s, e := x.Sym(c.n); s != c.sym || e != c.e {
			t.Error(c.n, s, e)
		}
	}
	for _, c := range []struct {
		s    api.Sym
		name string
		e    api.Errno
	}{
		{nt(0), "S", api.OK}, {nt(1), "T", api.OK}, {label(0), "a", api.OK}, {label(1), "b", api.OK}, {nt(2), "", api.ErrNone}, {label(2), "", api.ErrNone},
		{nt(-1), "", api.ErrNone}, {label(math.MinInt), "", api.ErrNone}, {nt(math.MaxInt), "", api.ErrNone},
	} {
		if name, e := x.Name(c.s); name != c.name || e != c.e {
			t.Error(c.s, name, e)
		}
	}
	words(t, x)
}

func words(t *testing.T, x *symbols.Table) {
	t.Helper()
	if w, e := x.Word("a", "b", "a"); !slices.Equal(w, []int{0, 1, 0}) || e != api.OK {
		t.Error(w, e)
	}
	if w, e := x.Word(); len(w) != 0 || e != api.OK {
		t.Error(w, e)
	}
	for _, l := range [][]string{{"a", "S"}, {"c"}, {"a", ""}, {"", "a"}} {
		if w, e := x.Word(l...); w != nil || e != api.ErrNone {
			t.Error(l, w, e)
		}
	}
	if l, e := x.Spell(1, 0); !slices.Equal(l, []string{"b", "a"}) || e != api.OK {
		t.Error(l, e)
	}
	if l, e := x.Spell(); len(l) != 0 || e != api.OK {
		t.Error(l, e)
	}
	for _, w := range [][]int{{2}, {0, -1}, {math.MaxInt, 0}, {math.MinInt}} {
		if l, e := x.Spell(w...); l != nil || e != api.ErrNone {
			t.Error(w, l, e)
		}
	}
}

func TestNil(t *testing.T) {
	for _, x := range []*symbols.Table{nil, new(symbols.Table)} {
		if len(x.Names()) != 0 || len(x.Labels()) != 0 || len(all(x)) != 0 {
			t.Error("names of no table")
		}
		n1, e1 := x.Nt("S")
		n2, e2 := x.Label("a")
		if n1 != 0 || n2 != 0 {
			t.Error("an answer beside an error")
		}
		_, e3 := x.Sym(api.Node{Kind: api.KindStar})
		_, e4 := x.Name(nt(-1))
		_, e5 := x.Word("a")
		_, e6 := x.Spell(-1)
		_, e7 := x.Word()
		_, e8 := x.Spell()
		for i, e := range []api.Errno{e1, e2, e3, e4, e5, e6, e7, e8} {
			if e != api.ErrNil {
				t.Error(i, e)
			}
		}
	}
}

// P9.4
func TestAll(t *testing.T) {
	x := table(t, "S = b T; T = a S;")
	want := []pair{{nt(0), "S"}, {nt(1), "T"}, {label(0), "a"}, {label(1), "b"}}
	if l := all(x); !slices.Equal(l, want) {
		t.Error(l)
	}
	for stop := range 4 {
		count := 0
		for range x.All() {
			if count == stop {
				break
			}
			count++
		}
		if count != stop {
			t.Error(count)
		}
	}
}

// P9.5
func TestWhatFollows(t *testing.T) {
	n := sample.Noise(1)
	for range 200 {
		g := n.Grammar(6, 4, []string{"S", "T", "U"}, []string{"a", "b", "c"})
		x, e := symbols.Of(g)
		if e != api.OK {
			continue
		}
		for s, name := range x.All() {
			number := x.Nt
			if s.Label {
				number = x.Label
			}
			i, e := number(name)
			back, e2 := x.Name(s)
			if i != s.N || back != name || e != api.OK || e2 != api.OK {
				t.Fatal(s, name, i, back)
			}
		}
		w, _ := x.Word(x.Labels()...)
		l, _ := x.Spell(w...)
		if !slices.Equal(l, x.Labels()) || !slices.Equal(x.Names(), bnf.Heads(g)) || !slices.Equal(l, bnf.Labels(g)) {
			t.Fatal(w, l)
		}
	}
	a, b := table(t, "S = a T b*; T = c; S = b;"), table(t, "S = c; T = (T | b) a; T = S;")
	if !slices.Equal(all(a), all(b)) {
		t.Error(all(a), all(b))
	}
}

func TestMany(t *testing.T) {
	text := ""
	for i := range 16 {
		text += "A" + strconv.Itoa(i) + "= a" + strconv.Itoa(i) + ";"
	}
	x := table(t, text)
	if n, e := x.Nt("A15"); n != 15 || e != api.OK {
		t.Error(n, e)
	}
	if n, e := x.Label("a10"); n != 2 || e != api.OK {
		t.Error(n, e)
	}
}
