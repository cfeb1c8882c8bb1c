package box_test

import (
	"math"
	"slices"
	"strconv"
	"strings"
	"testing"

	"byway/api"
	"byway/bnf"
	"byway/box"
	"byway/regex"
	"byway/sample"
	"byway/symbols"
)

func table(t *testing.T, text string) *symbols.Table {
	t.Helper()
	g, _, e := bnf.Parse(text)
	if e != api.OK {
		t.Fatal(text, e)
	}
	x, _ := symbols.Of(g)
	return x
}

func body(t *testing.T, text string) []api.Node {
	t.Helper()
	l, _, e := regex.Read(text)
	if e != api.OK {
		t.Fatal(text, e)
	}
	return l
}

func bodies(t *testing.T, texts ...string) [][]api.Node {
	t.Helper()
	var l [][]api.Node
	for _, text := range texts {
		l = append(l, body(t, text))
	}
	return l
}

func nt(n int) api.Sym { return api.Sym{N: n} }

func label(n int) api.Sym { return api.Sym{Label: true, N: n} }

func arc(from int, s api.Sym, to int) api.Arc { return api.Arc{From: from, Sym: s, To: to} }

func same(a, b api.Auto) bool {
	return a.States == b.States && slices.Equal(a.Finals, b.Finals) && slices.Equal(a.Arcs, b.Arcs)
}

func of(t *testing.T, x *symbols.Table, texts ...string) api.Auto {
	t.Helper()
	a, e := box.Of(x, bodies(t, texts...)...)
	if e != api.OK {
		t.Fatal(texts, e)
	}
	return a
}

// P10.1
func TestExamples(t *testing.T) {
	x := table(t, "S = a T; T = b;")
	first := of(t, x, "a b*")
	for _, c := range []struct{ got, want api.Auto }{
		{first, api.Auto{States: 3, Finals: []int{1, 2}, Arcs: []api.Arc{arc(0, label(0), 1), arc(1, label(1), 2), arc(2, label(1), 2)}}},
		{of(t, x, "a | b", "%"), api.Auto{States: 3, Finals: []int{0, 1, 2}, Arcs: []api.Arc{arc(0, label(0), 1), arc(0, label(1), 2)}}},
		{of(t, x), api.Auto{States: 1}},
		{of(t, x, "b b | a | T | S"), api.Auto{States: 6, Finals: []int{2, 3, 4, 5}, Arcs: []api.Arc{arc(0, nt(0), 5), arc(0, nt(1), 4), arc(0, label(0), 3), arc(0, label(1), 1), arc(1, label(1), 2)}}},
	} {
		if !same(c.got, c.want) {
			t.Error(c.got, c.want)
		}
	}
	for _, c := range []struct {
		word []api.Sym
		is   bool
	}{{[]api.Sym{label(0), label(1), label(1)}, true}, {[]api.Sym{label(1)}, false}, {nil, false}, {[]api.Sym{nt(0)}, false}} {
		if is, e := box.Has(first, c.word...); is != c.is || e != api.OK {
			t.Error(c.word, is, e)
		}
	}
	if l, e := box.Step(first, []int{1, 2}, label(1)); !slices.Equal(l, []int{2}) || e != api.OK {
		t.Error(l, e)
	}
	if l, e := box.Step(first, []int{3}, label(1)); l != nil || e != api.ErrArg {
		t.Error(l, e)
	}
	if l, e := box.Live(first); !slices.Equal(l, []int{0, 1, 2}) || e != api.OK {
		t.Error(l, e)
	}
}

func TestErrors(t *testing.T) {
	x := table(t, "S = a T; T = b;")
	broken := body(t, "a b")[:2]
	many := func(k int) []api.Node { return body(t, strings.TrimSpace(strings.Repeat("a ", k))) }
	deep, wide := body(t, "c"+strings.Repeat("*", 16)), body(t, strings.Repeat("%", 1100))
	long := slices.Repeat(body(t, "a"), 2049)
	for i, c := range []struct {
		bodies [][]api.Node
		e      api.Errno
	}{
		{bodies(t, "c"), api.ErrNone}, {bodies(t, "U"), api.ErrNone}, {bodies(t, "a", "b | c"), api.ErrNone}, {[][]api.Node{body(t, "c"), broken}, api.ErrTree}, {[][]api.Node{nil}, api.ErrTree},
		{[][]api.Node{broken, deep}, api.ErrTree}, {[][]api.Node{deep, broken}, api.ErrDeep}, {[][]api.Node{wide, deep}, api.ErrWide}, {[][]api.Node{long, broken}, api.ErrLong},
		{[][]api.Node{many(64)}, api.OK}, {[][]api.Node{many(65)}, api.ErrOcc}, {[][]api.Node{many(40), many(24)}, api.OK}, {[][]api.Node{many(40), many(25)}, api.ErrOcc}, {[][]api.Node{many(65), body(t, "c")}, api.ErrNone},
	} {
		for _, none := range []*symbols.Table{nil, new(symbols.Table)} {
			if a, e := box.Of(none, c.bodies...); !same(a, api.Auto{}) || e != api.ErrNil {
				t.Error(i, a, e)
			}
		}
		a, e := box.Of(x, c.bodies...)
		if e != c.e || e != api.OK && !same(a, api.Auto{}) || e == api.OK && a.States != 65 {
			t.Error(i, a, e)
		}
	}
	if a, e := box.Of(nil); a.States != 0 || e != api.ErrNil {
		t.Error(a, e)
	}
}

// P10.2
func TestCheck(t *testing.T) {
	good := api.Auto{States: 3, Finals: []int{0, 2}, Arcs: []api.Arc{arc(0, nt(5), 1), arc(0, label(0), 0), arc(0, label(0), 2), arc(2, nt(0), 0), arc(2, nt(math.MaxInt), 0)}}
	for _, a := range []api.Auto{good, {States: 1}, {States: 65, Finals: []int{64}, Arcs: []api.Arc{arc(64, nt(0), 64)}}, {States: 1, Finals: []int{}, Arcs: []api.Arc{}}} {
		if e := box.Check(a); e != api.OK {
			t.Error(a, e)
		}
	}
	for _, a := range []api.Auto{
		{}, {States: -1}, {States: 66}, {States: math.MinInt}, {States: math.MaxInt}, {States: 2, Finals: []int{2}}, {States: 2, Finals: []int{-1}}, {States: 2, Finals: []int{1, 0}}, {States: 2, Finals: []int{1, 1}},
		{States: 2, Arcs: []api.Arc{arc(2, nt(0), 0)}}, {States: 2, Arcs: []api.Arc{arc(0, nt(0), 2)}}, {States: 2, Arcs: []api.Arc{arc(-1, nt(0), 0)}}, {States: 2, Arcs: []api.Arc{arc(0, nt(0), -1)}}, {States: 2, Arcs: []api.Arc{arc(0, nt(-1), 0)}}, {States: 2, Arcs: []api.Arc{arc(0, label(-1), 0)}},
		{States: 2, Arcs: []api.Arc{arc(1, nt(0), 0), arc(0, nt(0), 0)}}, {States: 2, Arcs: []api.Arc{arc(0, label(0), 0), arc(0, nt(9), 0)}}, {States: 2, Arcs: []api.Arc{arc(0, nt(1), 0), arc(0, nt(0), 1)}}, {States: 2, Arcs: []api.Arc{arc(0, nt(0), 1), arc(0, nt(0), 0)}}, {States: 2, Arcs: []api.Arc{arc(0, nt(0), 1), arc(0, nt(0), 1)}},
	} {
		has, e1 := box.Has(a, make([]api.Sym, 65)...)
		step, e2 := box.Step(a, []int{-1}, nt(0))
		syms, e3 := box.Syms(a)
		live, e4 := box.Live(a)
		for _, e := range []api.Errno{box.Check(a), e1, e2, e3, e4} {
			if e != api.ErrAuto {
				t.Error(a, e)
			}
		}
		if has || step != nil || syms != nil || live != nil {
			t.Error(a, "an answer beside an error")
		}
	}
}

// plainStep is where a symbol leads, by loops alone.
func plainStep(a api.Auto, from []int, s api.Sym) []int {
	var to []int
	for q := range a.States {
		if slices.ContainsFunc(a.Arcs, func(x api.Arc) bool { return x.To == q && x.Sym == s && slices.Contains(from, x.From) }) {
			to = append(to, q)
		}
	}
	return to
}

func random(n *sample.Noise, states int) api.Auto {
	a := api.Auto{States: states}
	for q := range states {
		if n.Below(3) == 0 {
			a.Finals = append(a.Finals, q)
		}
		for _, s := range []api.Sym{nt(0), nt(1), label(0), label(3)} {
			for to := range states {
				if n.Below(2*states) == 0 {
					a.Arcs = append(a.Arcs, arc(q, s, to))
				}
			}
		}
	}
	return a
}

// P10.3, P10.4
func TestAnyAutomata(t *testing.T) {
	n := sample.Noise(2)
	syms := []api.Sym{nt(0), nt(1), label(0), label(3)}
	for i := range 300 {
		a := random(&n, 1+n.Below(65))
		if e := box.Check(a); e != api.OK {
			t.Fatal(a, e)
		}
		var from, at []int
		var word []api.Sym
		at = []int{0}
		for range n.Below(9) {
			from = append(from, n.Below(a.States))
			word = append(word, syms[n.Below(4)])
			at = plainStep(a, at, word[len(word)-1])
		}
		for _, s := range append(syms, nt(-1), label(7), nt(3)) {
			if l, e := box.Step(a, from, s); e != api.OK || !slices.Equal(l, plainStep(a, from, s)) {
				t.Fatal(i, l, e)
			}
		}
		want := slices.ContainsFunc(at, func(q int) bool { return slices.Contains(a.Finals, q) })
		if is, e := box.Has(a, word...); e != api.OK || is != want {
			t.Fatal(i, is, e)
		}
		live(t, a)
	}
}

// live holds Live and Syms against searches from each state.
func live(t *testing.T, a api.Auto) {
	t.Helper()
	reached := func(from int) []int {
		l := []int{from}
		for i := 0; i < len(l); i++ {
			for _, x := range a.Arcs {
				if x.From == l[i] && !slices.Contains(l, x.To) {
					l = append(l, x.To)
				}
			}
		}
		return l
	}
	var want []int
	for _, q := range reached(0) {
		if slices.ContainsFunc(reached(q), func(f int) bool { return slices.Contains(a.Finals, f) }) {
			want = append(want, q)
		}
	}
	slices.Sort(want)
	if l, e := box.Live(a); e != api.OK || !slices.Equal(l, want) {
		t.Fatal(l, want, e)
	}
	var syms []api.Sym
	for _, s := range []api.Sym{nt(0), nt(1), label(0), label(3)} {
		if slices.ContainsFunc(a.Arcs, func(x api.Arc) bool { return x.Sym == s }) {
			syms = append(syms, s)
		}
	}
	if l, e := box.Syms(a); e != api.OK || !slices.Equal(l, syms) {
		t.Fatal(l, syms, e)
	}
}

func TestBounds(t *testing.T) {
	ring := api.Auto{States: 65, Finals: []int{64}}
	for q := range 65 {
		ring.Arcs = append(ring.Arcs, arc(q, nt(0), (q+1)%65))
	}
	word := make([]api.Sym, 65)
	if is, e := box.Has(ring, word[:64]...); !is || e != api.OK {
		t.Error(is, e)
	}
	if is, e := box.Has(ring, word[:63]...); is || e != api.OK {
		t.Error(is, e)
	}
	if is, e := box.Has(ring, word...); is || e != api.ErrLong {
		t.Error(is, e)
	}
	for _, q := range []int{-1, 65, math.MinInt, math.MaxInt} {
		if l, e := box.Step(ring, []int{0, q}, nt(0)); l != nil || e != api.ErrArg {
			t.Error(l, e)
		}
	}
	if l, e := box.Step(ring, []int{64, 63, 64, 0}, nt(0)); !slices.Equal(l, []int{0, 1, 64}) || e != api.OK {
		t.Error(l, e)
	}
	if l, e := box.Step(ring, nil, nt(0)); len(l) != 0 || e != api.OK {
		t.Error(l, e)
	}
}

// P10.5, and P10.1 of the words
func TestWords(t *testing.T) {
	x := table(t, "S = a b T; T = %;")
	names := []string{"a", "b", "S", "T"}
	words := sample.Words(names, 4)
	n := sample.Noise(3)
	for range 150 {
		var l [][]api.Node
		for range 1 + n.Below(3) {
			l = append(l, n.Tree(4, []string{"S", "T"}, []string{"a", "b"}))
		}
		a, e := box.Of(x, l...)
		if e != api.OK || box.Check(a) != api.OK {
			t.Fatal(e)
		}
		for _, w := range words {
			var syms []api.Sym
			for _, name := range w {
				syms = append(syms, map[string]api.Sym{"a": label(0), "b": label(1), "S": nt(0), "T": nt(1)}[name])
			}
			want := slices.ContainsFunc(l, func(b []api.Node) bool { is, _ := regex.Match(b, w); return is })
			if is, e := box.Has(a, syms...); e != api.OK || is != want {
				t.Fatal(l, w, is, e)
			}
		}
		shape(t, a)
	}
}

func shape(t *testing.T, a api.Auto) {
	t.Helper()
	into := map[int]api.Sym{}
	for _, x := range a.Arcs {
		if s, is := into[x.To]; x.To == 0 || is && s != x.Sym {
			t.Fatal(x)
		}
		into[x.To] = x.Sym
	}
	if l, _ := box.Live(a); len(l) != a.States {
		t.Fatal(l)
	}
}

// Occurrences that are told apart show in the words which can begin, follow, end.
func TestOccurrences(t *testing.T) {
	var labels []string
	for i := range 4 {
		labels = append(labels, "a"+strconv.Itoa(i))
	}
	x := table(t, "S = "+strings.Join(labels, " ")+";")
	words := sample.Words(labels, 6)
	n := sample.Noise(4)
	for range 60 {
		l := n.Tree(4, nil, []string{"x"})
		count := 0
		for i := range regex.Names(l) {
			if count < 4 {
				l[i].Name = labels[count]
			}
			count++
		}
		if count > 4 {
			continue
		}
		want := api.Auto{States: count + 1}
		arcs := map[api.Arc]bool{}
		finals := map[int]bool{}
		for _, w := range words {
			if is, _ := regex.Match(l, w); is {
				at := 0
				for _, name := range w {
					to := slices.Index(labels, name) + 1
					arcs[arc(at, label(to-1), to)] = true
					at = to
				}
				finals[at] = true
			}
		}
		for q := range count + 1 {
			if finals[q] {
				want.Finals = append(want.Finals, q)
			}
			for to := range count + 1 {
				if x := arc(q, label(to-1), to); arcs[x] {
					want.Arcs = append(want.Arcs, x)
				}
			}
		}
		if a, e := box.Of(x, l); e != api.OK || !same(a, want) {
			t.Fatal(l, a, want)
		}
	}
}
