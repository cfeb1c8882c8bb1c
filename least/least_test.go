package least_test

import (
	"math"
	"slices"
	"testing"

	"byway/api"
	"byway/cfg"
	"byway/least"
	"byway/sample"
)

func nt(n int) api.Sym { return api.Sym{N: n} }

func label(n int) api.Sym { return api.Sym{Label: true, N: n} }

func prod(head int, body ...api.Sym) api.Prod { return api.Prod{Head: head, Body: body} }

func cnf(nts int, l ...api.Prod) api.Cnf { return api.Cnf{Nts: nts, Prods: l} }

func same(a, b api.Cnf) bool {
	return a.Nts == b.Nts && slices.EqualFunc(a.Prods, b.Prods, func(p, q api.Prod) bool {
		return p.Head == q.Head && slices.Equal(p.Body, q.Body)
	})
}

func copied(c api.Cnf) api.Cnf {
	twice, _ := cfg.Turn(c)
	twice, _ = cfg.Turn(twice)
	return twice
}

// example is the chapter's c.
func example() api.Cnf {
	return cnf(4, prod(0), prod(0, label(0), nt(1)), prod(1, nt(0), nt(0)), prod(2, nt(2)))
}

func TestExamples(t *testing.T) {
	c := example()
	half := []bool{true, true, false, false}
	if l, e := least.Empty(c); !slices.Equal(l, half) || e != api.OK {
		t.Error(l, e)
	}
	if l, e := least.Fruitful(c); !slices.Equal(l, half) || e != api.OK {
		t.Error(l, e)
	}
	if l, e := least.Used(c, 1); !slices.Equal(l, half) || e != api.OK {
		t.Error(l, e)
	}
	if l, e := least.Used(c); !slices.Equal(l, make([]bool, 4)) || e != api.OK {
		t.Error(l, e)
	}
	if l, e := least.Shortest(c); !slices.Equal(l, []int{0, 0, -1, -1}) || e != api.OK {
		t.Error(l, e)
	}
	if x, e := least.Clean(c, 0); !same(x, cnf(4, c.Prods[:3]...)) || e != api.OK {
		t.Error(x, e)
	}
	want := cnf(4, prod(0, label(0)), prod(0, label(0), nt(1)), prod(1, nt(0)), prod(1, nt(0), nt(0)), prod(2, nt(2)))
	if x, e := least.Without(c); !same(x, want) || e != api.OK {
		t.Error(x, e)
	}
}

// P13.1, P13.2
func TestKnown(t *testing.T) {
	n := sample.Noise(1)
	for range 400 {
		c := n.Prods(n.Below(14), 1+n.Below(6), n.Below(3), 3)
		words := sample.Derived(c, nil, 6)
		empty, e1 := least.Empty(c)
		fruitful, e2 := least.Fruitful(c)
		shortest, e3 := least.Shortest(c)
		if e1 != api.OK || e2 != api.OK || e3 != api.OK || len(empty) != c.Nts || len(fruitful) != c.Nts || len(shortest) != c.Nts {
			t.Fatal(e1, e2, e3)
		}
		for i, l := range words {
			low := -1
			for _, k := range l {
				if low < 0 || k < low {
					low = k
				}
			}
			if low < 0 && shortest[i] > 6 {
				low = shortest[i]
			}
			if shortest[i] != low || empty[i] != (low == 0) || fruitful[i] != (low >= 0) {
				t.Fatal(c, i, shortest[i], low, empty[i], fruitful[i])
			}
		}
	}
}

func TestUsed(t *testing.T) {
	n := sample.Noise(2)
	for range 300 {
		c := n.Prods(n.Below(9), 1+n.Below(7), 1, 3)
		from := []int{n.Below(c.Nts), n.Below(c.Nts)}[:n.Below(3)]
		l := slices.Clone(from)
		for i := 0; i < len(l); i++ {
			for _, p := range c.Prods {
				for _, s := range p.Body {
					if p.Head == l[i] && !s.Label && !slices.Contains(l, s.N) {
						l = append(l, s.N)
					}
				}
			}
		}
		is, e := least.Used(c, from...)
		if e != api.OK || len(is) != c.Nts {
			t.Fatal(e)
		}
		for i := range is {
			if is[i] != slices.Contains(l, i) {
				t.Fatal(c, from, is)
			}
		}
	}
}

// P13.2: lengths at and above the bound.
func TestShortestBounds(t *testing.T) {
	var l []api.Prod
	for i := range 9 {
		l = append(l, prod(i, nt(i+1), nt(i+1)))
	}
	c := cnf(10, append(l, prod(9, label(0)))...)
	if l, e := least.Shortest(c); !slices.Equal(l, []int{65, 65, 65, 64, 32, 16, 8, 4, 2, 1}) || e != api.OK {
		t.Error(l, e)
	}
	for count, want := range map[int]int{63: 63, 64: 64, 65: 65, 66: 65, 5000: 65} {
		long := slices.Repeat([]api.Sym{label(0)}, count)
		if l, e := least.Shortest(cnf(2, prod(0, long...), prod(1, nt(0), nt(0)))); l[0] != want || l[1] != 65 && 2*want <= 64 || e != api.OK {
			t.Error(count, l, e)
		}
	}
	many := cnf(1024)
	for i := range 1023 {
		many.Prods = append(many.Prods, prod(i, nt(i+1), label(3)))
	}
	many.Prods = append(many.Prods, prod(1023))
	m, e := least.Shortest(many)
	if e != api.OK || m[1023] != 0 || m[1000] != 23 || m[959] != 64 || m[958] != 65 || m[0] != 65 {
		t.Error(m, e)
	}
	// The first body that is found is not the shortest one.
	later := cnf(3, prod(0, nt(1), nt(1)), prod(0, label(0), label(0), label(0)), prod(1, nt(2)), prod(2, label(0)))
	if l, _ := least.Shortest(later); !slices.Equal(l, []int{2, 1, 1}) {
		t.Error(l)
	}
}

// P13.3
func TestClean(t *testing.T) {
	n := sample.Noise(3)
	for range 300 {
		c := n.Prods(n.Below(16), 1+n.Below(6), 2, 3)
		from := []int{n.Below(c.Nts), n.Below(c.Nts)}[:n.Below(3)]
		before := copied(c)
		fruitful, _ := least.Fruitful(c)
		good := cnf(c.Nts)
		for _, p := range c.Prods {
			if !slices.ContainsFunc(p.Body, func(s api.Sym) bool { return !s.Label && !fruitful[s.N] }) {
				good.Prods = append(good.Prods, p)
			}
		}
		used, _ := least.Used(good, from...)
		want := cnf(c.Nts)
		for _, p := range good.Prods {
			if used[p.Head] {
				want.Prods = append(want.Prods, p)
			}
		}
		x, e := least.Clean(c, from...)
		if e != api.OK || !same(x, want) {
			t.Fatal(c, from, x, e)
		}
		old, young := sample.Derived(c, nil, 4), sample.Derived(x, nil, 4)
		for _, i := range from {
			if !old[i].Same(young[i]) {
				t.Fatal("a word is lost")
			}
		}
		for i := range x.Prods {
			for k := range x.Prods[i].Body {
				x.Prods[i].Body[k].N = 99
			}
		}
		if !same(c, before) {
			t.Fatal("something is shared")
		}
	}
	// What is used by a production alone that goes is not used.
	c := cnf(4, prod(0, nt(1), nt(3)), prod(0), prod(1, nt(2)), prod(2))
	if x, _ := least.Clean(c, 0); !same(x, cnf(4, prod(0))) {
		t.Error(x)
	}
}

// P13.4
func TestWithout(t *testing.T) {
	n := sample.Noise(4)
	for range 300 {
		c := n.Prods(n.Below(12), 1+n.Below(4), 2, 4)
		before := copied(c)
		x, e := least.Without(c)
		if e != api.OK || !same(c, before) || !same(x, plain(c)) {
			t.Fatal(c, x, plain(c), e)
		}
		empty, _ := least.Empty(x)
		if slices.Contains(empty, true) {
			t.Fatal(x)
		}
		old, young := sample.Derived(c, nil, 4), sample.Derived(x, nil, 4)
		for i := range old {
			delete(old[i], "")
			if !old[i].Same(young[i]) {
				t.Fatal(c, x, old[i], young[i])
			}
		}
	}
}

// plain are the productions that Without answers, symbol by symbol.
func plain(c api.Cnf) api.Cnf {
	empty, _ := least.Empty(c)
	x := cnf(c.Nts)
	for _, p := range c.Prods {
		rows := [][]api.Sym{nil}
		for _, s := range p.Body {
			var next [][]api.Sym
			for _, r := range rows {
				next = append(next, slices.Concat(r, []api.Sym{s}))
				if !s.Label && empty[s.N] {
					next = append(next, r)
				}
			}
			rows = next
		}
		for _, r := range rows {
			if len(r) > 0 {
				x.Prods = append(x.Prods, prod(p.Head, r...))
			}
		}
	}
	x, _ = cfg.Sort(x)
	return x
}

func TestMany(t *testing.T) {
	row := func(count int) []api.Sym { return slices.Repeat([]api.Sym{nt(0)}, count) }
	x, e := least.Without(cnf(2, prod(0), prod(1, append(row(12), label(0), label(0))...)))
	if e != api.OK || len(x.Prods) != 13 || len(x.Prods[0].Body) != 2 || len(x.Prods[12].Body) != 14 {
		t.Error(len(x.Prods), e)
	}
	x, e = least.Without(cnf(2, prod(0), prod(1, append(row(6), append([]api.Sym{label(0)}, row(7)...)...)...)))
	if e != api.ErrMany || !same(x, api.Cnf{}) {
		t.Error(x, e)
	}
	x, e = least.Without(cnf(2, prod(0, label(0)), prod(1, row(40)...)))
	if e != api.OK || len(x.Prods) != 2 {
		t.Error(x, e)
	}
}

func TestErrors(t *testing.T) {
	for _, c := range []api.Cnf{{}, cnf(1, prod(1)), cnf(1025), cnf(1, prod(0, nt(1))), cnf(1, prod(0, label(16)))} {
		a, e1 := least.Empty(c)
		b, e2 := least.Fruitful(c)
		d, e3 := least.Used(c, -1)
		f, e4 := least.Shortest(c)
		g, e5 := least.Clean(c, -1)
		h, e6 := least.Without(c)
		for i, e := range []api.Errno{e1, e2, e3, e4, e5, e6} {
			if e != api.ErrProds {
				t.Error(c, i, e)
			}
		}
		if a != nil || b != nil || d != nil || f != nil || !same(g, api.Cnf{}) || !same(h, api.Cnf{}) {
			t.Error(c, "an answer beside an error")
		}
	}
	c := example()
	for _, wrong := range []int{-1, 4, 5, math.MinInt, math.MaxInt} {
		l, e1 := least.Used(c, 0, wrong)
		x, e2 := least.Clean(c, wrong, 0)
		if l != nil || !same(x, api.Cnf{}) || e1 != api.ErrArg || e2 != api.ErrArg {
			t.Error(wrong, e1, e2)
		}
	}
}
