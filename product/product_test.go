package product_test

import (
	"math"
	"slices"
	"testing"

	"byway/api"
	"byway/product"
	"byway/quad"
	"byway/sample"
)

var sides = []int{1, 2, 63, 64, 65, 70, 129, 200}

func cell(r, c int) api.Cell { return api.Cell{Row: r, Col: c} }

func of(t *testing.T, side int, cells ...api.Cell) *quad.Matrix {
	t.Helper()
	m, e := quad.Of(side, cells...)
	if e != api.OK {
		t.Fatal(e)
	}
	return m
}

func listed(m *quad.Matrix) []api.Cell {
	var l []api.Cell
	for i, j := range m.Cells() {
		l = append(l, cell(i, j))
	}
	return l
}

func ok(t *testing.T, m *quad.Matrix, e api.Errno) *quad.Matrix {
	t.Helper()
	if e != api.OK || m == nil {
		t.Fatal(m, e)
	}
	return m
}

func mul(t *testing.T, a, b *quad.Matrix) *quad.Matrix {
	t.Helper()
	m, e := product.Mul(a, b)
	return ok(t, m, e)
}

// plain is the product, cell by cell.
func plain(t *testing.T, a, b *quad.Matrix) *quad.Matrix {
	t.Helper()
	c := of(t, a.Side())
	l := listed(b)
	for i, k := range a.Cells() {
		for _, x := range l {
			if x.Row == k {
				c.Set(i, x.Col)
			}
		}
	}
	return c
}

func same(t *testing.T, a, b *quad.Matrix) {
	t.Helper()
	if !quad.Same(a, b) {
		t.Fatalf("%v is not %v", listed(a), listed(b))
	}
}

func samples(t *testing.T, side int) []*quad.Matrix {
	n := sample.Noise(side)
	ring, step := of(t, side), of(t, side)
	for i := range side {
		ring.Set(i, (i+1)%side)
		if i+1 < side {
			step.Set(i, i+1)
		}
	}
	one, _ := product.One(side)
	return []*quad.Matrix{of(t, side), one, ring, step, of(t, side, n.Cells(side, 5)...),
		of(t, side, n.Cells(side, side)...), of(t, side, n.Cells(side, 3*side)...)}
}

// P3.1
func TestOneMul(t *testing.T) {
	for _, side := range append(sides, 1023, 1024) {
		one, e := product.One(side)
		want := of(t, side)
		for i := range side {
			want.Set(i, i)
		}
		same(t, ok(t, one, e), want)
	}
	for _, side := range []int{0, -1, 1025, math.MaxInt, math.MinInt} {
		if m, e := product.One(side); m != nil || e != api.ErrArg {
			t.Error(side, m, e)
		}
	}
	for _, side := range sides {
		for _, a := range samples(t, side) {
			for _, b := range samples(t, side) {
				x, y := a.Copy(), b.Copy()
				p := mul(t, a, b)
				same(t, p, plain(t, a, b))
				p.Set(0, 0)
				p.Set(side-1, side-1)
				same(t, a, x)
				same(t, b, y)
			}
		}
	}
}

func TestOneIsAnother(t *testing.T) {
	one, _ := product.One(80)
	m := of(t, 80, cell(1, 2))
	p := mul(t, m, one)
	p.Set(5, 5)
	q, _ := product.Chain(m)
	q.Set(6, 6)
	r, _ := product.Power(m, 1)
	r.Set(7, 7)
	same(t, m, of(t, 80, cell(1, 2)))
}

// P3.2
func TestInto(t *testing.T) {
	for _, side := range sides {
		for _, a := range samples(t, side) {
			for _, b := range samples(t, side) {
				checkInto(t, a, b)
			}
		}
	}
}

func checkInto(t *testing.T, a, b *quad.Matrix) {
	t.Helper()
	n := sample.Noise(3)
	base := of(t, a.Side(), n.Cells(a.Side(), 10)...)
	into := func(c, a, b *quad.Matrix) {
		t.Helper()
		want := c.Copy()
		fresh, _ := want.Join(plain(t, a, b))
		if is, e := product.Into(c, a, b); e != api.OK || is != fresh {
			t.Fatal(is, e)
		}
		same(t, c, want)
	}
	into(base.Copy(), a, b)
	c := a.Copy()
	into(c, c, b)
	c = b.Copy()
	into(c, a, c)
	c = a.Copy()
	into(c, c, c)
}

// P3.3
func TestChainPower(t *testing.T) {
	for _, side := range sides {
		l := samples(t, side)
		a, b, c := l[4], l[5], l[6]
		one, e := product.Chain(a)
		same(t, ok(t, one, e), a)
		two, e := product.Chain(a, b)
		same(t, ok(t, two, e), plain(t, a, b))
		many, e := product.Chain(a, b, c, a)
		same(t, ok(t, many, e), plain(t, plain(t, plain(t, a, b), c), a))
		for _, m := range l {
			want, _ := product.One(side)
			for n := range 10 {
				p, e := product.Power(m, n)
				same(t, ok(t, p, e), want)
				want = plain(t, want, m)
			}
		}
	}
}

func TestGreatPowers(t *testing.T) {
	ring := of(t, 70)
	for i := range 70 {
		ring.Set(i, (i+1)%70)
	}
	for _, n := range []int{70, 139, 1 << 40, math.MaxInt, math.MaxInt - 1} {
		p, e := product.Power(ring, n)
		want := of(t, 70)
		for i := range 70 {
			want.Set(i, (i+n%70)%70)
		}
		same(t, ok(t, p, e), want)
	}
	for _, n := range []int{-1, math.MinInt} {
		if p, e := product.Power(ring, n); p != nil || e != api.ErrArg {
			t.Error(n, p, e)
		}
	}
}

// P3.4
func TestWalk(t *testing.T) {
	for _, side := range sides {
		for _, m := range samples(t, side) {
			p, _ := product.One(side)
			for n := range 6 {
				for _, from := range []int{0, side / 2, side - 1} {
					want, _ := p.Row(from)
					if l, e := product.Walk(m, from, n); e != api.OK || !slices.Equal(l, want) {
						t.Fatal(side, from, n, l, want, e)
					}
				}
				p = plain(t, p, m)
			}
		}
	}
}

func TestLongWalks(t *testing.T) {
	const side = 1024
	m := of(t, side)
	for i := range side {
		m.Set(i, (i+1)%side)
	}
	for _, n := range []int{0, 1, 1023, 1024} {
		if l, e := product.Walk(m, 5, n); e != api.OK || !slices.Equal(l, []int{(5 + n) % side}) {
			t.Error(n, l, e)
		}
	}
	cut := of(t, side, cell(0, 1), cell(1, 2))
	if l, e := product.Walk(cut, 0, 1024); len(l) != 0 || e != api.OK {
		t.Error(l, e)
	}
	for _, x := range [][2]int{{-1, 0}, {1024, 0}, {0, -1}, {0, 1025}, {math.MinInt, 1}, {math.MaxInt, 1}, {0, math.MaxInt}, {0, math.MinInt}} {
		if l, e := product.Walk(m, x[0], x[1]); l != nil || e != api.ErrArg {
			t.Error(x, l, e)
		}
	}
}

func TestErrors(t *testing.T) {
	m, n := of(t, 70, cell(1, 2)), of(t, 71)
	zero := new(quad.Matrix)
	for _, none := range []*quad.Matrix{nil, zero} {
		for _, l := range [][3]*quad.Matrix{{none, m, m}, {m, none, m}, {m, m, none}, {n, m, none}, {none, m, n}, {none, none, none}} {
			if is, e := product.Into(l[0], l[1], l[2]); is || e != api.ErrNil {
				t.Error(is, e)
			}
			if p, e := product.Chain(l[:]...); p != nil || e != api.ErrNil {
				t.Error(p, e)
			}
		}
		_, e1 := product.Mul(none, m)
		_, e2 := product.Mul(m, none)
		_, e3 := product.Power(none, -1)
		_, e4 := product.Walk(none, -1, -1)
		for _, e := range []api.Errno{e1, e2, e3, e4} {
			if e != api.ErrNil {
				t.Error(e)
			}
		}
	}
	for _, l := range [][3]*quad.Matrix{{n, m, m}, {m, n, m}, {m, m, n}} {
		if is, e := product.Into(l[0], l[1], l[2]); is || e != api.ErrSide {
			t.Error(is, e)
		}
		if p, e := product.Chain(l[:]...); p != nil || e != api.ErrSide {
			t.Error(p, e)
		}
	}
	if p, e := product.Mul(m, n); p != nil || e != api.ErrSide {
		t.Error(p, e)
	}
	if p, e := product.Chain(); p != nil || e != api.ErrArg {
		t.Error(p, e)
	}
	same(t, m, of(t, 70, cell(1, 2)))
	same(t, n, of(t, 71))
}

// P3.5
func TestWhatFollows(t *testing.T) {
	for _, side := range sides {
		l := samples(t, side)
		one := l[1]
		for i, a := range l {
			b, c := l[(i+3)%len(l)], l[(i+5)%len(l)]
			same(t, mul(t, mul(t, a, b), c), mul(t, a, mul(t, b, c)))
			same(t, mul(t, one, a), a)
			same(t, mul(t, a, one), a)
			same(t, mul(t, a, b).Turn(), mul(t, b.Turn(), a.Turn()))
			both, left, right := b.Copy(), mul(t, a, b), mul(t, b, a)
			both.Join(c)
			left.Join(mul(t, a, c))
			right.Join(mul(t, c, a))
			same(t, mul(t, a, both), left)
			same(t, mul(t, both, a), right)
			p, _ := product.Power(a, 5)
			q, _ := product.Power(a, 9)
			r, _ := product.Power(a, 14)
			same(t, mul(t, p, q), r)
		}
	}
}

func TestExamples(t *testing.T) {
	m := of(t, 70, cell(0, 69), cell(69, 1), cell(1, 1))
	want := of(t, 70, cell(0, 1), cell(1, 1), cell(69, 1))
	same(t, mul(t, m, m), want)
	c := m.Copy()
	first, _ := product.Into(c, m, m)
	again, _ := product.Into(c, m, m)
	if !first || again {
		t.Error(first, again)
	}
	p, _ := product.Power(m, 1<<62)
	same(t, p, want)
	for n, want := range []int{0, 69, 1} {
		if l, e := product.Walk(m, 0, n); e != api.OK || !slices.Equal(l, []int{want}) {
			t.Error(n, l, e)
		}
	}
}

func TestDense(t *testing.T) {
	const side = 1024
	n := sample.Noise(5)
	m := of(t, side, n.Cells(side, 60000)...)
	p, e := product.Power(m, math.MaxInt)
	if ok(t, p, e).Len() != side*side {
		t.Error(p.Len())
	}
}
