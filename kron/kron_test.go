package kron_test

import (
	"math"
	"slices"
	"testing"

	"byway/api"
	"byway/kron"
	"byway/product"
	"byway/quad"
	"byway/sample"
)

// pairs are sides of an outer and an inner matrix.
var pairs = [][2]int{{1, 1}, {1, 64}, {64, 1}, {2, 3}, {3, 2}, {7, 9}, {5, 13}, {2, 64}, {64, 2}, {32, 32}, {1, 1024}, {1024, 1}, {3, 50}}

func cell(r, c int) api.Cell { return api.Cell{Row: r, Col: c} }

func of(t *testing.T, side int, cells ...api.Cell) *quad.Matrix {
	t.Helper()
	m, e := quad.Of(side, cells...)
	if e != api.OK {
		t.Fatal(e)
	}
	return m
}

func listed(m *quad.Matrix) []api.Cell {
	var l []api.Cell
	for i, j := range m.Cells() {
		l = append(l, cell(i, j))
	}
	return l
}

func same(t *testing.T, a, b *quad.Matrix) {
	t.Helper()
	if !quad.Same(a, b) {
		t.Fatalf("%d %v is not %d %v", a.Side(), listed(a), b.Side(), listed(b))
	}
}

func ok(t *testing.T, m *quad.Matrix, e api.Errno) *quad.Matrix {
	t.Helper()
	if e != api.OK || m == nil {
		t.Fatal(m, e)
	}
	return m
}

// plain is the product as the chapter says it of each cell.
func plain(t *testing.T, a, b *quad.Matrix) *quad.Matrix {
	t.Helper()
	q := b.Side()
	c := of(t, a.Side()*q)
	for _, x := range listed(a) {
		for _, y := range listed(b) {
			c.Set(x.Row*q+y.Row, x.Col*q+y.Col)
		}
	}
	return c
}

func each(t *testing.T, do func(a, b *quad.Matrix)) {
	for _, p := range pairs {
		n := sample.Noise(p[0]*2000 + p[1])
		for _, count := range []int{0, 1, 4, 25} {
			do(of(t, p[0], n.Cells(p[0], count)...), of(t, p[1], n.Cells(p[1], 5)...))
			do(of(t, p[0], n.Cells(p[0], 5)...), of(t, p[1], n.Cells(p[1], count)...))
		}
	}
}

// P4.1
func TestProduct(t *testing.T) {
	each(t, func(a, b *quad.Matrix) {
		x, y := a.Copy(), b.Copy()
		p, e := kron.Product(a, b)
		same(t, ok(t, p, e), plain(t, a, b))
		p.Set(0, 0)
		same(t, a, x)
		same(t, b, y)
	})
	for _, p := range [][2]int{{33, 32}, {32, 33}, {1024, 2}, {2, 513}, {1024, 1024}} {
		if m, e := kron.Product(of(t, p[0]), of(t, p[1])); m != nil || e != api.ErrSide {
			t.Error(p, m, e)
		}
	}
}

func TestInto(t *testing.T) {
	each(t, func(a, b *quad.Matrix) {
		side := a.Side() * b.Side()
		n := sample.Noise(side)
		c := of(t, side, n.Cells(side, 9)...)
		want := c.Copy()
		fresh, _ := want.Join(plain(t, a, b))
		if is, e := kron.Into(c, a, b); e != api.OK || is != fresh {
			t.Fatal(is, e)
		}
		same(t, c, want)
		if is, e := kron.Into(c, a, b); e != api.OK || is {
			t.Fatal(is, e)
		}
	})
}

func TestIntoItself(t *testing.T) {
	m := of(t, 70, cell(0, 1), cell(1, 2), cell(69, 0))
	for _, one := range []*quad.Matrix{of(t, 1), of(t, 1, cell(0, 0))} {
		for _, outer := range []bool{true, false} {
			c := m.Copy()
			a, b := c, one
			if !outer {
				a, b = one, c
			}
			if is, e := kron.Into(c, a, b); is || e != api.OK {
				t.Error(is, e)
			}
			same(t, c, m)
		}
	}
	c := of(t, 1, cell(0, 0))
	if is, e := kron.Into(c, c, c); is || e != api.OK {
		t.Error(is, e)
	}
}

// P4.2
func TestTakenApart(t *testing.T) {
	for _, side := range []int{1, 2, 60, 64, 65, 128, 210} {
		n := sample.Noise(side)
		c := of(t, side, n.Cells(side, side)...)
		before := c.Copy()
		for q := 1; q <= side; q++ {
			if side%q == 0 && side/q < 20 {
				checkSquares(t, c, q)
			}
		}
		same(t, c, before)
	}
}

func checkSquares(t *testing.T, c *quad.Matrix, q int) {
	t.Helper()
	count := c.Side() / q
	outer, inner := of(t, count), of(t, q)
	for i := range count {
		for j := range count {
			want := of(t, q)
			for _, x := range listed(c) {
				if x.Row >= i*q && x.Row < (i+1)*q && x.Col >= j*q && x.Col < (j+1)*q {
					want.Set(x.Row-i*q, x.Col-j*q)
					inner.Set(x.Row-i*q, x.Col-j*q)
					outer.Set(i, j)
				}
			}
			s, e := kron.Square(c, q, i, j)
			same(t, ok(t, s, e), want)
			s.Set(0, 0)
		}
	}
	o, e := kron.Outer(c, q)
	same(t, ok(t, o, e), outer)
	i, e := kron.Inner(c, q)
	same(t, ok(t, i, e), inner)
	i.Set(0, 0)
	o.Set(0, 0)
	for _, x := range []int{-1, count, count + 1, math.MinInt, math.MaxInt} {
		_, e1 := kron.Square(c, q, x, 0)
		m, e2 := kron.Square(c, q, 0, x)
		if e1 != api.ErrArg || e2 != api.ErrArg || m != nil {
			t.Error(x, e1, e2)
		}
	}
}

func TestErrors(t *testing.T) {
	m := of(t, 6, cell(0, 3))
	for _, q := range []int{0, -1, -6, 4, 5, 7, 12, math.MinInt, math.MaxInt} {
		s, e1 := kron.Square(m, q, -1, 0)
		o, e2 := kron.Outer(m, q)
		i, e3 := kron.Inner(m, q)
		if e1 != api.ErrSide || e2 != api.ErrSide || e3 != api.ErrSide || s != nil || o != nil || i != nil {
			t.Error(q, e1, e2, e3)
		}
	}
	big := of(t, 600)
	for _, none := range []*quad.Matrix{nil, new(quad.Matrix)} {
		_, e1 := kron.Product(none, big)
		_, e2 := kron.Product(big, none)
		is3, e3 := kron.Into(none, big, big)
		is4, e4 := kron.Into(m, none, big)
		is5, e5 := kron.Into(m, big, none)
		if is3 || is4 || is5 {
			t.Error("an answer beside an error")
		}
		_, e6 := kron.Square(none, 0, 0, 0)
		_, e7 := kron.Outer(none, 0)
		_, e8 := kron.Inner(none, 3)
		for i, e := range []api.Errno{e1, e2, e3, e4, e5, e6, e7, e8} {
			if e != api.ErrNil {
				t.Error(i, e)
			}
		}
	}
	for _, l := range [][3]int{{6, 2, 4}, {1024, 600, 600}, {1, 2, 1}, {5, 2, 3}} {
		c := of(t, l[0])
		if is, e := kron.Into(c, of(t, l[1], cell(0, 0)), of(t, l[2], cell(0, 0))); is || e != api.ErrSide || c.Len() != 0 {
			t.Error(l, is, e)
		}
	}
}

// P4.3
func TestWhatFollows(t *testing.T) {
	each(t, func(a, b *quad.Matrix) {
		n := sample.Noise(a.Side())
		c, d := of(t, a.Side(), n.Cells(a.Side(), 9)...), of(t, b.Side(), n.Cells(b.Side(), 9)...)
		ab, _ := kron.Product(a, b)
		cd, _ := kron.Product(c, d)
		whole, _ := product.Mul(ab, cd)
		ac, _ := product.Mul(a, c)
		bd, _ := product.Mul(b, d)
		parts, _ := kron.Product(ac, bd)
		same(t, whole, parts)
		turned, _ := kron.Product(a.Turn(), b.Turn())
		same(t, ab.Turn(), turned)
		if ab.Len() != a.Len()*b.Len() {
			t.Error(ab.Len())
		}
		taken(t, ab, a, b)
	})
}

func taken(t *testing.T, ab, a, b *quad.Matrix) {
	t.Helper()
	for i := range min(a.Side(), 8) {
		for j := range min(a.Side(), 8) {
			s, _ := kron.Square(ab, b.Side(), i, j)
			if is, _ := a.Get(i, j); is {
				same(t, s, b)
			} else if s.Len() != 0 {
				t.Error(i, j)
			}
		}
	}
	outer, _ := kron.Outer(ab, b.Side())
	inner, _ := kron.Inner(ab, b.Side())
	if b.Len() > 0 {
		same(t, outer, a)
	}
	if a.Len() > 0 {
		same(t, inner, b)
	}
}

func TestExamples(t *testing.T) {
	a, b := of(t, 2, cell(0, 1)), of(t, 3, cell(0, 0), cell(2, 1))
	p, _ := kron.Product(a, b)
	if p.Side() != 6 || !slices.Equal(listed(p), []api.Cell{cell(0, 3), cell(2, 4)}) {
		t.Error(listed(p))
	}
	if is, e := kron.Into(a, a, b); is || e != api.ErrSide {
		t.Error(is, e)
	}
	c := of(t, 6)
	first, _ := kron.Into(c, a, b)
	again, _ := kron.Into(c, a, b)
	if !first || again {
		t.Error(first, again)
	}
	s, _ := kron.Square(p, 3, 0, 1)
	same(t, s, b)
	s, _ = kron.Square(p, 3, 1, 1)
	same(t, s, of(t, 3))
}
