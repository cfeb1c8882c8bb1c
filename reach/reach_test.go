package reach_test

import (
	"math"
	"slices"
	"testing"

	"byway/api"
	"byway/product"
	"byway/quad"
	"byway/reach"
	"byway/sample"
)

var sides = []int{1, 2, 3, 63, 64, 65, 100, 130}

func cell(r, c int) api.Cell { return api.Cell{Row: r, Col: c} }

func of(t *testing.T, side int, cells ...api.Cell) *quad.Matrix {
	t.Helper()
	m, e := quad.Of(side, cells...)
	if e != api.OK {
		t.Fatal(e)
	}
	return m
}

func listed(m *quad.Matrix) []api.Cell {
	var l []api.Cell
	for i, j := range m.Cells() {
		l = append(l, cell(i, j))
	}
	return l
}

func same(t *testing.T, a, b *quad.Matrix) {
	t.Helper()
	if !quad.Same(a, b) {
		t.Fatalf("%v is not %v", listed(a), listed(b))
	}
}

// plain is the closure as Warshall has it, cell by cell.
func plain(t *testing.T, m *quad.Matrix) *quad.Matrix {
	t.Helper()
	side := m.Side()
	in := make([][]bool, side)
	for i := range in {
		in[i] = make([]bool, side)
	}
	for i, j := range m.Cells() {
		in[i][j] = true
	}
	for k := range side {
		for i := range side {
			for j := range side {
				in[i][j] = in[i][j] || in[i][k] && in[k][j]
			}
		}
	}
	c := of(t, side)
	for i := range side {
		for j := range side {
			if in[i][j] {
				c.Set(i, j)
			}
		}
	}
	return c
}

func samples(t *testing.T, side int) []*quad.Matrix {
	n := sample.Noise(side)
	ring, step := of(t, side), of(t, side)
	for i := range side {
		ring.Set(i, (i+1)%side)
		if i+1 < side {
			step.Set(i+1, i)
		}
	}
	return []*quad.Matrix{of(t, side), ring, step, of(t, side, n.Cells(side, side/2)...),
		of(t, side, n.Cells(side, side)...), of(t, side, n.Cells(side, 2*side)...)}
}

// P5.1
func TestClosureFrom(t *testing.T) {
	for _, side := range sides {
		for _, m := range samples(t, side) {
			before := m.Copy()
			want := plain(t, m)
			c, e := reach.Closure(m)
			if e != api.OK {
				t.Fatal(e)
			}
			same(t, c, want)
			for i := range side {
				row, _ := want.Row(i)
				if l, e := reach.From(m, i); e != api.OK || !slices.Equal(l, row) {
					t.Fatal(side, i, l, row, e)
				}
			}
			c.Set(0, 0)
			same(t, m, before)
			for _, i := range []int{-1, side, math.MinInt, math.MaxInt} {
				if l, e := reach.From(m, i); l != nil || e != api.ErrArg {
					t.Error(i, l, e)
				}
			}
		}
	}
}

// P5.2
func TestNewOf(t *testing.T) {
	for _, side := range append(sides, 1023, 1024) {
		k, e := reach.New(side)
		if e != api.OK || k.Side() != side || k.Len() != 0 || k.Steps().Len() != 0 || k.Matrix().Side() != side {
			t.Error(side, e)
		}
	}
	for _, side := range []int{0, -1, 1025, math.MinInt, math.MaxInt} {
		if k, e := reach.New(side); k != nil || e != api.ErrArg {
			t.Error(side, k, e)
		}
	}
	for _, side := range sides {
		for _, m := range samples(t, side) {
			k, e := reach.Of(m)
			if e != api.OK {
				t.Fatal(e)
			}
			m = m.Copy()
			agree(t, k, m)
		}
	}
}

// agree holds all that a keeper tells against its steps.
func agree(t *testing.T, k *reach.Keeper, steps *quad.Matrix) {
	t.Helper()
	want := plain(t, steps)
	same(t, k.Steps(), steps)
	same(t, k.Matrix(), want)
	if k.Side() != steps.Side() || k.Len() != want.Len() {
		t.Fatal(k.Side(), k.Len())
	}
	for i := range min(steps.Side(), 9) {
		for j := range steps.Side() {
			is, _ := want.Get(i, j)
			if got, e := k.Has(i, j); e != api.OK || got != is {
				t.Fatal(i, j, got, e)
			}
		}
	}
}

// P5.3, P5.5
func TestAdd(t *testing.T) {
	for _, side := range sides {
		for _, m := range samples(t, side) {
			l := listed(m)
			n := sample.Noise(side)
			for i := range l {
				j := n.Below(i + 1)
				l[i], l[j] = l[j], l[i]
			}
			checkAdds(t, side, append(l, l[:len(l)/3]...))
		}
	}
}

func checkAdds(t *testing.T, side int, l []api.Cell) {
	t.Helper()
	k, _ := reach.New(side)
	steps, told := of(t, side), of(t, side)
	for n, c := range l {
		fresh, e := k.Add(c.Row, c.Col)
		if e != api.OK {
			t.Fatal(e)
		}
		steps.Set(c.Row, c.Col)
		if !slices.IsSortedFunc(fresh, func(a, b api.Cell) int { return (a.Row-b.Row)*2000 + a.Col - b.Col }) {
			t.Fatal("the new cells do not rise", fresh)
		}
		for _, x := range fresh {
			if is, _ := told.Set(x.Row, x.Col); !is {
				t.Fatal("told twice", x)
			}
		}
		if n%40 == 0 {
			agree(t, k, steps)
		}
		same(t, told, k.Matrix())
	}
	agree(t, k, steps)
}

func TestJoin(t *testing.T) {
	for _, side := range sides {
		l := samples(t, side)
		for i, m := range l {
			k, _ := reach.Of(m)
			steps := m.Copy()
			for _, o := range []*quad.Matrix{l[(i+1)%len(l)], l[(i+3)%len(l)], of(t, side, cell(0, side-1))} {
				before := k.Matrix()
				fresh, e := k.Join(o)
				if e != api.OK {
					t.Fatal(e)
				}
				steps.Join(o)
				agree(t, k, steps)
				gained, _ := k.Matrix().Less(before)
				same(t, fresh, gained)
				again, e := k.Join(o)
				if e != api.OK || again.Len() != 0 || again.Side() != side {
					t.Fatal(again, e)
				}
				fresh.Set(0, 0)
			}
			k.Add(side-1, 0)
			steps.Set(side-1, 0)
			agree(t, k, steps)
		}
	}
}

func TestWrongSteps(t *testing.T) {
	k, _ := reach.New(70)
	k.Add(1, 2)
	for _, x := range []int{-1, 70, 71, 127, math.MinInt, math.MaxInt} {
		l, e1 := k.Add(x, 0)
		_, e2 := k.Add(0, x)
		is, e3 := k.Has(x, 0)
		_, e4 := k.Has(0, x)
		if l != nil || is || e1 != api.ErrArg || e2 != api.ErrArg || e3 != api.ErrArg || e4 != api.ErrArg {
			t.Error(x, e1, e2, e3, e4)
		}
	}
	for _, side := range []int{1, 69, 71, 1024} {
		if m, e := k.Join(of(t, side, cell(0, 0))); m != nil || e != api.ErrSide {
			t.Error(m, e)
		}
	}
	agree(t, k, of(t, 70, cell(1, 2)))
}

func TestNil(t *testing.T) {
	m := of(t, 3)
	for _, none := range []*quad.Matrix{nil, new(quad.Matrix)} {
		k, _ := reach.New(3)
		_, e1 := reach.Closure(none)
		_, e2 := reach.From(none, -1)
		o, e3 := reach.Of(none)
		j, e4 := k.Join(none)
		if e1 != api.ErrNil || e2 != api.ErrNil || e3 != api.ErrNil || e4 != api.ErrNil || o != nil || j != nil {
			t.Error(e1, e2, e3, e4)
		}
	}
	for _, k := range []*reach.Keeper{nil, new(reach.Keeper)} {
		if k.Side() != 0 || k.Len() != 0 || k.Steps() != nil || k.Matrix() != nil || k.Copy() != nil {
			t.Error("a nil keeper is something")
		}
		is, e1 := k.Has(-1, 0)
		if is {
			t.Error("an answer beside an error")
		}
		_, e2 := k.Add(-1, 0)
		_, e3 := k.Join(m)
		_, e4 := k.Join(of(t, 7))
		if e1 != api.ErrNil || e2 != api.ErrNil || e3 != api.ErrNil || e4 != api.ErrNil {
			t.Error(e1, e2, e3, e4)
		}
	}
}

// P5.4
func TestApart(t *testing.T) {
	m := of(t, 70, cell(0, 69), cell(69, 1))
	k, _ := reach.Of(m)
	m.Set(1, 0)
	before := of(t, 70, cell(0, 69), cell(69, 1))
	agree(t, k, before)
	k.Steps().Set(5, 5)
	k.Matrix().Set(5, 5)
	agree(t, k, before)
	o := k.Copy()
	o.Add(1, 0)
	agree(t, k, before)
	agree(t, o, m)
	k.Add(7, 0)
	agree(t, o, m)
	fresh, _ := k.Join(of(t, 70, cell(8, 7)))
	if fresh.Len() != 4 {
		t.Error(listed(fresh))
	}
}

// P5.5
func TestWhatFollows(t *testing.T) {
	for _, side := range sides {
		for _, m := range samples(t, side) {
			c, _ := reach.Closure(m)
			twice, _ := reach.Closure(c)
			same(t, c, twice)
			left, _ := m.Less(c)
			square, _ := product.Mul(c, c)
			more, _ := square.Less(c)
			if left.Len() != 0 || more.Len() != 0 {
				t.Error(side, left.Len(), more.Len())
			}
			k, _ := reach.New(side)
			one, _ := k.Join(m)
			same(t, one, c)
		}
	}
}

func TestExamples(t *testing.T) {
	m := of(t, 70, cell(0, 69), cell(69, 1), cell(1, 0))
	c, _ := reach.Closure(m)
	from, _ := reach.From(m, 0)
	none, e := reach.From(m, 2)
	if c.Len() != 9 || !slices.Equal(from, []int{0, 1, 69}) || len(none) != 0 || e != api.OK {
		t.Error(c.Len(), from, none, e)
	}
	k, _ := reach.New(3)
	for _, x := range []struct{ step, want []api.Cell }{
		{[]api.Cell{cell(0, 1)}, []api.Cell{cell(0, 1)}},
		{[]api.Cell{cell(1, 2)}, []api.Cell{cell(0, 2), cell(1, 2)}},
		{[]api.Cell{cell(0, 1)}, nil},
		{[]api.Cell{cell(0, 2)}, nil},
		{[]api.Cell{cell(2, 0)}, []api.Cell{cell(0, 0), cell(1, 0), cell(1, 1), cell(2, 0), cell(2, 1), cell(2, 2)}},
	} {
		if l, e := k.Add(x.step[0].Row, x.step[0].Col); e != api.OK || !slices.Equal(l, x.want) {
			t.Error(x.step, l, e)
		}
	}
	if k.Steps().Len() != 4 || k.Len() != 9 {
		t.Error(k.Steps().Len(), k.Len())
	}
}

func TestGreat(t *testing.T) {
	const side = 1024
	k, _ := reach.New(side)
	n := sample.Noise(9)
	ring := of(t, side)
	count := 0
	for i := range side {
		at := (i*389 + n.Below(1)) % side
		fresh, _ := k.Add(at, (at+1)%side)
		count += len(fresh)
		ring.Set(at, (at+1)%side)
	}
	if count != side*side || k.Len() != count {
		t.Error(count, k.Len())
	}
	c, _ := reach.Closure(ring)
	same(t, c, k.Matrix())
}
