package quad_test

import (
	"math"
	"slices"
	"testing"

	"byway/api"
	"byway/block"
	"byway/quad"
	"byway/sample"
)

// sides are those where blocks and squares of blocks begin and end.
var sides = []int{1, 2, 63, 64, 65, 100, 127, 128, 129, 192, 193, 257, 512, 513, 1000, 1023, 1024}

// model is a matrix as the tests see it.
type model struct {
	side int
	in   map[api.Cell]bool
}

func modelOf(side int, cells ...api.Cell) model {
	w := model{side, map[api.Cell]bool{}}
	for _, c := range cells {
		w.in[c] = true
	}
	return w
}

// cells are those of the model, by loops alone where that is not too much.
func (w model) cells() []api.Cell {
	var l []api.Cell
	for c := range w.in {
		l = append(l, c)
	}
	slices.SortFunc(l, func(a, b api.Cell) int {
		if a.Row != b.Row {
			return a.Row - b.Row
		}
		return a.Col - b.Col
	})
	return l
}

func cell(r, c int) api.Cell { return api.Cell{Row: r, Col: c} }

func of(t *testing.T, side int, cells ...api.Cell) *quad.Matrix {
	t.Helper()
	m, e := quad.Of(side, cells...)
	if e != api.OK || m == nil {
		t.Fatalf("Of(%d, %v): %v", side, cells, e)
	}
	return m
}

func listed(m *quad.Matrix) []api.Cell {
	var l []api.Cell
	for i, j := range m.Cells() {
		l = append(l, cell(i, j))
	}
	return l
}

// agree holds all that a matrix tells against the model.
func agree(t *testing.T, m *quad.Matrix, w model) {
	t.Helper()
	want := w.cells()
	if got := listed(m); !slices.Equal(got, want) {
		t.Fatalf("side %d: cells %v, not %v", w.side, got, want)
	}
	if m.Side() != w.side || m.Len() != len(want) {
		t.Fatalf("side %d, len %d: not %d, %d", m.Side(), m.Len(), w.side, len(want))
	}
	for i := range w.side {
		var row []int
		for len(want) > 0 && want[0].Row == i {
			row = append(row, want[0].Col)
			want = want[1:]
		}
		if got, e := m.Row(i); e != api.OK || !slices.Equal(got, row) {
			t.Fatalf("side %d: row %d is %v (%v), not %v", w.side, i, got, e, row)
		}
	}
	agreeBlocks(t, m, w)
}

func agreeBlocks(t *testing.T, m *quad.Matrix, w model) {
	t.Helper()
	blocks := map[api.Cell]api.Block{}
	for c := range w.in {
		at := cell(c.Row/64, c.Col/64)
		b := blocks[at]
		b[c.Row%64] |= 1 << (c.Col % 64)
		blocks[at] = b
	}
	last := cell(-1, -1)
	told := 0
	for at, b := range m.Blocks() {
		if at.Row < last.Row || at.Row == last.Row && at.Col <= last.Col {
			t.Fatalf("block %v behind %v", at, last)
		}
		last = at
		told++
		if b == (api.Block{}) || b != blocks[at] {
			t.Fatalf("block %v is not that of the model", at)
		}
	}
	if told != len(blocks) {
		t.Fatalf("%d blocks, not %d", told, len(blocks))
	}
	lines := (w.side-1)/64 + 1
	for i := range lines {
		for j := range lines {
			if b, e := m.Block(i, j); e != api.OK || b != blocks[cell(i, j)] {
				t.Fatalf("Block(%d, %d): %v", i, j, e)
			}
		}
	}
}

func samples(n *sample.Noise, side int) [][]api.Cell {
	end := side - 1
	corners := []api.Cell{cell(0, 0), cell(0, end), cell(end, 0), cell(end, end)}
	return [][]api.Cell{nil, corners, n.Cells(side, 3), n.Cells(side, 40), n.Cells(side, side)}
}

// P2.1
func TestNewOf(t *testing.T) {
	for _, side := range sides {
		m, e := quad.New(side)
		if e != api.OK {
			t.Fatal(side, e)
		}
		agree(t, m, modelOf(side))
		n := sample.Noise(side)
		for _, l := range samples(&n, side) {
			agree(t, of(t, side, append(l, l...)...), modelOf(side, l...))
		}
	}
	for _, side := range []int{0, -1, 1025, 1026, 2048, math.MinInt, math.MaxInt, 1<<32 + 5} {
		if m, e := quad.New(side); m != nil || e != api.ErrArg {
			t.Error(side, m, e)
		}
		if m, e := quad.Of(side, cell(0, 0)); m != nil || e != api.ErrArg {
			t.Error(side, m, e)
		}
	}
	for _, c := range []api.Cell{cell(0, 100), cell(100, 0), cell(-1, 0), cell(0, -1), cell(0, 127), cell(math.MaxInt, 0), cell(0, math.MinInt), cell(1<<32, 0)} {
		if m, e := quad.Of(100, cell(1, 1), c, cell(2, 2)); m != nil || e != api.ErrArg {
			t.Error(c, m, e)
		}
	}
}

// P2.2
func TestGetSet(t *testing.T) {
	for _, side := range sides {
		n := sample.Noise(side)
		m, w := of(t, side), modelOf(side)
		for _, c := range append(n.Cells(side, 200), cell(0, 0), cell(side-1, side-1), cell(side-1, 0)) {
			if is, e := m.Get(c.Row, c.Col); e != api.OK || is != w.in[c] {
				t.Fatal(side, c, is, e)
			}
			if fresh, e := m.Set(c.Row, c.Col); e != api.OK || fresh == w.in[c] {
				t.Fatal(side, c, fresh, e)
			}
			w.in[c] = true
			if is, e := m.Get(c.Row, c.Col); e != api.OK || !is {
				t.Fatal(side, c, is, e)
			}
		}
		agree(t, m, w)
		wrongLines(t, m)
		agree(t, m, w)
	}
}

func wrongLines(t *testing.T, m *quad.Matrix) {
	t.Helper()
	for _, x := range []int{-1, m.Side(), m.Side() + 1, 64 * ((m.Side()-1)/64 + 1), math.MinInt, math.MaxInt} {
		if is, e := m.Get(x, 0); is || e != api.ErrArg {
			t.Error(x, is, e)
		}
		if is, e := m.Get(0, x); is || e != api.ErrArg {
			t.Error(x, is, e)
		}
		if is, e := m.Set(x, 0); is || e != api.ErrArg {
			t.Error(x, is, e)
		}
		if is, e := m.Set(0, x); is || e != api.ErrArg {
			t.Error(x, is, e)
		}
		if l, e := m.Row(x); l != nil || e != api.ErrArg {
			t.Error(x, l, e)
		}
	}
}

func TestIteratorsStandStill(t *testing.T) {
	m := of(t, 200, cell(0, 0), cell(3, 150), cell(199, 199))
	cells, blocks := m.Cells(), m.Blocks()
	m.Set(0, 1)
	m.Set(100, 100)
	for range 2 {
		var l []api.Cell
		for i, j := range cells {
			l = append(l, cell(i, j))
			m.Set(i, 77)
		}
		if !slices.Equal(l, []api.Cell{cell(0, 0), cell(3, 150), cell(199, 199)}) {
			t.Error(l)
		}
		count := 0
		for at, b := range blocks {
			count += block.Len(b)
			if at == cell(1, 1) {
				t.Error("a block that came later")
			}
		}
		if count != 3 {
			t.Error(count)
		}
	}
	for range m.Cells() {
		break
	}
	for range m.Blocks() {
		break
	}
}

// P2.3
func TestPut(t *testing.T) {
	for _, side := range sides {
		n := sample.Noise(side)
		m, w := of(t, side), modelOf(side)
		for range 12 {
			at := n.Cell((side-1)/64 + 1)
			var b api.Block
			fresh := false
			for _, c := range n.Cells(64, 9) {
				whole := cell(64*at.Row+c.Row, 64*at.Col+c.Col)
				if whole.Row >= side || whole.Col >= side {
					continue
				}
				b[c.Row] |= 1 << c.Col
				fresh = fresh || !w.in[whole]
				w.in[whole] = true
			}
			if is, e := m.Put(at.Row, at.Col, b); e != api.OK || is != fresh {
				t.Fatal(side, at, is, e)
			}
			if is, e := m.Put(at.Row, at.Col, b); e != api.OK || is {
				t.Fatal(side, at, is, e)
			}
		}
		agree(t, m, w)
	}
}

func TestPutWrong(t *testing.T) {
	m, w := of(t, 100, cell(0, 99)), modelOf(100, cell(0, 99))
	one, _ := block.Of(cell(0, 0))
	for _, at := range []api.Cell{cell(2, 0), cell(0, 2), cell(-1, 0), cell(0, -1), cell(math.MaxInt, 0), cell(0, math.MinInt), cell(1<<58, 0)} {
		if b, e := m.Block(at.Row, at.Col); b != (api.Block{}) || e != api.ErrArg {
			t.Error(at, e)
		}
		if is, e := m.Put(at.Row, at.Col, one); is || e != api.ErrArg {
			t.Error(at, e)
		}
	}
	for _, c := range []api.Cell{cell(36, 0), cell(0, 36), cell(63, 63)} {
		b, _ := block.Of(c, cell(1, 1))
		if is, e := m.Put(1, 1, b); is || e != api.ErrArg {
			t.Error(c, is, e)
		}
	}
	beyond, _ := block.Of(cell(0, 36))
	if is, e := m.Put(0, 1, beyond); is || e != api.ErrArg {
		t.Error(is, e)
	}
	if is, e := m.Put(1, 0, beyond); !is || e != api.OK {
		t.Error(is, e)
	}
	w.in[cell(64, 36)] = true
	if is, e := m.Put(1, 1, api.Block{}); is || e != api.OK {
		t.Error(is, e)
	}
	agree(t, m, w)
}

// P2.4
func TestJoinLessTurnCopy(t *testing.T) {
	for _, side := range sides {
		n := sample.Noise(side + 7)
		for _, l := range samples(&n, side) {
			for _, k := range samples(&n, side) {
				checkPair(t, side, l, k)
			}
		}
	}
}

func checkPair(t *testing.T, side int, l, k []api.Cell) {
	t.Helper()
	a, b := modelOf(side, l...), modelOf(side, k...)
	m, o := of(t, side, l...), of(t, side, k...)
	both, only, turned := modelOf(side, append(slices.Clone(l), k...)...), modelOf(side), modelOf(side)
	for c := range a.in {
		turned.in[cell(c.Col, c.Row)] = true
		if !b.in[c] {
			only.in[c] = true
		}
	}
	copied, back := m.Copy(), m.Turn()
	less, e := m.Less(o)
	if e != api.OK {
		t.Fatal(e)
	}
	if is, e := m.Join(o); e != api.OK || is != (len(both.in) > len(a.in)) {
		t.Fatal(is, e)
	}
	if is, e := m.Join(o); e != api.OK || is {
		t.Fatal(is, e)
	}
	for _, x := range []struct {
		m *quad.Matrix
		w model
	}{{m, both}, {o, b}, {copied, a}, {back, turned}, {less, only}} {
		agree(t, x.m, x.w)
	}
	if !quad.Same(back.Turn(), copied) {
		t.Fatal("turn twice")
	}
}

func TestApart(t *testing.T) {
	m := of(t, 130, cell(1, 2), cell(129, 129))
	o := of(t, 130, cell(1, 2))
	copied, turned := m.Copy(), m.Turn()
	less, _ := m.Less(o)
	joined := of(t, 130)
	joined.Join(m)
	for i := range 130 {
		m.Set(i, i)
		o.Set(i, 0)
	}
	agree(t, copied, modelOf(130, cell(1, 2), cell(129, 129)))
	agree(t, turned, modelOf(130, cell(2, 1), cell(129, 129)))
	agree(t, less, modelOf(130, cell(129, 129)))
	agree(t, joined, modelOf(130, cell(1, 2), cell(129, 129)))
	copied.Set(5, 6)
	less.Set(5, 7)
	if is, _ := m.Get(5, 6); is {
		t.Error("a copy is not apart")
	}
	if is, _ := m.Get(5, 7); is {
		t.Error("less is not apart")
	}
	if is, e := m.Join(m); is || e != api.OK {
		t.Error(is, e)
	}
	if l, e := m.Less(m); e != api.OK || l.Len() != 0 || l.Side() != 130 {
		t.Error(e)
	}
}

func TestErrors(t *testing.T) {
	m, other := of(t, 100), of(t, 99)
	for _, none := range []*quad.Matrix{nil, new(quad.Matrix)} {
		if is, e := m.Join(none); is || e != api.ErrNil {
			t.Error(is, e)
		}
		if is, e := none.Join(m); is || e != api.ErrNil {
			t.Error(is, e)
		}
		if l, e := m.Less(none); l != nil || e != api.ErrNil {
			t.Error(l, e)
		}
		if l, e := none.Less(m); l != nil || e != api.ErrNil {
			t.Error(l, e)
		}
		nothing(t, none)
	}
	if is, e := m.Join(other); is || e != api.ErrSide {
		t.Error(is, e)
	}
	if l, e := m.Less(other); l != nil || e != api.ErrSide {
		t.Error(l, e)
	}
}

func nothing(t *testing.T, none *quad.Matrix) {
	t.Helper()
	if none.Side() != 0 || none.Len() != 0 || none.Copy() != nil || none.Turn() != nil {
		t.Error("a nil matrix is something")
	}
	for range none.Cells() {
		t.Error("a cell")
	}
	for range none.Blocks() {
		t.Error("a block")
	}
	is, e1 := none.Get(-1, 0)
	fresh, e2 := none.Set(0, 0)
	row, e3 := none.Row(0)
	b, e4 := none.Block(0, 0)
	put, e5 := none.Put(0, 0, api.Block{})
	for _, e := range []api.Errno{e1, e2, e3, e4, e5} {
		if e != api.ErrNil {
			t.Error(e)
		}
	}
	if is || fresh || row != nil || b != (api.Block{}) || put {
		t.Error("an answer beside an error")
	}
}

// P2.5
func TestSame(t *testing.T) {
	m, zero := of(t, 100, cell(0, 99), cell(70, 3)), new(quad.Matrix)
	if !quad.Same(nil, nil) || !quad.Same(nil, zero) || !quad.Same(zero, nil) || !quad.Same(zero, new(quad.Matrix)) {
		t.Error("nil ones are the same")
	}
	if quad.Same(m, nil) || quad.Same(nil, m) || quad.Same(zero, m) || quad.Same(of(t, 1), zero) {
		t.Error("a nil one is another one")
	}
	if !quad.Same(m, m) || !quad.Same(m, of(t, 100, cell(70, 3), cell(0, 99))) {
		t.Error("cells in another order are the same")
	}
	for _, o := range []*quad.Matrix{
		of(t, 101, cell(0, 99), cell(70, 3)), of(t, 100, cell(0, 99)), of(t, 100, cell(0, 99), cell(70, 4)),
		of(t, 100, cell(0, 99), cell(70, 3), cell(70, 4)), of(t, 100, cell(0, 99), cell(6, 3)), of(t, 100),
	} {
		if quad.Same(m, o) || quad.Same(o, m) {
			t.Error(listed(o))
		}
	}
}

// P2.6
func TestWhatFollows(t *testing.T) {
	for _, side := range sides {
		n := sample.Noise(side + 13)
		a, b, c := of(t, side, n.Cells(side, 30)...), of(t, side, n.Cells(side, 30)...), of(t, side, n.Cells(side, 30)...)
		x, y := a.Copy(), c.Copy()
		x.Join(b)
		x.Join(c)
		y.Join(a)
		y.Join(b)
		y.Join(b)
		if !quad.Same(x, y) {
			t.Error("the order of joins")
		}
		less, _ := x.Less(b)
		for i, j := range less.Cells() {
			inA, _ := a.Get(i, j)
			inC, _ := c.Get(i, j)
			if !inA && !inC {
				t.Error("a cell that was not there")
			}
		}
		if !quad.Same(of(t, side, listed(x)...), x) {
			t.Error("Of of all cells")
		}
		z := of(t, side)
		for at, b := range x.Blocks() {
			z.Put(at.Row, at.Col, b)
		}
		if !quad.Same(z, x) {
			t.Error("all blocks")
		}
	}
}

func TestFull(t *testing.T) {
	const side = 1024
	m := of(t, side)
	var all api.Block
	for r := range all {
		all[r] = math.MaxUint64
	}
	for i := range 16 {
		for j := range 16 {
			m.Put(15-i, j, all)
		}
	}
	k := 0
	for i, j := range m.Cells() {
		if i != k/side || j != k%side {
			t.Fatal(i, j)
		}
		k++
	}
	if k != side*side || m.Len() != k || !quad.Same(m.Turn(), m) {
		t.Error(k)
	}
}

func TestExamples(t *testing.T) {
	m := of(t, 100, cell(0, 99), cell(70, 3))
	if l, e := m.Row(70); !slices.Equal(l, []int{3}) || e != api.OK {
		t.Error(l, e)
	}
	if l, e := m.Row(5); len(l) != 0 || e != api.OK {
		t.Error(l, e)
	}
	want := []api.Cell{cell(0, 1), cell(0, 35), cell(1, 0), cell(6, 3)}
	var got []api.Cell
	for at, b := range m.Blocks() {
		got = append(got, at)
		for c := range block.Cells(b) {
			got = append(got, c)
		}
	}
	if !slices.Equal(got, want) {
		t.Error(got)
	}
	if l := listed(m.Turn()); !slices.Equal(l, []api.Cell{cell(3, 70), cell(99, 0)}) {
		t.Error(l)
	}
}

func TestNothingIsKept(t *testing.T) {
	l := []api.Cell{cell(1, 1), cell(2, 2), cell(3, 3)}
	m := of(t, 70, l[:2]...)
	l[0] = cell(9, 9)
	if l[2] != cell(3, 3) {
		t.Error("spare room was written")
	}
	row, _ := m.Row(1)
	row[0] = 5
	if again, _ := m.Row(1); again[0] != 1 {
		t.Error("a row is kept")
	}
	agree(t, m, modelOf(70, cell(1, 1), cell(2, 2)))
}
