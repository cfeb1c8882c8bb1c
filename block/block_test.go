package block_test

import (
	"math"
	"slices"
	"testing"

	"byway/api"
	"byway/block"
)

const side = 64

// wrongLines are numbers of no row and no column.
var wrongLines = []int{-1, 64, -64, 65, 128, math.MinInt, math.MaxInt, math.MinInt32, 1 << 32}

// edgeLines are the rows and columns where words and halves begin and end.
var edgeLines = []int{0, 1, 2, 15, 16, 31, 32, 33, 47, 48, 62, 63}

func cell(r, c int) api.Cell { return api.Cell{Row: r, Col: c} }

func of(t *testing.T, cells ...api.Cell) api.Block {
	t.Helper()
	b, e := block.Of(cells...)
	if e != api.OK {
		t.Fatalf("Of(%v): %v", cells, e)
	}
	return b
}

// grid is a block as the tests see it: cell by cell, without bits.
type grid [side][side]bool

func gridOf(b api.Block) grid {
	var g grid
	for r := range side {
		for c := range side {
			g[r][c] = b[r]/(uint64(1)<<c)%2 == 1
		}
	}
	return g
}

func blockOf(in func(r, c int) bool) api.Block {
	var b api.Block
	for r := range side {
		for c := range side {
			if in(r, c) {
				b[r] += uint64(1) << c
			}
		}
	}
	return b
}

// noise tells the same numbers in each run.
type noise uint64

func (n *noise) next() uint64 {
	*n += 0x9e3779b97f4a7c15
	z := uint64(*n)
	z = (z ^ z>>30) * 0xbf58476d1ce4e5b9
	z = (z ^ z>>27) * 0x94d049bb133111eb
	return z ^ z>>31
}

func (n *noise) sparse(cells int) api.Block {
	var b api.Block
	for range cells {
		b[n.next()%side] |= 1 << (n.next() % side)
	}
	return b
}

func (n *noise) dense() api.Block {
	var b api.Block
	for r := range b {
		b[r] = n.next()
	}
	return b
}

func full() api.Block { return blockOf(func(r, c int) bool { return true }) }

func chain() api.Block { return blockOf(func(r, c int) bool { return c == r+1 }) }

func back() api.Block { return blockOf(func(r, c int) bool { return r == c+1 }) }

func ring() api.Block { return blockOf(func(r, c int) bool { return c == (r+1)%side }) }

func samples() []api.Block {
	n := noise(1)
	l := []api.Block{
		{}, full(), chain(), back(), ring(),
		blockOf(func(r, c int) bool { return r == c }),
		blockOf(func(r, c int) bool { return r+c == side-1 }),
		blockOf(func(r, c int) bool { return r == 0 }),
		blockOf(func(r, c int) bool { return r == 63 }),
		blockOf(func(r, c int) bool { return c == 0 }),
		blockOf(func(r, c int) bool { return c == 63 }),
		blockOf(func(r, c int) bool { return r < c }),
		blockOf(func(r, c int) bool { return r == 0 && c == 0 }),
		blockOf(func(r, c int) bool { return r == 0 && c == 63 }),
		blockOf(func(r, c int) bool { return r == 63 && c == 0 }),
		blockOf(func(r, c int) bool { return r == 63 && c == 63 }),
		n.dense(), n.dense(),
	}
	for _, cells := range []int{2, 5, 20, 40, 64, 80, 128, 400} {
		l = append(l, n.sparse(cells), n.sparse(cells))
	}
	return l
}

func listed(b api.Block) []api.Cell {
	var l []api.Cell
	for c := range block.Cells(b) {
		l = append(l, c)
	}
	return l
}

// P1.1

func TestOf(t *testing.T) {
	if b := of(t, cell(0, 1), cell(1, 63)); b != (api.Block{0: 2, 1: 1 << 63}) {
		t.Error(b)
	}
	if b := of(t); b != (api.Block{}) {
		t.Error("no cells:", b)
	}
	if b := of(t, []api.Cell{}...); b != (api.Block{}) {
		t.Error("an empty list:", b)
	}
	twice := of(t, cell(63, 63), cell(5, 0), cell(63, 63), cell(63, 63), cell(5, 0))
	if twice != (api.Block{5: 1, 63: 1 << 63}) {
		t.Error("the same cells several times:", twice)
	}
	for r := range side {
		for c := range side {
			if b := of(t, cell(r, c)); b != blockOf(func(i, j int) bool { return i == r && j == c }) {
				t.Fatal(r, c, b)
			}
		}
	}
}

func TestOfWrongCells(t *testing.T) {
	for _, n := range wrongLines {
		for _, wrong := range []api.Cell{cell(n, 0), cell(0, n), cell(n, n), cell(63, n), cell(n, 63)} {
			good := cell(3, 4)
			for _, l := range [][]api.Cell{{wrong}, {wrong, good}, {good, wrong}, {good, wrong, good}} {
				if b, e := block.Of(l...); e != api.ErrArg || b != (api.Block{}) {
					t.Error(l, b, e)
				}
			}
		}
	}
}

func TestOfKeepsItsArgument(t *testing.T) {
	room := []api.Cell{cell(9, 9), cell(1, 1), cell(9, 9), cell(7, 7)}
	was := slices.Clone(room)
	b := of(t, room[:2]...)
	if !slices.Equal(room, was) {
		t.Error("changed:", room)
	}
	room[0] = cell(2, 2)
	if b != (api.Block{1: 1 << 1, 9: 1 << 9}) {
		t.Error("kept:", b)
	}
}

func TestOne(t *testing.T) {
	if block.One() != blockOf(func(r, c int) bool { return r == c }) {
		t.Error(block.One())
	}
}

// P1.2

func TestGet(t *testing.T) {
	for i, b := range samples() {
		g := gridOf(b)
		for r := range side {
			for c := range side {
				if is, e := block.Get(b, r, c); is != g[r][c] || e != api.OK {
					t.Fatal(i, r, c, is, e)
				}
			}
		}
	}
	for _, n := range wrongLines {
		for _, l := range []api.Cell{cell(n, 0), cell(0, n), cell(n, n), cell(63, n), cell(n, 63)} {
			if is, e := block.Get(full(), l.Row, l.Col); is || e != api.ErrArg {
				t.Error(l, is, e)
			}
		}
	}
}

func TestSet(t *testing.T) {
	for i, b := range samples() {
		was := b
		for _, r := range edgeLines {
			for _, c := range edgeLines {
				for _, on := range []bool{true, false} {
					g := gridOf(b)
					g[r][c] = on
					s, e := block.Set(b, r, c, on)
					if e != api.OK || gridOf(s) != g || b != was {
						t.Fatal(i, r, c, on, s, e)
					}
				}
			}
		}
	}
	for _, n := range wrongLines {
		for _, l := range []api.Cell{cell(n, 0), cell(0, n), cell(n, n), cell(63, n), cell(n, 63)} {
			for _, on := range []bool{true, false} {
				if b, e := block.Set(full(), l.Row, l.Col, on); b != (api.Block{}) || e != api.ErrArg {
					t.Error(l, on, b, e)
				}
			}
		}
	}
}

func TestRowAndCol(t *testing.T) {
	for i, b := range samples() {
		g := gridOf(b)
		for n := range side {
			var row, col uint64
			for k := range side {
				if g[n][k] {
					row += uint64(1) << k
				}
				if g[k][n] {
					col += uint64(1) << k
				}
			}
			if w, e := block.Row(b, n); w != row || e != api.OK {
				t.Fatal("row", i, n, w, e)
			}
			if w, e := block.Col(b, n); w != col || e != api.OK {
				t.Fatal("column", i, n, w, e)
			}
		}
	}
	for _, n := range wrongLines {
		if w, e := block.Row(full(), n); w != 0 || e != api.ErrArg {
			t.Error("row", n, w, e)
		}
		if w, e := block.Col(full(), n); w != 0 || e != api.ErrArg {
			t.Error("column", n, w, e)
		}
	}
}

// P1.3

func TestLenAndCells(t *testing.T) {
	for i, b := range samples() {
		var want []api.Cell
		for r, row := range gridOf(b) {
			for c, in := range row {
				if in {
					want = append(want, cell(r, c))
				}
			}
		}
		if n := block.Len(b); n != len(want) {
			t.Error(i, n, len(want))
		}
		if l := listed(b); !slices.Equal(l, want) {
			t.Error(i, l, want)
		}
	}
	if block.Len(api.Block{}) != 0 || block.Len(full()) != 4096 || block.Len(block.One()) != 64 {
		t.Error("len")
	}
	if l := listed(api.Block{}); l != nil {
		t.Error(l)
	}
}

func TestCellsLeftEarlyAndGoneOverAgain(t *testing.T) {
	b := of(t, cell(0, 1), cell(0, 63), cell(1, 0), cell(63, 63))
	cells := block.Cells(b)
	b[0] = 1
	for stop := 1; stop <= 4; stop++ {
		var l []api.Cell
		for c := range cells {
			l = append(l, c)
			if len(l) == stop {
				break
			}
		}
		want := []api.Cell{cell(0, 1), cell(0, 63), cell(1, 0), cell(63, 63)}[:stop]
		if !slices.Equal(l, want) {
			t.Error(stop, l)
		}
	}
	n := 0
	for range cells {
		for range cells {
			n++
		}
	}
	if n != 16 {
		t.Error("one inside the other:", n)
	}
}

func TestCorner(t *testing.T) {
	cuts := append([]int{64}, edgeLines...)
	for i, b := range samples() {
		g := gridOf(b)
		for _, rows := range cuts {
			for _, cols := range cuts {
				want := blockOf(func(r, c int) bool { return g[r][c] && r < rows && c < cols })
				if k, e := block.Corner(b, rows, cols); k != want || e != api.OK {
					t.Fatal(i, rows, cols, k, e)
				}
			}
		}
	}
	for rows := 0; rows <= side; rows++ {
		for cols := 0; cols <= side; cols++ {
			if k, e := block.Corner(full(), rows, cols); block.Len(k) != rows*cols || e != api.OK {
				t.Fatal(rows, cols, k, e)
			}
		}
	}
	for _, n := range []int{-1, 65, -64, 128, math.MinInt, math.MaxInt, 1 << 32} {
		for _, l := range []api.Cell{cell(n, 0), cell(0, n), cell(n, n), cell(64, n), cell(n, 64)} {
			if k, e := block.Corner(full(), l.Row, l.Col); k != (api.Block{}) || e != api.ErrArg {
				t.Error(l, k, e)
			}
		}
	}
}

// P1.4

func TestOrAndLess(t *testing.T) {
	for i, a := range samples() {
		for j, b := range samples() {
			g, h := gridOf(a), gridOf(b)
			if block.Or(a, b) != blockOf(func(r, c int) bool { return g[r][c] || h[r][c] }) {
				t.Fatal("or", i, j)
			}
			if block.And(a, b) != blockOf(func(r, c int) bool { return g[r][c] && h[r][c] }) {
				t.Fatal("and", i, j)
			}
			if block.Less(a, b) != blockOf(func(r, c int) bool { return g[r][c] && !h[r][c] }) {
				t.Fatal("less", i, j)
			}
		}
	}
}

func TestTurn(t *testing.T) {
	for i, b := range samples() {
		g := gridOf(b)
		if block.Turn(b) != blockOf(func(r, c int) bool { return g[c][r] }) {
			t.Error(i)
		}
	}
	for r := range side {
		for c := range side {
			if block.Turn(of(t, cell(r, c))) != of(t, cell(c, r)) {
				t.Fatal(r, c)
			}
		}
	}
}

// P1.5

func plainMul(a, b api.Block) api.Block {
	g, h := gridOf(a), gridOf(b)
	return blockOf(func(r, c int) bool {
		for k := range side {
			if g[r][k] && h[k][c] {
				return true
			}
		}
		return false
	})
}

func TestMul(t *testing.T) {
	a, b := of(t, cell(0, 1), cell(1, 63)), of(t, cell(1, 5), cell(63, 0))
	if p := block.Mul(a, b); p != of(t, cell(0, 5), cell(1, 0)) {
		t.Error(p)
	}
	if p := block.Mul(b, a); p != of(t, cell(63, 1)) {
		t.Error("the other way round:", p)
	}
	for i, a := range samples() {
		for j, b := range samples() {
			if block.Mul(a, b) != plainMul(a, b) {
				t.Fatal(i, j)
			}
		}
	}
	for k := range side {
		if block.Mul(of(t, cell(63, k)), of(t, cell(k, 0))) != of(t, cell(63, 0)) {
			t.Error("by", k)
		}
	}
}

// P1.6

// plainClose goes from each row on, step by step.
func plainClose(b api.Block) api.Block {
	g := gridOf(b)
	var reached grid
	for r := range side {
		work := []int{r}
		for len(work) > 0 {
			k := work[0]
			work = work[1:]
			for c := range side {
				if g[k][c] && !reached[r][c] {
					reached[r][c] = true
					work = append(work, c)
				}
			}
		}
	}
	return blockOf(func(r, c int) bool { return reached[r][c] })
}

func TestClose(t *testing.T) {
	a, b := of(t, cell(0, 1), cell(1, 63)), of(t, cell(1, 5), cell(63, 0))
	want := blockOf(func(r, c int) bool {
		return slices.Contains([]int{0, 1, 63}, r) && slices.Contains([]int{0, 1, 5, 63}, c)
	})
	if block.Close(block.Or(a, b)) != want {
		t.Error(block.Close(block.Or(a, b)))
	}
	if block.Close(chain()) != blockOf(func(r, c int) bool { return r < c }) {
		t.Error("a chain of 63 steps")
	}
	if block.Close(back()) != blockOf(func(r, c int) bool { return c < r }) {
		t.Error("a chain of 63 steps back")
	}
	if block.Close(ring()) != full() {
		t.Error("a ring of 64 steps")
	}
	if block.Close(api.Block{}) != (api.Block{}) {
		t.Error("no step leads nowhere, not to where it begins")
	}
	for i, b := range samples() {
		if block.Close(b) != plainClose(b) {
			t.Error(i)
		}
	}
}

// P1.7

func TestLawsOfMul(t *testing.T) {
	l := samples()
	for i, a := range l {
		if block.Mul(a, block.One()) != a || block.Mul(block.One(), a) != a {
			t.Error("one", i)
		}
		if block.Turn(block.Turn(a)) != a {
			t.Error("turn twice", i)
		}
		for j, b := range l {
			ab := block.Mul(a, b)
			if block.Turn(ab) != block.Mul(block.Turn(b), block.Turn(a)) {
				t.Fatal("turn", i, j)
			}
			for k, c := range l {
				if block.Mul(ab, c) != block.Mul(a, block.Mul(b, c)) {
					t.Fatal("grouping", i, j, k)
				}
				if block.Mul(a, block.Or(b, c)) != block.Or(ab, block.Mul(a, c)) {
					t.Fatal("or on the right", i, j, k)
				}
				if block.Mul(block.Or(b, c), a) != block.Or(block.Mul(b, a), block.Mul(c, a)) {
					t.Fatal("or on the left", i, j, k)
				}
			}
		}
	}
}

func within(a, b api.Block) bool { return block.Less(a, b) == api.Block{} }

func TestLawsOfClose(t *testing.T) {
	for i, b := range samples() {
		c := block.Close(b)
		if !within(b, c) || !within(block.Mul(c, c), c) || block.Close(c) != c {
			t.Error(i)
		}
		for _, x := range listed(block.Less(c, b)) {
			less := c
			less[x.Row] -= 1 << x.Col
			if within(plainMul(less, less), less) {
				t.Fatal("not the least one", i, x)
			}
		}
	}
}

// spread lays a block of 3 by 3 cells, told by 9 bits, over far rows and columns.
func spread(n int) api.Block {
	at := [3]int{0, 31, 63}
	var b api.Block
	for k := range 9 {
		if n>>k&1 == 1 {
			b[at[k/3]] |= 1 << at[k%3]
		}
	}
	return b
}

func TestCloseIsTheLeast(t *testing.T) {
	var closed []api.Block
	for n := range 512 {
		if b := spread(n); within(plainMul(b, b), b) {
			closed = append(closed, b)
		}
	}
	for n := range 512 {
		b := spread(n)
		c := block.Close(b)
		if !slices.Contains(closed, c) || !within(b, c) {
			t.Fatal(n, c)
		}
		for _, x := range closed {
			if within(b, x) && !within(c, x) {
				t.Fatal(n, x)
			}
		}
	}
}

// What is handed in is not changed (DOC.md, Rules that hold everywhere).
func TestArgumentsStay(t *testing.T) {
	for i, a := range samples() {
		b := block.Turn(a)
		wasA, wasB := a, b
		block.Or(a, b)
		block.And(a, b)
		block.Less(a, b)
		block.Mul(a, b)
		block.Turn(a)
		block.Close(a)
		block.Corner(a, 3, 3)
		if a != wasA || b != wasB {
			t.Error(i)
		}
	}
}
