// Package block is layer 1: see shared/doc/01-block.md.
package block

import (
	"iter"
	"math/bits"

	"byway/api"
)

// side is how many rows a block has, and how many columns.
const side = 64

func isLine(n int) bool { return 0 <= n && n < side }

func isCell(r, c int) bool { return isLine(r) && isLine(c) }

func isCut(n int) bool { return 0 <= n && n <= side }

func bit(c int) uint64 { return 1 << c }

// Of: the block of some cells.
func Of(cells ...api.Cell) (api.Block, api.Errno) {
	var b api.Block
	for _, c := range cells {
		if !isCell(c.Row, c.Col) {
			return api.Block{}, api.ErrArg
		}
		b[c.Row] |= bit(c.Col)
	}
	return b, api.OK
}

// One: the cells whose row is their column.
func One() api.Block {
	var b api.Block
	for r := range b {
		b[r] = bit(r)
	}
	return b
}

// Get: is a cell in a block?
func Get(b api.Block, r, c int) (bool, api.Errno) {
	if !isCell(r, c) {
		return false, api.ErrArg
	}
	return b[r]&bit(c) != 0, api.OK
}

// Set: with a cell, or without it.
func Set(b api.Block, r, c int, on bool) (api.Block, api.Errno) {
	if !isCell(r, c) {
		return api.Block{}, api.ErrArg
	}
	if on {
		b[r] |= bit(c)
	} else {
		b[r] &^= bit(c)
	}
	return b, api.OK
}

// Row: a row's word.
func Row(b api.Block, r int) (uint64, api.Errno) {
	if !isLine(r) {
		return 0, api.ErrArg
	}
	return b[r], api.OK
}

// Col: a column's word.
func Col(b api.Block, c int) (uint64, api.Errno) {
	if !isLine(c) {
		return 0, api.ErrArg
	}
	var col uint64
	for r, word := range b {
		col |= (word >> c & 1) << r
	}
	return col, api.OK
}

// Len: how many cells.
func Len(b api.Block) int {
	n := 0
	for _, word := range b {
		n += bits.OnesCount64(word)
	}
	return n
}

// Cells: all cells, rising.
func Cells(b api.Block) iter.Seq[api.Cell] {
	return func(yield func(api.Cell) bool) {
		for r, word := range b {
			for ; word != 0; word &= word - 1 {
				if !yield(api.Cell{Row: r, Col: bits.TrailingZeros64(word)}) {
					return
				}
			}
		}
	}
}

// Corner: the first rows and columns.
func Corner(b api.Block, rows, cols int) (api.Block, api.Errno) {
	if !isCut(rows) || !isCut(cols) {
		return api.Block{}, api.ErrArg
	}
	// Of all 64 columns: the bit is shifted out, and 0 less 1 has every bit.
	mask := bit(cols) - 1
	var corner api.Block
	for r := range rows {
		corner[r] = b[r] & mask
	}
	return corner, api.OK
}

// Or: the cells of either.
func Or(a, b api.Block) api.Block {
	for r, word := range b {
		a[r] |= word
	}
	return a
}

// And: the cells of both.
func And(a, b api.Block) api.Block {
	for r, word := range b {
		a[r] &= word
	}
	return a
}

// Less: the cells of the first one alone.
func Less(a, b api.Block) api.Block {
	for r, word := range b {
		a[r] &^= word
	}
	return a
}

// Turn: turned over.
func Turn(b api.Block) api.Block {
	// In each square of two halves a side, the part right above changes places
	// with the part left below; then the halves are the squares. The mask has
	// the columns of the left halves.
	mask := uint64(1<<32 - 1)
	for half := side / 2; half > 0; half /= 2 {
		for r := range b {
			if r&half == 0 {
				unlike := (b[r]>>half ^ b[r+half]) & mask
				b[r] ^= unlike << half
				b[r+half] ^= unlike
			}
		}
		mask ^= mask << (half / 2)
	}
	return b
}

// Mul: the product.
func Mul(a, b api.Block) api.Block {
	var product api.Block
	for r, word := range a {
		for ; word != 0; word &= word - 1 {
			product[r] |= b[bits.TrailingZeros64(word)]
		}
	}
	return product
}

// Close: the closure.
func Close(b api.Block) api.Block {
	// Each round doubles how many steps are gone at most, so a few rounds do.
	for {
		next := Or(b, Mul(b, b))
		if next == b {
			return b
		}
		b = next
	}
}
