// Package sample makes what the other packages are tested with: numbers without
// a pattern, which are the same ones each time.
package sample

import "byway/api"

// Noise is where a row of numbers stands.
type Noise uint64

// Next is the next number.
func (n *Noise) Next() uint64 {
	*n += 0x9e3779b97f4a7c15
	z := uint64(*n)
	z = (z ^ z>>30) * 0xbf58476d1ce4e5b9
	z = (z ^ z>>27) * 0x94d049bb133111eb
	return z ^ z>>31
}

// Below is a number from 0 to bound less 1.
func (n *Noise) Below(bound int) int { return int(n.Next() % uint64(bound)) }

// Cell is a cell of a matrix of that side.
func (n *Noise) Cell(side int) api.Cell {
	row := n.Below(side)
	return api.Cell{Row: row, Col: n.Below(side)}
}

// Cells are so many cells, some of which may be the same.
func (n *Noise) Cells(side, count int) []api.Cell {
	var l []api.Cell
	for range count {
		l = append(l, n.Cell(side))
	}
	return l
}
