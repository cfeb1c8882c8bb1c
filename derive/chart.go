package derive

import (
	"iter"
	"math/bits"

	"byway/api"
)

// piece is a piece of a word, by a nonterminal.
type piece struct {
	nt, from, to int
}

// side is a nonterminal, and where one of its pieces begins or ends.
type side struct {
	nt, at int
}

// places is a set of places of a word, from 0 to MaxPath, as bits.
type places [api.MaxPath/64 + 1]uint64

func (p places) has(at int) bool { return p[at/64]>>(at%64)&1 == 1 }

func (p places) with(at int) places {
	p[at/64] |= 1 << (at % 64)
	return p
}

func (p places) and(o places) places {
	for i, w := range o {
		p[i] &= w
	}
	return p
}

func (p places) less(o places) places {
	for i, w := range o {
		p[i] &^= w
	}
	return p
}

// all goes over the places, rising.
func (p places) all() iter.Seq[int] {
	return func(yield func(int) bool) {
		for i, w := range p {
			for ; w != 0; w &= w - 1 {
				if !yield(64*i + bits.TrailingZeros64(w)) {
					return
				}
			}
		}
	}
}

// pair is a production of two nonterminals: its head, and one of the two.
type pair struct {
	head, other int
}

// chart is what is known of a word: which pieces of it are of which nonterminals.
type chart struct {
	c      api.Cnf
	word   []int
	ends   map[side]places // of what begins there
	begins map[side]places // of what ends there
	row    []piece         // all that is known, as it came
	lefts  [][]pair        // by their first nonterminals, with the second ones
	rights [][]pair        // by their second nonterminals, with the first ones
}

// chartOf is all that is known of a word in the end.
func chartOf(c api.Cnf, word []int) *chart {
	k := &chart{c: c, word: word, ends: map[side]places{}, begins: map[side]places{}}
	k.lefts, k.rights = make([][]pair, c.Nts), make([][]pair, c.Nts)
	for _, p := range c.Prods {
		k.begin(p)
	}
	for i := 0; i < len(k.row); i++ {
		k.goOn(k.row[i])
	}
	return k
}

// begin adds what a production says by itself.
func (k *chart) begin(p api.Prod) {
	if len(p.Body) == 2 {
		first, second := p.Body[0].N, p.Body[1].N
		k.lefts[first] = append(k.lefts[first], pair{p.Head, second})
		k.rights[second] = append(k.rights[second], pair{p.Head, first})
		return
	}
	for from := range len(k.word) + 1 {
		for to := from; to <= min(from+1, len(k.word)); to++ {
			if makes(p.Body, k.word, from, to) {
				k.add(piece{p.Head, from, to})
			}
		}
	}
}

func (k *chart) has(p piece) bool { return k.ends[side{p.nt, p.from}].has(p.to) }

func (k *chart) add(p piece) {
	if k.has(p) {
		return
	}
	first, last := side{p.nt, p.from}, side{p.nt, p.to}
	k.ends[first] = k.ends[first].with(p.to)
	k.begins[last] = k.begins[last].with(p.from)
	k.row = append(k.row, p)
}

// goOn adds what a piece makes with those beside it.
func (k *chart) goOn(p piece) {
	for _, x := range k.lefts[p.nt] {
		fresh := k.ends[side{x.other, p.to}].less(k.ends[side{x.head, p.from}])
		for to := range fresh.all() {
			k.add(piece{x.head, p.from, to})
		}
	}
	for _, x := range k.rights[p.nt] {
		fresh := k.begins[side{x.other, p.from}].less(k.begins[side{x.head, p.to}])
		for from := range fresh.all() {
			k.add(piece{x.head, from, p.to})
		}
	}
}

// cuts are the places where a piece can be cut into one of a first nonterminal
// and one of a second.
func (k *chart) cuts(first, second, from, to int) places {
	return k.ends[side{first, from}].and(k.begins[side{second, to}])
}
