package derive

import (
	"slices"

	"byway/api"
)

// many is the number of steps that is too many; more count as so many.
const many = api.MaxSteps + 1

// counts is how many steps the shortest derivations have: of each piece of
// the word by its ends, and there of each nonterminal.
type counts struct {
	*chart
	steps  [api.MaxPath + 1][api.MaxPath + 1][]int // by a piece's ends
	byHead [][]int                                 // the places of the productions
}

// Tree: a derivation of a word that has as few steps as any.
func Tree(c api.Cnf, nt int, word ...int) ([]api.Step, api.Errno) {
	if e := check(c, word, nt); e != api.OK {
		return nil, e
	}
	k := chartOf(c, word)
	whole := piece{nt, 0, len(word)}
	if !k.has(whole) {
		return nil, api.ErrNone
	}
	n := countsOf(k)
	if n.of(whole) > api.MaxSteps {
		return nil, api.ErrSteps
	}
	return n.put(whole), api.OK
}

func countsOf(k *chart) *counts {
	n := &counts{chart: k, byHead: make([][]int, k.c.Nts)}
	for i, p := range k.c.Prods {
		n.byHead[p.Head] = append(n.byHead[p.Head], i)
	}
	// A derivation's parts are of shorter pieces, or one of them is of an empty
	// piece and the other one of the same piece: so the shorter pieces go first,
	// and of one length the loop goes on till nothing gets better.
	pieces := slices.Clone(k.row)
	slices.SortStableFunc(pieces, func(a, b piece) int { return (a.to - a.from) - (b.to - b.from) })
	for len(pieces) > 0 {
		same := 1
		for same < len(pieces) && pieces[same].to-pieces[same].from == pieces[0].to-pieces[0].from {
			same++
		}
		n.first(pieces[:same])
		settle(pieces[:same], n.better)
		pieces = pieces[same:]
	}
	return n
}

// settle goes over some pieces till none gets better any more.
func settle(pieces []piece, better func(p piece) bool) {
	for more := true; more; {
		more = false
		for _, p := range pieces {
			if better(p) {
				more = true
			}
		}
	}
}

// of is how many steps a piece's shortest derivation has, as far as it is known.
func (n *counts) of(p piece) int { return n.steps[p.from][p.to][p.nt] }

// first sets what is known of pieces by all that is shorter.
func (n *counts) first(pieces []piece) {
	for _, p := range pieces {
		if n.steps[p.from][p.to] == nil {
			n.steps[p.from][p.to] = slices.Repeat([]int{many}, n.c.Nts)
		}
		n.steps[p.from][p.to][p.nt] = n.best(p, func(cuts places) places {
			return cuts.less(ends(p))
		})
	}
}

// ends are the places where a piece begins and ends.
func ends(p piece) places { return places{}.with(p.from).with(p.to) }

// better: is there a shorter one, one of whose parts is of an empty piece?
func (n *counts) better(p piece) bool {
	best := n.best(p, func(cuts places) places { return cuts.and(ends(p)) })
	if best >= n.of(p) {
		return false
	}
	n.steps[p.from][p.to][p.nt] = best
	return true
}

// best is how many steps there are at least, of derivations that are cut at
// some of the places where they can be.
func (n *counts) best(p piece, some func(cuts places) places) int {
	best := many
	for _, i := range n.byHead[p.nt] {
		body := n.c.Prods[i].Body
		if len(body) < 2 {
			if makes(body, n.word, p.from, p.to) {
				return 1
			}
			continue
		}
		cuts := some(n.cuts(body[0].N, body[1].N, p.from, p.to))
		for cut := range cuts.all() {
			best = min(best, n.through(body, p, cut))
		}
	}
	return best
}

// through is how many steps there are, if a piece is cut at a place.
func (n *counts) through(body []api.Sym, p piece, cut int) int {
	return 1 + n.of(piece{body[0].N, p.from, cut}) + n.of(piece{body[1].N, cut, p.to})
}

// put puts the derivation of a piece together.
func (n *counts) put(whole piece) []api.Step {
	var l []api.Step
	pile := []piece{whole}
steps:
	for {
		if len(pile) == 0 {
			break steps
		}
		p := pile[len(pile)-1]
		pile = pile[:len(pile)-1]
		i, cut := n.choose(p)
		l = append(l, api.Step{Prod: i, From: p.from, To: p.to})
		if body := n.c.Prods[i].Body; len(body) == 2 {
			pile = append(pile, piece{body[1].N, cut, p.to}, piece{body[0].N, p.from, cut})
		}
	}
	return l
}

// choose is a production, and a cut, of a piece's shortest derivation.
func (n *counts) choose(p piece) (int, int) {
	for _, i := range n.byHead[p.nt] {
		body := n.c.Prods[i].Body
		if len(body) < 2 {
			if makes(body, n.word, p.from, p.to) {
				return i, 0
			}
			continue
		}
		for cut := range n.cuts(body[0].N, body[1].N, p.from, p.to).all() {
			if n.through(body, p, cut) == n.of(p) {
				return i, cut
			}
		}
	}
	return 0, 0
}
