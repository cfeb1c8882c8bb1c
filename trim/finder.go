package trim

import (
	"slices"

	"byway/api"
)

// finder finds things of all spots of a forest.
type finder struct {
	packs [][]api.Pack // by spots
	parts [][]int      // the spots that stand as parts in a spot's packs
	users [][]int      // the spots in whose packs a spot stands as a part
	order []int        // all spots, each behind its parts, but in rings
	ends  []bool
	least []int // how many packs the shortest derivations have, 0 without any
	count []int // how many derivations there are
	bound int   // where counts are cut
}

func hasParts(p api.Pack) bool { return p.Left >= 0 }

func finderOf(x api.Forest) *finder {
	n := len(x.Spots)
	f := &finder{packs: make([][]api.Pack, n), parts: make([][]int, n), users: make([][]int, n)}
	for _, p := range x.Packs {
		f.packs[p.Spot] = append(f.packs[p.Spot], p)
		if hasParts(p) {
			f.parts[p.Spot] = append(f.parts[p.Spot], p.Left, p.Right)
			f.users[p.Left] = append(f.users[p.Left], p.Spot)
			f.users[p.Right] = append(f.users[p.Right], p.Spot)
		}
	}
	met := make([]bool, n)
	for spot := range x.Spots {
		f.order = append(f.order, leave(f.parts, spot, met)...)
	}
	return f
}

// frame is a spot that is gone through, and how many of its nexts are done.
type frame struct {
	spot, done int
}

// leave goes from a spot to all that is not met yet, and tells each spot when
// it leaves it: behind all to which it led.
func leave(next [][]int, from int, met []bool) []int {
	var left []int
	var pile []frame
	enter := func(spot int) {
		if !met[spot] {
			met[spot] = true
			pile = append(pile, frame{spot, 0})
		}
	}
	enter(from)
	for len(pile) > 0 {
		top := &pile[len(pile)-1]
		if top.done == len(next[top.spot]) {
			left = append(left, top.spot)
			pile = pile[:len(pile)-1]
			continue
		}
		top.done++
		enter(next[top.spot][top.done-1])
	}
	return left
}

// reached says which spots are reached from one.
func (f *finder) reached(spot int) []bool {
	met := make([]bool, len(f.packs))
	leave(f.parts, spot, met)
	return met
}

// rings says which spots run in a ring.
func (f *finder) rings() []bool {
	is := make([]bool, len(f.packs))
	met := make([]bool, len(f.packs))
	// From the last one on, backwards: what is led to and not met yet leads to
	// the spot itself, too.
	for _, spot := range slices.Backward(f.order) {
		together := leave(f.users, spot, met)
		for _, s := range together {
			is[s] = len(together) > 1 || slices.Contains(f.parts[s], s)
		}
	}
	return is
}

// settle goes over all spots till none gets better any more.
func (f *finder) settle(better func(spot int) bool) {
	for more := true; more; {
		more = false
		for _, spot := range f.order {
			if better(spot) {
				more = true
			}
		}
	}
}

// ending says which spots end.
func (f *finder) ending() []bool {
	f.ends = make([]bool, len(f.packs))
	f.settle(f.end)
	return f.ends
}

func (f *finder) end(spot int) bool {
	if f.ends[spot] {
		return false
	}
	f.ends[spot] = slices.ContainsFunc(f.packs[spot], func(p api.Pack) bool {
		return !hasParts(p) || f.ends[p.Left] && f.ends[p.Right]
	})
	return f.ends[spot]
}

// small says how many packs each spot's shortest derivation has.
func (f *finder) small() []int {
	f.least = make([]int, len(f.packs))
	f.settle(f.shorten)
	return f.least
}

func (f *finder) shorten(spot int) bool {
	more := false
	for _, p := range f.packs[spot] {
		if n := f.through(p); n > 0 && (f.least[spot] == 0 || n < f.least[spot]) {
			f.least[spot] = n
			more = true
		}
	}
	return more
}

// through is how many packs a shortest derivation by a pack has, as far as it
// is known; 0, if it is not known that there is one.
func (f *finder) through(p api.Pack) int {
	n := 1
	if hasParts(p) {
		if f.least[p.Left] == 0 || f.least[p.Right] == 0 {
			return 0
		}
		n += f.least[p.Left]
		n += f.least[p.Right]
	}
	return min(n, many)
}

// smallest is the pack of a spot's shortest derivation.
func (f *finder) smallest(spot int) api.Pack {
	i := slices.IndexFunc(f.packs[spot], func(p api.Pack) bool { return f.through(p) == f.least[spot] })
	return f.packs[spot][i]
}

// counts says how many derivations each spot has, cut at a bound; there must be
// no rings.
func (f *finder) counts(bound int) []int {
	f.count, f.bound = make([]int, len(f.packs)), bound
	f.settle(f.recount)
	return f.count
}

func (f *finder) recount(spot int) bool {
	sum := 0
	for _, p := range f.packs[spot] {
		ways := 1
		if hasParts(p) {
			ways *= f.count[p.Left]
			ways *= f.count[p.Right]
		}
		sum += ways
		sum = min(sum, f.bound)
	}
	more := sum != f.count[spot]
	f.count[spot] = sum
	return more
}
