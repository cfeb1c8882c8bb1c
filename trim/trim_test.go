package trim_test

import (
	"cmp"
	"math"
	"slices"
	"testing"

	"byway/api"
	"byway/graph"
	"byway/sample"
	"byway/sppf"
	"byway/trim"
)

func nt(n int) api.Sym { return api.Sym{N: n} }

func label(n int) api.Sym { return api.Sym{Label: true, N: n} }

func prod(head int, body ...api.Sym) api.Prod { return api.Prod{Head: head, Body: body} }

func fact(nt, from, to int) api.Fact { return api.Fact{Nt: nt, From: from, To: to} }

func leaf(spot, prod int) api.Pack { return api.Pack{Spot: spot, Prod: prod, Left: -1, Right: -1} }

func same(x, y api.Forest) bool {
	return slices.Equal(x.Spots, y.Spots) && slices.Equal(x.Packs, y.Packs)
}

func order(a, b api.Pack) int {
	return cmp.Or(cmp.Compare(a.Spot, b.Spot), cmp.Compare(a.Prod, b.Prod), cmp.Compare(a.Mid, b.Mid))
}

// random is a forest of at most so many spots, each with some packs.
func random(t *testing.T, n *sample.Noise, count int) api.Forest {
	t.Helper()
	met := map[api.Fact]bool{}
	var x api.Forest
	nodes := 1 + n.Below(2)
	for range count {
		if f := fact(n.Below(4), n.Below(nodes), n.Below(nodes)); !met[f] {
			met[f] = true
			x.Spots = append(x.Spots, f)
		}
	}
	slices.SortFunc(x.Spots, func(a, b api.Fact) int {
		return cmp.Or(cmp.Compare(a.Nt, b.Nt), cmp.Compare(a.From, b.From), cmp.Compare(a.To, b.To))
	})
	rare := 1 + n.Below(14)
	for i, s := range x.Spots {
		have := len(x.Packs)
		for l, left := range x.Spots {
			for r, right := range x.Spots {
				if left.From == s.From && left.To == right.From && right.To == s.To && n.Below(rare) == 0 {
					x.Packs = append(x.Packs, api.Pack{Spot: i, Prod: n.Below(5), Mid: left.To, Left: l, Right: r})
				}
			}
		}
		if len(x.Packs) == have || n.Below(3) == 0 {
			x.Packs = append(x.Packs, leaf(i, 5+n.Below(2)))
		}
	}
	slices.SortFunc(x.Packs, order)
	x.Packs = slices.CompactFunc(x.Packs, func(a, b api.Pack) bool { return order(a, b) == 0 })
	if e := sppf.Check(x); e != api.OK {
		t.Fatal(x, e)
	}
	return x
}

// withoutLeaves are a forest's packs without some leaves, so that not all spots end.
func withoutLeaves(n *sample.Noise, x api.Forest) api.Forest {
	var y api.Forest
	y.Spots = x.Spots
	for i, p := range x.Packs {
		alone := (i == 0 || x.Packs[i-1].Spot != p.Spot) && (i+1 == len(x.Packs) || x.Packs[i+1].Spot != p.Spot)
		if p.Left >= 0 || alone || n.Below(4) == 0 {
			y.Packs = append(y.Packs, p)
		}
	}
	if sppf.Check(y) != api.OK {
		return x
	}
	return y
}

// sizes are how many derivations each spot has, by how many packs these have.
func sizes(x api.Forest, most int) [][]int {
	l := make([][]int, len(x.Spots))
	for i := range l {
		l[i] = make([]int, most+1)
	}
	for n := 1; n <= most; n++ {
		for _, p := range x.Packs {
			if p.Left < 0 && n == 1 {
				l[p.Spot][n]++
			}
			for k := 1; p.Left >= 0 && k < n-1; k++ {
				l[p.Spot][n] = min(l[p.Spot][n]+l[p.Left][k]*l[p.Right][n-1-k], 1<<20)
			}
		}
	}
	return l
}

// reached are the spots that are reached from some.
func reached(x api.Forest, from ...int) []int {
	l := slices.Clone(from)
	for i := 0; i < len(l); i++ {
		for _, p := range x.Packs {
			for _, part := range []int{p.Left, p.Right} {
				if p.Spot == l[i] && part >= 0 && !slices.Contains(l, part) {
					l = append(l, part)
				}
			}
		}
	}
	return l
}

// cut is a forest cut to some spots.
func cut(x api.Forest, stays func(i int) bool) api.Forest {
	var c api.Forest
	for i, s := range x.Spots {
		if stays(i) {
			c.Spots = append(c.Spots, s)
		}
	}
	now := func(i int) int { return slices.Index(c.Spots, x.Spots[i]) }
	for _, p := range x.Packs {
		if !stays(p.Spot) || p.Left >= 0 && (!stays(p.Left) || !stays(p.Right)) {
			continue
		}
		p.Spot = now(p.Spot)
		if p.Left >= 0 {
			p.Left, p.Right = now(p.Left), now(p.Right)
		}
		c.Packs = append(c.Packs, p)
	}
	return c
}

// isDerivation reads a list of packs as the chapter says.
func isDerivation(x api.Forest, spot int, l []api.Pack) bool {
	pile := []int{spot}
	for _, p := range l {
		if len(pile) == 0 || p.Spot != pile[len(pile)-1] || !slices.Contains(x.Packs, p) {
			return false
		}
		pile = pile[:len(pile)-1]
		if p.Left >= 0 {
			pile = append(pile, p.Right, p.Left)
		}
	}
	return len(pile) == 0
}

const most = 140

// P29.1, P29.2, P29.3, P29.4, P29.5
func TestForests(t *testing.T) {
	n := sample.Noise(1)
	for range 700 {
		x := random(t, &n, n.Below(7))
		if n.Below(2) == 0 {
			x = withoutLeaves(&n, x)
		}
		before := api.Forest{Spots: slices.Clone(x.Spots), Packs: slices.Clone(x.Packs)}
		known := sizes(x, most)
		least := make([]int, len(x.Spots))
		for i := range least {
			least[i] = max(0, slices.IndexFunc(known[i], func(k int) bool { return k > 0 }))
		}
		ends, e1 := trim.Ends(x)
		rings, e2 := trim.Rings(x)
		small, e3 := trim.Small(x)
		trimmed, e4 := trim.Trim(x)
		if e1 != api.OK || e2 != api.OK || e3 != api.OK || e4 != api.OK || !slices.Equal(small, least) || len(ends) != len(least) || len(rings) != len(least) {
			t.Fatal(x, small, least)
		}
		for i := range x.Spots {
			var parts []int
			for p := range sppf.Packs(x, i) {
				if p.Left >= 0 {
					parts = append(parts, p.Left, p.Right)
				}
			}
			if ends[i] != (least[i] > 0) || rings[i] != slices.Contains(reached(x, parts...), i) {
				t.Fatal(x, i, ends[i], rings[i])
			}
			checkSpot(t, x, i, known[i], least[i])
		}
		if !same(trimmed, cut(x, func(i int) bool { return ends[i] })) || sppf.Check(trimmed) != api.OK {
			t.Fatal(x, trimmed)
		}
		if twice, _ := trim.Trim(trimmed); !same(twice, trimmed) || !same(x, before) {
			t.Fatal(twice)
		}
		checkRings(t, trimmed)
	}
}

func checkSpot(t *testing.T, x api.Forest, i int, known []int, least int) {
	t.Helper()
	r, e := trim.Reach(x, i)
	l := reached(x, i)
	if e != api.OK || !same(r, cut(x, func(k int) bool { return slices.Contains(l, k) })) || sppf.Check(r) != api.OK {
		t.Fatal(x, i, r, e)
	}
	at, _ := sppf.Find(r, x.Spots[i])
	if again, _ := trim.Reach(r, at); !same(again, r) {
		t.Fatal(again)
	}
	picked, e := trim.Pick(x, i)
	if least == 0 {
		if picked != nil || e != api.ErrEnds {
			t.Fatal(picked, e)
		}
	} else if e != api.OK || len(picked) != least || !isDerivation(x, i, picked) {
		t.Fatal(x, i, picked, e)
	}
	total := 0
	for _, k := range known {
		total += k
	}
	// Without rings a derivation of 7 spots is at most 127 packs long.
	endless := slices.ContainsFunc(known[128:], func(k int) bool { return k > 0 })
	for _, bound := range []int{0, 1, 2, 5, 100, 4096} {
		want, more := min(total, bound), total > bound || endless
		if more {
			want = bound
		}
		if k, cut, e := trim.Count(x, i, bound); k != want || cut != more || e != api.OK {
			t.Fatal(x, i, bound, k, cut, e, total)
		}
	}
}

// checkRings: what reaches a ring has more derivations than any number.
func checkRings(t *testing.T, x api.Forest) {
	t.Helper()
	rings, _ := trim.Rings(x)
	for i := range x.Spots {
		if slices.ContainsFunc(reached(x, i), func(k int) bool { return rings[k] }) {
			if k, more, _ := trim.Count(x, i, 4096); k != 4096 || !more {
				t.Fatal(x, i, k, more)
			}
		}
	}
}

func example(t *testing.T) api.Forest {
	t.Helper()
	g := graph.New()
	g.AddEdge("n0", "a", "n1")
	g.AddEdge("n1", "a", "n0")
	x, e := sppf.Of(api.Cnf{Nts: 1, Prods: []api.Prod{prod(0, nt(0), nt(0)), prod(0, label(0))}}, []string{"a"}, g, fact(0, 0, 1))
	if e != api.OK {
		t.Fatal(e)
	}
	return x
}

func TestExamples(t *testing.T) {
	x := example(t)
	all := []bool{true, true, true, true}
	if l, e := trim.Ends(x); !slices.Equal(l, all) || e != api.OK {
		t.Error(l, e)
	}
	if l, e := trim.Rings(x); !slices.Equal(l, all) || e != api.OK {
		t.Error(l, e)
	}
	if l, e := trim.Small(x); !slices.Equal(l, []int{3, 1, 1, 3}) || e != api.OK {
		t.Error(l, e)
	}
	if n, more, e := trim.Count(x, 1, 5); n != 5 || !more || e != api.OK {
		t.Error(n, more, e)
	}
	if l, e := trim.Pick(x, 1); !slices.Equal(l, []api.Pack{leaf(1, 1)}) || e != api.OK {
		t.Error(l, e)
	}
	y, e1 := trim.Trim(x)
	z, e2 := trim.Reach(x, 0)
	if !same(x, y) || !same(x, z) || e1 != api.OK || e2 != api.OK {
		t.Error(y, z)
	}
	y.Packs[0].Mid = 9
	y.Spots[0].Nt = 9
	if !same(x, example(t)) {
		t.Error("something is shared")
	}
}

func TestErrors(t *testing.T) {
	bad := api.Forest{Spots: []api.Fact{fact(0, 0, 0)}}
	x := example(t)
	for _, c := range []struct {
		x    api.Forest
		spot int
		e    api.Errno
	}{{bad, -1, api.ErrForest}, {x, -1, api.ErrNone}, {x, 4, api.ErrNone}, {x, math.MaxInt, api.ErrNone}, {x, math.MinInt, api.ErrNone}, {api.Forest{}, 0, api.ErrNone}} {
		r, e1 := trim.Reach(c.x, c.spot)
		n, more, e2 := trim.Count(c.x, c.spot, -1)
		l, e3 := trim.Pick(c.x, c.spot)
		if e1 != c.e || e2 != c.e || e3 != c.e || !same(r, api.Forest{}) || n != 0 || more || l != nil {
			t.Error(c.spot, e1, e2, e3)
		}
	}
	for _, most := range []int{-1, 4097, math.MinInt, math.MaxInt} {
		if n, more, e := trim.Count(x, 0, most); n != 0 || more || e != api.ErrArg {
			t.Error(most, n, more, e)
		}
	}
	ends, e1 := trim.Ends(bad)
	rings, e2 := trim.Rings(bad)
	small, e3 := trim.Small(bad)
	y, e4 := trim.Trim(bad)
	if e1 != api.ErrForest || e2 != api.ErrForest || e3 != api.ErrForest || e4 != api.ErrForest || ends != nil || rings != nil || small != nil || !same(y, api.Forest{}) {
		t.Error(e1, e2, e3, e4)
	}
	if y, e := trim.Trim(api.Forest{}); e != api.OK || !same(y, api.Forest{}) {
		t.Error(y, e)
	}
}

// chain is spots 0, 1 and so on, each of two of the next one, the last one a leaf.
func chain(count int) api.Forest {
	var x api.Forest
	for i := range count {
		x.Spots = append(x.Spots, fact(i, 0, 0))
		if i+1 < count {
			x.Packs = append(x.Packs, api.Pack{Spot: i, Left: i + 1, Right: i + 1})
		}
	}
	x.Packs = append(x.Packs, leaf(count-1, 0))
	return x
}

// P29.4, P29.3: at the bounds.
func TestBounds(t *testing.T) {
	x := chain(40)
	small, e := trim.Small(x)
	if e != api.OK || small[39] != 1 || small[28] != 4095 || small[27] != 4097 || small[0] != 4097 {
		t.Error(small, e)
	}
	if l, e := trim.Pick(x, 28); len(l) != 4095 || e != api.OK || !isDerivation(x, 28, l) {
		t.Error(len(l), e)
	}
	for _, spot := range []int{0, 27} {
		if l, e := trim.Pick(x, spot); l != nil || e != api.ErrSteps {
			t.Error(len(l), e)
		}
	}
	// Two leaves below: 2, 4, 16, 256, 65536 derivations, and so on.
	x.Packs = append(x.Packs, leaf(39, 1))
	for spot, want := range map[int]int{39: 2, 38: 4, 37: 16, 36: 256} {
		if n, more, e := trim.Count(x, spot, 4096); n != want || more || e != api.OK {
			t.Error(spot, n, more, e)
		}
		if n, more, e := trim.Count(x, spot, want); n != want || more || e != api.OK {
			t.Error(spot, n, more, e)
		}
		if n, more, e := trim.Count(x, spot, want-1); n != want-1 || !more || e != api.OK {
			t.Error(spot, n, more, e)
		}
	}
	for _, spot := range []int{0, 20, 35} {
		if n, more, e := trim.Count(x, spot, 4096); n != 4096 || !more || e != api.OK {
			t.Error(spot, n, more, e)
		}
	}
}

// A ring that does not end beside a derivation that does.
func TestRingsThatDoNotEnd(t *testing.T) {
	x := api.Forest{Spots: []api.Fact{fact(0, 0, 0), fact(1, 0, 0), fact(2, 0, 0)}, Packs: []api.Pack{
		{Spot: 0, Prod: 0, Left: 1, Right: 2}, leaf(0, 1), {Spot: 1, Prod: 0, Left: 1, Right: 1}, leaf(2, 0),
	}}
	if n, more, e := trim.Count(x, 0, 9); n != 1 || more || e != api.OK {
		t.Error(n, more, e)
	}
	if n, more, e := trim.Count(x, 1, 9); n != 0 || more || e != api.OK {
		t.Error(n, more, e)
	}
	if l, _ := trim.Rings(x); !slices.Equal(l, []bool{false, true, false}) {
		t.Error(l)
	}
	if l, _ := trim.Ends(x); !slices.Equal(l, []bool{true, false, true}) {
		t.Error(l)
	}
	want := api.Forest{Spots: []api.Fact{fact(0, 0, 0), fact(2, 0, 0)}, Packs: []api.Pack{leaf(0, 1), leaf(1, 0)}}
	if y, e := trim.Trim(x); !same(y, want) || e != api.OK {
		t.Error(y, e)
	}
}

func TestGreat(t *testing.T) {
	x := chain(60000)
	if l, e := trim.Ends(x); e != api.OK || slices.Contains(l, false) {
		t.Error(e)
	}
	if l, e := trim.Rings(x); e != api.OK || slices.Contains(l, true) {
		t.Error(e)
	}
	if n, more, e := trim.Count(x, 0, 7); n != 1 || more || e != api.OK {
		t.Error(n, more, e)
	}
	x.Packs[59999] = api.Pack{Spot: 59999, Left: 0, Right: 0}
	if l, e := trim.Rings(x); e != api.OK || slices.Contains(l, false) {
		t.Error(e)
	}
	if l, e := trim.Small(x); e != api.OK || slices.Max(l) != 0 {
		t.Error(e)
	}
}

// The forests of layer 22: all spots end.
func TestFactsForests(t *testing.T) {
	n := sample.Noise(3)
	for range 60 {
		c := n.Weak(n.Below(12), 1+n.Below(4), 2)
		g := graph.New()
		for _, x := range n.Edges(8, []string{"x", "y", "z"}, []string{"a", "b"}) {
			g.AddEdge(x.From, x.Label, x.To)
		}
		x, e := sppf.Of(c, []string{"a", "b"}, g, fact(0, 0, 1))
		if e == api.ErrNone {
			continue
		}
		ends, _ := trim.Ends(x)
		y, _ := trim.Trim(x)
		if slices.Contains(ends, false) || !same(x, y) {
			t.Fatal(x)
		}
		if at, is := sppf.Find(x, fact(0, 0, 1)); is {
			if z, _ := trim.Reach(x, at); !same(x, z) {
				t.Fatal(z)
			}
		}
	}
}
