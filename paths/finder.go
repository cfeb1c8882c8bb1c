package paths

import (
	"cmp"
	"iter"
	"slices"

	"byway/api"
	"byway/azimov"
	"byway/graph"
)

// code is a way of at most MaxBound edges: a byte for each, the last one's the
// lowest. An edge's byte is its place among all edges as they rise, so of ways
// of one length the numbers rise as the ways do.
type code uint64

// step is how many bits an edge takes.
const step = 8

// entry is a fact, with its ways by how many edges they have.
type entry struct {
	fact   api.Fact
	lists  [api.MaxBound + 1][]code
	splits []split
	// same are the facts whose ways are ways of this one, too, since the other
	// part of a split has the way without edges.
	same []*entry
}

// split is two facts whose ways, one behind the other, are ways of a third.
type split struct {
	left, right *entry
}

// finder finds the ways of a fact, and of all that it is made of.
type finder struct {
	c       api.Cnf
	byHead  [][]api.Prod
	labels  []string
	nodes   []string
	edges   []api.Edge // rising
	places  map[api.Edge]int
	closure *azimov.Closure
	row     []*entry // the fact first
	entries map[api.Fact]*entry
	most    int
	order   func(a, b code) int
}

func finderOf(c api.Cnf, labels []string, g *graph.Graph, closure *azimov.Closure, f api.Fact, most int) *finder {
	o := &finder{c: c, byHead: make([][]api.Prod, c.Nts), labels: labels, nodes: g.Nodes(), edges: g.Data().Edges,
		places: map[api.Edge]int{}, closure: closure, entries: map[api.Fact]*entry{}, most: most, order: cmp.Compare[code]}
	for i, x := range o.edges {
		o.places[x] = i
	}
	for _, p := range c.Prods {
		o.byHead[p.Head] = append(o.byHead[p.Head], p)
	}
	o.entry(f)
	for i := 0; i < len(o.row); i++ {
		e := o.row[i]
		for _, p := range o.byHead[e.fact.Nt] {
			for s := range o.parts(e.fact, p.Body) {
				e.splits = append(e.splits, s)
			}
		}
	}
	return o
}

// entry is a fact's, which is put down if it is new.
func (o *finder) entry(f api.Fact) *entry {
	e := o.entries[f]
	if e == nil {
		e = &entry{fact: f}
		o.entries[f] = e
		o.row = append(o.row, e)
	}
	return e
}

// parts are the splits of a fact by a body of two nonterminals.
func (o *finder) parts(f api.Fact, body []api.Sym) iter.Seq[split] {
	return func(yield func(split) bool) {
		for mid := range o.nodes {
			if len(body) < 2 {
				return
			}
			left := api.Fact{Nt: body[0].N, From: f.From, To: mid}
			right := api.Fact{Nt: body[1].N, From: mid, To: f.To}
			if !o.has(left) || !o.has(right) {
				continue
			}
			if !yield(split{o.entry(left), o.entry(right)}) {
				return
			}
		}
	}
}

func (o *finder) has(f api.Fact) bool {
	is, _ := o.closure.Has(f)
	return is
}

// find are the first ways of the fact with at most so many edges.
func (o *finder) find(edges int) found {
	var x found
	for n := 0; n <= edges && !x.more; n++ {
		o.level(n)
		for _, w := range o.row[0].lists[n] {
			if len(x.ways) == o.most {
				x.more = true
				break
			}
			x.ways = append(x.ways, slices.Collect(o.spelt(w, n)))
		}
	}
	return x
}

// spelt are a way's edges.
func (o *finder) spelt(w code, n int) iter.Seq[api.Edge] {
	return func(yield func(api.Edge) bool) {
		for i := n - 1; i >= 0; i-- {
			if !yield(o.edges[w>>(step*i)&(1<<step-1)]) {
				return
			}
		}
	}
}

// level makes all lists of ways with so many edges, from those with fewer.
func (o *finder) level(n int) {
	for _, e := range o.row {
		e.lists[n] = o.single(e.fact, n)
		for _, s := range e.splits {
			o.combine(e, s, n)
		}
	}
	if n == 0 {
		o.findEmpty()
		return
	}
	for more := true; more; {
		more = false
		for _, e := range slices.Backward(o.row) {
			for _, s := range e.same {
				if o.offer(e, n, s.lists[n]) {
					more = true
				}
			}
		}
	}
}

// single are the ways of so many edges that a production makes by itself.
func (o *finder) single(f api.Fact, n int) []code {
	var l []code
	for _, p := range o.byHead[f.Nt] {
		if len(p.Body) != n || n > 1 {
			continue
		}
		if n == 0 {
			if f.From == f.To {
				l = append(l, 0)
			}
			continue
		}
		x := api.Edge{From: o.nodes[f.From], Label: o.labels[p.Body[0].N], To: o.nodes[f.To]}
		if i, is := o.places[x]; is {
			l = append(l, code(i))
		}
	}
	slices.SortFunc(l, o.order)
	return o.cut(slices.Compact(l))
}

// cut is a list's beginning: one way more than are asked for tells that there
// are more.
func (o *finder) cut(l []code) []code {
	n := min(len(l), o.most+1)
	return l[:n:n]
}

// combine offers the ways of a split both of whose parts have edges.
func (o *finder) combine(e *entry, s split, n int) {
	for k := 1; k < n; k++ {
		left, right := s.left.lists[k], s.right.lists[n-k]
		if len(left) == 0 || len(right) == 0 || o.isBehind(e.lists[n], left[0]<<(step*(n-k))|right[0]) {
			continue
		}
		var l []code
		for _, w := range left {
			for _, x := range right {
				l = append(l, w<<(step*(n-k))|x)
			}
			if len(l) > o.most {
				break
			}
		}
		o.offer(e, n, o.cut(l))
	}
}

// isBehind: does a list that is full end ahead of a way?
func (o *finder) isBehind(l []code, w code) bool {
	return len(l) > o.most && o.order(l[len(l)-1], w) < 0
}

// offer joins ways to a fact's; was there something new?
func (o *finder) offer(e *entry, n int, l []code) bool {
	if len(l) == 0 || o.isBehind(e.lists[n], l[0]) {
		return false
	}
	both := o.cut(joined(e.lists[n], l, o.order))
	more := !slices.Equal(both, e.lists[n])
	e.lists[n] = both
	return more
}

// joined are two lists as one, in order, each way once.
func joined(a, b []code, order func(a, b code) int) []code {
	both := make([]code, 0, len(a)+len(b))
	for len(a) > 0 && len(b) > 0 {
		c := order(a[0], b[0])
		if c <= 0 {
			both = append(both, a[0])
			a = a[1:]
		}
		if c > 0 {
			both = append(both, b[0])
		}
		if c >= 0 {
			b = b[1:]
		}
	}
	return append(append(both, a...), b...)
}

// findEmpty finds which facts have the way without edges, and then which have
// the ways of others.
func (o *finder) findEmpty() {
	for more := true; more; {
		more = false
		for _, e := range slices.Backward(o.row) {
			for _, s := range e.splits {
				if len(s.left.lists[0]) > 0 && o.offer(e, 0, s.right.lists[0]) {
					more = true
				}
			}
		}
	}
	for _, e := range o.row {
		for _, s := range e.splits {
			if len(s.left.lists[0]) > 0 {
				e.same = append(e.same, s.right)
			}
			if len(s.right.lists[0]) > 0 {
				e.same = append(e.same, s.left)
			}
		}
	}
}
