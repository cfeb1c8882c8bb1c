package paths

import (
	"cmp"
	"iter"
	"math/bits"
	"slices"

	"byway/api"
	"byway/azimov"
	"byway/graph"
)

// code is a way of at most MaxBound edges: a byte for each, the last one's the
// lowest. An edge's byte is its place among all edges as they rise, so of ways
// of one length the numbers rise as the ways do.
type code uint64

// step is how many bits an edge takes.
const step = 8

// entry is a fact, with its ways by how many edges they have.
type entry struct {
	fact  api.Fact
	lists [api.MaxBound + 1][]code
}

// end is a nonterminal with one of the nodes of a fact.
type end struct {
	nt, node int
}

// line is the facts with one end, by their other nodes; of each number of edges
// the nodes of those that have such ways are kept as bits.
type line struct {
	entries [api.MaxNodes]*entry
	has     [api.MaxBound + 1]uint32
}

// lines are such facts, by their ends.
type lines map[end]*line

func (l lines) at(nt, node int) *line {
	x := l[end{nt, node}]
	if x == nil {
		x = &line{}
		l[end{nt, node}] = x
	}
	return x
}

// finder finds the ways of a fact, and of all that it is made of.
type finder struct {
	c        api.Cnf
	byHead   [][]api.Prod
	empty    []bool // which nonterminals have the empty word?
	labels   []string
	nodes    []string
	edges    []api.Edge // rising
	places   map[api.Edge]int
	closure  *azimov.Closure
	row      []*entry // the fact first
	from, to lines    // the facts of the row, by both ends
	most     int
	order    func(a, b code) int
	crossed  []code // room for a list that is only offered
}

func finderOf(c api.Cnf, labels []string, g *graph.Graph, closure *azimov.Closure, f api.Fact, most int) *finder {
	o := &finder{c: c, byHead: make([][]api.Prod, c.Nts), empty: emptyOf(c), labels: labels, nodes: g.Nodes(), edges: g.Data().Edges,
		places: map[api.Edge]int{}, closure: closure, from: lines{}, to: lines{}, most: most, order: cmp.Compare[code]}
	for i, x := range o.edges {
		o.places[x] = i
	}
	for _, p := range c.Prods {
		o.byHead[p.Head] = append(o.byHead[p.Head], p)
	}
	o.entry(f)
	for i := 0; i < len(o.row); i++ {
		x := o.row[i].fact
		for _, p := range o.byHead[x.Nt] {
			for left, right := range o.parts(x, p.Body) {
				o.entry(left)
				o.entry(right)
			}
		}
	}
	return o
}

// emptyOf says which nonterminals have the empty word.
func emptyOf(c api.Cnf) []bool {
	is := make([]bool, c.Nts)
	for more := true; more; {
		more = false
		for _, p := range c.Prods {
			if is[p.Head] || len(p.Body) == 1 || slices.ContainsFunc(p.Body, func(s api.Sym) bool { return !is[s.N] }) {
				continue
			}
			is[p.Head] = true
			more = true
		}
	}
	return is
}

// entry is a fact's, which is put down if it is new.
func (o *finder) entry(f api.Fact) *entry {
	x := o.from.at(f.Nt, f.From)
	if x.entries[f.To] == nil {
		e := &entry{fact: f}
		x.entries[f.To] = e
		o.to.at(f.Nt, f.To).entries[f.From] = e
		o.row = append(o.row, e)
	}
	return x.entries[f.To]
}

// parts are the facts of which a body of two nonterminals makes a fact, with
// all nodes in the middle.
func (o *finder) parts(f api.Fact, body []api.Sym) iter.Seq2[api.Fact, api.Fact] {
	return func(yield func(left, right api.Fact) bool) {
		for mid := range o.nodes {
			if len(body) < 2 {
				return
			}
			left := api.Fact{Nt: body[0].N, From: f.From, To: mid}
			right := api.Fact{Nt: body[1].N, From: mid, To: f.To}
			if o.has(left) && o.has(right) && !yield(left, right) {
				return
			}
		}
	}
}

func (o *finder) has(f api.Fact) bool {
	is, _ := o.closure.Has(f)
	return is
}

// find are the first ways of the fact with at most so many edges.
func (o *finder) find(edges int) found {
	var x found
	for way := range o.ways(edges) {
		if len(x.ways) == o.most {
			x.more = true
			break
		}
		x.ways = append(x.ways, way)
	}
	return x
}

// ways are those of the fact in their order: longer ones are sought when there
// are no shorter ones left.
func (o *finder) ways(edges int) iter.Seq[[]api.Edge] {
	return func(yield func([]api.Edge) bool) {
		for n := range edges + 1 {
			o.level(n)
			for _, w := range o.row[0].lists[n] {
				if !yield(o.spelt(w, n)) {
					return
				}
			}
		}
	}
}

// spelt are a way's edges.
func (o *finder) spelt(w code, n int) []api.Edge {
	way := make([]api.Edge, n)
	for i := range way {
		way[i] = o.edges[w>>(step*(n-1-i))&(1<<step-1)]
	}
	return way
}

// level makes all lists of ways with so many edges, from those with fewer.
func (o *finder) level(n int) {
	for _, e := range o.row {
		for _, p := range o.byHead[e.fact.Nt] {
			if len(p.Body) == 2 {
				o.combine(e, p.Body, n)
			} else if len(p.Body) == n {
				o.single(e, p.Body)
			}
		}
	}
	for more := true; more; {
		more = false
		for _, e := range slices.Backward(o.row) {
			for _, p := range o.byHead[e.fact.Nt] {
				if len(p.Body) == 2 && o.pass(e, p.Body, n) {
					more = true
				}
			}
		}
	}
}

// single offers the way that an empty body, or one of a label, makes by itself.
func (o *finder) single(e *entry, body []api.Sym) {
	if len(body) == 0 {
		if e.fact.From == e.fact.To {
			o.offer(e, 0, []code{0})
		}
		return
	}
	x := api.Edge{From: o.nodes[e.fact.From], Label: o.labels[body[0].N], To: o.nodes[e.fact.To]}
	if i, is := o.places[x]; is {
		o.offer(e, 1, []code{code(i)})
	}
}

// combine offers the ways both of whose parts have edges.
func (o *finder) combine(e *entry, body []api.Sym, n int) {
	if n < 2 {
		return
	}
	left, right := o.from.at(body[0].N, e.fact.From), o.to.at(body[1].N, e.fact.To)
	for k := 1; k < n; k++ {
		for mids := left.has[k] & right.has[n-k]; mids != 0; mids &= mids - 1 {
			mid := bits.TrailingZeros32(mids)
			o.cross(e, n, left.entries[mid].lists[k], right.entries[mid].lists[n-k], step*(n-k))
		}
	}
}

// cross offers the ways of one list with those of another one behind them,
// which take so many bits.
func (o *finder) cross(e *entry, n int, left, right []code, shift int) {
	if o.isBehind(e.lists[n], left[0]<<shift|right[0]) {
		return
	}
	l := o.crossed[:0]
	for _, w := range left {
		for _, x := range right {
			l = append(l, w<<shift|x)
		}
		if len(l) > o.most {
			break
		}
	}
	o.crossed = l
	o.offer(e, n, o.cut(l))
}

// pass offers the ways of one part, where the other one has the way without
// edges; was there something new?
func (o *finder) pass(e *entry, body []api.Sym, n int) bool {
	more := false
	if o.empty[body[0].N] {
		if x := o.from.at(body[1].N, e.fact.From).entries[e.fact.To]; x != nil {
			more = o.offer(e, n, x.lists[n])
		}
	}
	if o.empty[body[1].N] {
		if x := o.from.at(body[0].N, e.fact.From).entries[e.fact.To]; x != nil {
			more = o.offer(e, n, x.lists[n]) || more
		}
	}
	return more
}

// cut is a list's beginning: one way more than are asked for tells that there
// are more.
func (o *finder) cut(l []code) []code {
	n := min(len(l), o.most+1)
	return l[:n:n]
}

// isBehind: does a list that is full end ahead of a way?
func (o *finder) isBehind(l []code, w code) bool {
	return len(l) > o.most && o.order(l[len(l)-1], w) < 0
}

// offer joins ways to a fact's; was there something new?
func (o *finder) offer(e *entry, n int, l []code) bool {
	if !o.isNews(e.lists[n], l) {
		return false
	}
	e.lists[n] = o.cut(joined(e.lists[n], l, o.order))
	o.from.at(e.fact.Nt, e.fact.From).has[n] |= 1 << e.fact.To
	o.to.at(e.fact.Nt, e.fact.To).has[n] |= 1 << e.fact.From
	return true
}

// isNews: has a list a way that is to stand in another one, and does not yet?
func (o *finder) isNews(old, l []code) bool {
	left := old
	for _, w := range l {
		if o.isBehind(old, w) {
			return false
		}
		for len(left) > 0 && o.order(left[0], w) < 0 {
			left = left[1:]
		}
		if len(left) == 0 || left[0] != w {
			return true
		}
	}
	return false
}

// joined are two lists as one, in order, each way once.
func joined(a, b []code, order func(a, b code) int) []code {
	both := make([]code, 0, len(a)+len(b))
	for len(a) > 0 && len(b) > 0 {
		c := order(a[0], b[0])
		if c <= 0 {
			both = append(both, a[0])
			a = a[1:]
		}
		if c > 0 {
			both = append(both, b[0])
		}
		if c >= 0 {
			b = b[1:]
		}
	}
	return append(append(both, a...), b...)
}
