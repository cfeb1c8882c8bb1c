package sample

import (
	"slices"

	"byway/api"
)

// Relation says which pairs of so many nodes there are.
type Relation [][]bool

func relation(nodes int) Relation {
	r := make(Relation, nodes)
	for u := range r {
		r[u] = make([]bool, nodes)
	}
	return r
}

// same is the relation of each node to itself.
func same(nodes int) Relation {
	r := relation(nodes)
	for u := range r {
		r[u][u] = true
	}
	return r
}

// step is the relation of the edges with a label.
func step(nodes []string, edges []api.Edge, label string) Relation {
	r := relation(len(nodes))
	for _, x := range edges {
		if x.Label == label {
			r[slices.Index(nodes, x.From)][slices.Index(nodes, x.To)] = true
		}
	}
	return r
}

func (r Relation) then(o Relation) Relation {
	both := relation(len(r))
	for u := range r {
		for v := range r {
			for w := range r {
				both[u][w] = both[u][w] || r[u][v] && o[v][w]
			}
		}
	}
	return both
}

// join puts another one's pairs in; was there something new?
func (r Relation) join(o Relation) bool {
	more := false
	for u := range o {
		for v := range o {
			if o[u][v] && !r[u][v] {
				r[u][v] = true
				more = true
			}
		}
	}
	return more
}

func (r Relation) or(o Relation) Relation {
	both := relation(len(r))
	both.join(r)
	both.join(o)
	return both
}

func (r Relation) repeated() Relation {
	all := r.or(r)
	for all.join(all.then(r)) {
	}
	return all
}

// Pairs are a relation's pairs, rising.
func (r Relation) Pairs() []api.Cell {
	var l []api.Cell
	for u := range r {
		for v := range r {
			if r[u][v] {
				l = append(l, api.Cell{Row: u, Col: v})
			}
		}
	}
	return l
}

// Facts are those of productions of empty bodies, labels and nonterminals, by
// the nodes' places: by rounds over all productions.
func Facts(c api.Cnf, labels, nodes []string, edges []api.Edge) []Relation {
	known := make([]Relation, c.Nts)
	for nt := range known {
		known[nt] = relation(len(nodes))
	}
	for more := true; more; {
		more = false
		for _, p := range c.Prods {
			r := same(len(nodes))
			for _, s := range p.Body {
				if s.Label {
					r = r.then(step(nodes, edges, labels[s.N]))
				} else {
					r = r.then(known[s.N])
				}
			}
			if known[p.Head].join(r) {
				more = true
			}
		}
	}
	return known
}

// Solved are the pairs R(A) of a grammar's nonterminals, reckoned as its rules
// say them.
func Solved(g []api.Rule, nodes []string, edges []api.Edge) map[string]Relation {
	known := map[string]Relation{}
	for _, r := range g {
		known[r.Head] = relation(len(nodes))
	}
	for more := true; more; {
		more = false
		for _, r := range g {
			led, _ := treeRelation(r.Body, known, nodes, edges)
			if known[r.Head].join(led) {
				more = true
			}
		}
	}
	return known
}

// treeRelation is that of the first tree of a list, and what is behind it.
func treeRelation(l []api.Node, known map[string]Relation, nodes []string, edges []api.Edge) (Relation, []api.Node) {
	n, rest := l[0], l[1:]
	var kids []Relation
	for range n.Kids {
		var k Relation
		k, rest = treeRelation(rest, known, nodes, edges)
		kids = append(kids, k)
	}
	whole := same(len(nodes))
	switch n.Kind {
	case api.KindName:
		whole = known[n.Name]
	case api.KindLabel:
		whole = step(nodes, edges, n.Name)
	case api.KindSeq:
		for _, k := range kids {
			whole = whole.then(k)
		}
	case api.KindAlt:
		whole = relation(len(nodes))
		for _, k := range kids {
			whole.join(k)
		}
	case api.KindStar:
		whole.join(kids[0].repeated())
	case api.KindPlus:
		whole = kids[0].repeated()
	case api.KindOpt:
		whole.join(kids[0])
	}
	return whole, rest
}
