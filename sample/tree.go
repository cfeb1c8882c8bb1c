package sample

import (
	"slices"

	"byway/api"
)

// Tree is a regular expression of at most that height over some names and
// labels; one of both there must be.
func (n *Noise) Tree(height int, names, labels []string) []api.Node {
	kinds := []api.Kind{api.KindSeq, api.KindAlt, api.KindSeq, api.KindAlt, api.KindStar, api.KindPlus, api.KindOpt}
	if height <= 1 || n.Below(4) == 0 {
		return n.leaf(names, labels)
	}
	kind := kinds[n.Below(len(kinds))]
	count := 1
	if kind == api.KindSeq || kind == api.KindAlt {
		count = 2 + n.Below(2)
	}
	l := []api.Node{{Kind: kind, Kids: count}}
	for range count {
		l = slices.Concat(l, n.Tree(height-1, names, labels))
	}
	return l
}

func (n *Noise) leaf(names, labels []string) []api.Node {
	i := n.Below(len(names) + len(labels) + 1)
	switch {
	case i < len(names):
		return []api.Node{{Kind: api.KindName, Name: names[i]}}
	case i < len(names)+len(labels):
		return []api.Node{{Kind: api.KindLabel, Name: labels[i-len(names)]}}
	}
	return []api.Node{{Kind: api.KindEmpty}}
}

// Words are all words over some symbols with at most so many of them, the
// shorter ones first.
func Words(symbols []string, most int) [][]string {
	all := [][]string{nil}
	last := all
	for range most {
		var next [][]string
		for _, w := range last {
			for _, s := range symbols {
				next = append(next, slices.Concat(w, []string{s}))
			}
		}
		all = slices.Concat(all, next)
		last = next
	}
	return all
}
