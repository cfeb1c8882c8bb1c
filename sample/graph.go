package sample

import "byway/api"

// Edges are so many edges between some nodes; the same one may stand twice.
func (n *Noise) Edges(count int, nodes, labels []string) []api.Edge {
	var l []api.Edge
	for range count {
		from, label := nodes[n.Below(len(nodes))], labels[n.Below(len(labels))]
		l = append(l, api.Edge{From: from, Label: label, To: nodes[n.Below(len(nodes))]})
	}
	return l
}
