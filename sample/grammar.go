package sample

import "byway/api"

// Grammar is one of so many rules at least, whose trees have at most that
// height; each name is the head of a rule, the first one of the first rule.
func (n *Noise) Grammar(rules, height int, names, labels []string) []api.Rule {
	var g []api.Rule
	for _, head := range names {
		g = append(g, api.Rule{Head: head, Body: n.Tree(height, names, labels)})
	}
	for len(g) < rules {
		g = append(g, api.Rule{Head: names[n.Below(len(names))], Body: n.Tree(height, names, labels)})
	}
	return g
}
