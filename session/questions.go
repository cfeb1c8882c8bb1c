package session

import (
	"cmp"
	"slices"
	"strconv"
	"strings"

	"byway/api"
	"byway/bnf"
	"byway/edges"
	"byway/paths"
	"byway/witness"
)

// nonterminal is the number of a name that is asked for.
func (s *Session) nonterminal(name string) int {
	if s.m == nil {
		refuse(0, api.ErrEmpty)
	}
	nt := slices.Index(s.m.Names(), name)
	if nt < 0 {
		refuse(0, api.ErrNt)
	}
	return nt
}

// fact is what three names ask for: a nonterminal, a node, a node.
func (s *Session) fact(names []string) api.Fact {
	nt := s.nonterminal(names[0])
	from, e := s.g.Node(names[1])
	if e != api.OK {
		refuse(0, api.ErrFrom)
	}
	to, e := s.g.Node(names[2])
	if e != api.OK {
		refuse(0, api.ErrTo)
	}
	return api.Fact{Nt: nt, From: from, To: to}
}

// pair is two nodes, by names.
type pair struct {
	from, to string
}

func (s *Session) doQuery(c api.Command) []string {
	nt := s.nonterminal(c.Names[0])
	cells, e := s.evaluator(c.How).Pairs(nt)
	refuse(0, e)
	nodes := s.g.Nodes()
	var pairs []pair
	for _, x := range cells {
		pairs = append(pairs, pair{nodes[x.Row], nodes[x.Col]})
	}
	slices.SortFunc(pairs, func(a, b pair) int {
		return cmp.Or(cmp.Compare(a.from, b.from), cmp.Compare(a.to, b.to))
	})
	lines := []string{"pairs " + strconv.Itoa(len(pairs))}
	for _, p := range pairs {
		lines = append(lines, p.from+" "+p.to)
	}
	return lines
}

func edgeText(x api.Edge) string { return x.From + " " + x.Label + " " + x.To }

func (s *Session) doPath(c api.Command) []string {
	f := s.fact(c.Names)
	// The first one by names, so that it hangs on no number of a node.
	way, e := witness.First(s.weak, s.m.Labels(), s.g, f)
	if e == api.ErrApart {
		return []string{"none"}
	}
	refuse(0, e)
	lines := []string{"path " + strconv.Itoa(len(way))}
	for _, x := range way {
		lines = append(lines, edgeText(x))
	}
	return lines
}

func (s *Session) doPaths(c api.Command) []string {
	f := s.fact(c.Names)
	ways, more, e := paths.All(s.weak, s.m.Labels(), s.g, f, c.Numbers[0], c.Numbers[1])
	refuse(0, e)
	word := "ways "
	if more {
		word = "more "
	}
	lines := []string{word + strconv.Itoa(len(ways))}
	for _, way := range ways {
		lines = append(lines, wayText(way))
	}
	return lines
}

// wayText is the line of a way among many.
func wayText(way []api.Edge) string {
	if len(way) == 0 {
		return "."
	}
	var l []string
	for _, x := range way {
		l = append(l, edgeText(x))
	}
	return strings.Join(l, ", ")
}

func (s *Session) doRules(api.Command) []string {
	if s.m == nil {
		refuse(0, api.ErrEmpty)
	}
	text, e := bnf.Print(s.rules)
	refuse(0, e)
	return linesOf(text)
}

func (s *Session) doEdges(api.Command) []string {
	text, e := edges.Print(s.g.Data())
	refuse(0, e)
	return linesOf(text)
}

// linesOf are a text's lines, each of which ends in a new line.
func linesOf(text string) []string {
	var lines []string
	for line := range strings.Lines(text) {
		lines = append(lines, strings.TrimSuffix(line, "\n"))
	}
	return lines
}

func (s *Session) doSize(api.Command) []string {
	nodes, count := s.g.Len()
	return []string{strconv.Itoa(nodes) + " " + strconv.Itoa(count) + " " + strconv.Itoa(s.Side())}
}
