package session_test

import (
	"math"
	"slices"
	"strconv"
	"strings"
	"testing"

	"byway/api"
	"byway/bnf"
	"byway/check"
	"byway/command"
	"byway/edges"
	"byway/sample"
	"byway/session"
)

// answer is what a line is answered: its lines, or the error's number and place.
func answer(t *testing.T, s *session.Session, line string) []string {
	t.Helper()
	c, e := command.Parse(line)
	if e != api.OK {
		t.Fatal(line, e)
	}
	lines, at, e := s.Do(c)
	if e != api.OK {
		if lines != nil || e != api.ErrSyntax && at != 0 {
			t.Fatal(line, lines, at, e)
		}
		return []string{"error " + strconv.Itoa(int(e)) + " " + strconv.Itoa(at)}
	}
	if at != 0 {
		t.Fatal(line, at)
	}
	return lines
}

// talk holds the answers to lines against what is wanted; new lines are /.
func talk(t *testing.T, s *session.Session, script ...string) {
	t.Helper()
	for i := 0; i < len(script); i += 2 {
		if got := strings.Join(answer(t, s, script[i]), "/"); got != script[i+1] {
			t.Errorf("%q: %q, not %q", script[i], got, script[i+1])
		}
	}
}

func TestExamples(t *testing.T) {
	s := session.New()
	talk(t, s, "grammar S = a S b | a b ;", "ok", "graph n0 a n1 ; n1 b n0 ;", "ok", "query gll S", "pairs 1/n0 n0",
		"path S n0 n0", "path 2/n0 a n1/n1 b n0", "path S n0 n1", "none", "paths S n0 n0 2 9", "ways 1/n0 a n1, n1 b n0", "path S x n0", "error 412 0", "size", "2 2 12",
		"edge n0 a n0", "new", "query matrix S", "pairs 1/n0 n0", "edge n0 a n0", "old")
	talk(t, session.New(), "query gll S", "error 410 0", "rules", "error 410 0", "edges", "", "size", "0 0 0", "graph n0 a", "error 172 4")
}

// The examples of the whole.
func TestWholeExamples(t *testing.T) {
	s := session.New()
	pairs := "pairs 2/x x/y z"
	talk(t, s, "grammar S = a S b | a b ;", "ok", "graph x a y ; y a x ; x b z ; z b x ;", "ok", "query matrix S", pairs, "query tensor S", pairs, "query gll S", pairs,
		"path S x x", "path 4/x a y/y a x/x b z/z b x", "path S y z", "path 2/y a x/x b z", "path S z x", "none",
		"paths S x x 8 9", "ways 2/x a y, y a x, x b z, z b x/x a y, y a x, x a y, y a x, x b z, z b x, x b z, z b x", "paths S y z 8 1", "more 1/y a x, x b z", "paths S x x 9 1", "error 380 0", "size", "3 4 18",
		"edge x a x", "new", "query gll S", "pairs 4/x x/x z/y x/y z", "edge x a x", "old")
	s = session.New()
	talk(t, s, "grammar S = S S | a | % ;", "ok", "graph n0 a n1;n1 a n0;lone;", "ok", "query tensor S", "pairs 5/lone lone/n0 n0/n0 n1/n1 n0/n1 n1", "path S lone lone", "path 0",
		"paths S n0 n0 4 9", "ways 3/./n0 a n1, n1 a n0/n0 a n1, n1 a n0, n0 a n1, n1 a n0", "rules", "S = S S | a | % ;", "edges", "lone ;/n0 a n1 ;/n1 a n0 ;")
	talk(t, session.New(), "query gll S", "error 410 0", "grammar S = T ;", "error 184 0", "grammar S = a", "error 172 5", "graph a b", "error 172 3", "node a-b", "error 173 0")
	talk(t, session.New(), "grammar S = (a | b)+ ;", "ok", "graph 1 a 2 ; 2 b 3 ;", "ok", "query gll S", "pairs 3/1 2/1 3/2 3", "path T 1 2", "error 411 0", "path S 1 4", "error 413 0")
	talk(t, session.New(), "grammar S = a S b | % ;", "ok", "query matrix S", "pairs 0", "node x", "new", "query matrix S", "pairs 1/x x",
		"edge x b y", "new", "edge y a x", "new", "query tensor S", "pairs 2/x x/y y", "paths S y y 2 9", "ways 2/./y a x, x b y", "path S y y", "path 0")
}

// P31.1: errors, in their order.
func TestErrors(t *testing.T) {
	s := session.New()
	talk(t, s, "path S x y", "error 410 0", "paths S x y 9 99", "error 410 0", "query tensor S", "error 410 0", "grammar ", "error 172 0", "grammar s = a;", "error 172 0", "grammar S = a; $", "error 172 7", "graph $", "error 172 0", "node -", "error 173 0", "edge a A b", "error 173 0",
		"grammar S = a | c*; T = S;", "ok", "path U q q", "error 411 0", "path s q q", "error 411 0", "path S q q", "error 412 0", "node x", "new", "path S q x", "error 412 0", "path S x q", "error 413 0", "paths S q q 9 99", "error 412 0", "paths S x q 9 99", "error 413 0",
		"paths S x x 9 0", "error 380 0", "paths S x x 0 65", "error 380 0", "paths S x x 999999999 1", "error 380 0", "paths S x x 8 64", "ways 1/.", "paths S x x 0 0", "more 0", "node x", "old", "path T x x", "path 0", "query gll U", "error 411 0",
		"graph "+strings.Repeat(" ", 2048), "ok", "size", "0 0 0", "rules", "S = a | c* ;/T = S ;")
	for i, c := range []api.Command{{}, {Verb: 11}, {Verb: api.VerbNode}, {Verb: api.VerbQuery, Names: []string{"S"}}, {Verb: api.VerbPaths, Names: []string{"S", "x", "x"}, Numbers: []int{-1, 1}}, {Verb: api.VerbGraph, Text: strings.Repeat("x", 3000)}, {Verb: math.MinInt}, {Verb: math.MaxInt}} {
		if lines, at, e := s.Do(c); lines != nil || at != 0 || e != command.Check(c) || e == api.OK {
			t.Error(i, lines, at, e)
		}
	}
	for _, none := range []*session.Session{nil, new(session.Session)} {
		if lines, at, e := none.Do(api.Command{}); lines != nil || at != 0 || e != api.ErrNil {
			t.Error(lines, at, e)
		}
		if none.Rules() != nil || len(none.Edges().Nodes) != 0 || none.Side() != 0 || none.Copy() != nil || len(slices.Collect(none.Save())) != 0 {
			t.Error("a nil session is something")
		}
	}
}

func names(prefix string, count int) []string {
	var l []string
	for i := range count {
		l = append(l, prefix+strconv.Itoa(i))
	}
	return l
}

func TestSide(t *testing.T) {
	row := func(occ int) string { return "grammar S = %" + strings.Repeat(" a", occ) + ";" }
	nodes := func(count int) string { return "graph " + strings.Join(names("n", count), ";") + ";" }
	s := session.New()
	talk(t, s, nodes(32), "ok", row(32), "error 5 0", "size", "32 0 0", row(31), "ok", "size", "32 0 1024", "node more", "error 260 0", "node n3", "old", nodes(31), "ok", row(32), "ok", "size", "31 0 1023",
		"node more", "error 5 0", "node n3", "old", "edge n0 a more", "error 5 0", "edge n0 a n1", "new", "edge n0 a n1", "old", "edge n0 - more", "error 173 0", nodes(32), "error 5 0", "size", "31 1 1023",
		"edge n0 aaaaaaaaaaaaaaaaa more", "error 173 0", "graph n0 a", "error 172 4", row(64), "error 5 0", "rules", "S = %"+strings.Repeat(" a", 32)+" ;", "query tensor S", "pairs 0", "query matrix S", "pairs 0", "query gll S", "pairs 0")
	if s.Side() != 1023 {
		t.Error(s.Side())
	}
}

func TestFar(t *testing.T) {
	s := session.New()
	talk(t, s, "grammar S = A A; A = B B; B = C C; C = D D; D = E E; E = F F; F = a;", "ok", "edge x a x", "new", "query gll S", "pairs 1/x x")
	if l := answer(t, s, "path S x x"); len(l) != 65 || l[0] != "path 64" || l[64] != "x a x" {
		t.Error(l)
	}
	talk(t, s, "grammar R = S a; S = A A; A = B B; B = C C; C = D D; D = E E; E = F F; F = a;", "ok", "query gll R", "pairs 1/x x", "path R x x", "error 351 0", "paths R x x 8 9", "ways 0", "paths S x x 8 9", "ways 0", "paths C x x 8 9", "ways 1/"+strings.Repeat("x a x, ", 7)+"x a x")
}

// model is what a session has, as the tests see it.
type model struct {
	rules []api.Rule
	nodes []string // rising
	edges []api.Edge
}

// random is a line of some kind; many of them are refused.
func random(n *sample.Noise, m model) string {
	node := func() string { return names("n", 6)[n.Below(6)] }
	nt := []string{"S", "T", "U"}[n.Below(3)]
	switch n.Below(14) {
	case 0:
		text, _ := bnf.Print(n.Grammar(1+n.Below(3), 3, []string{"S", "T"}[:1+n.Below(2)], []string{"a", "b"}))
		return "grammar " + text
	case 1:
		g, _ := edges.Of(names("n", n.Below(3)), n.Edges(n.Below(6), names("n", 6), []string{"a", "b", "c"}))
		text, _ := edges.Print(g)
		return "graph " + text
	case 2:
		return "node " + node()
	case 3, 4, 5, 6:
		return "edge " + node() + " " + []string{"a", "b", "c", "A"}[n.Below(4)] + " " + node()
	case 7, 8:
		return "query " + []string{"matrix", "tensor", "gll"}[n.Below(3)] + " " + nt
	case 9:
		return "path " + nt + " " + node() + " " + node()
	case 10:
		return "paths " + nt + " " + node() + " " + node() + " " + strconv.Itoa(n.Below(5)) + " " + strconv.Itoa(n.Below(7))
	case 11:
		return []string{"rules", "edges", "size"}[n.Below(3)]
	case 12:
		return "grammar S = a " + strings.Repeat("|", n.Below(2)) + " b"
	}
	return "graph n0 a n1 ; n2 " + strings.Repeat("b ", n.Below(3)) + ";"
}

// P31.1, P31.4, P31.5: random scripts, against a plain model.
func TestScripts(t *testing.T) {
	n := sample.Noise(1)
	for range 40 {
		s := session.New()
		var m model
		for range 60 {
			line := random(&n, m)
			got := answer(t, s, line)
			want, known := m.do(t, line)
			if known && strings.Join(got, "/") != strings.Join(want, "/") {
				t.Fatalf("%q: %v, not %v (%v)", line, got, want, m)
			}
			if !known {
				m.holdWay(t, line, got)
			}
			if !bnf.Same(s.Rules(), m.rules) || !edges.Same(s.Edges(), m.value(t)) {
				t.Fatal(line, s.Rules(), s.Edges())
			}
		}
		saved(t, &n, s, m)
	}
}

func (m *model) value(t *testing.T) api.Edges {
	t.Helper()
	g, e := edges.Of(m.nodes, m.edges)
	if e != api.OK {
		t.Fatal(e)
	}
	return g
}

// do is a line's answer; false, if there may be several.
func (m *model) do(t *testing.T, line string) ([]string, bool) {
	t.Helper()
	word, rest, _ := strings.Cut(line, " ")
	switch l := strings.Fields(rest); word {
	case "grammar":
		g, at, e := bnf.Parse(rest)
		if e != api.OK {
			return []string{"error " + strconv.Itoa(int(e)) + " " + strconv.Itoa(at)}, true
		}
		m.rules = g
		return []string{"ok"}, true
	case "graph":
		g, at, e := edges.Parse(rest)
		if e != api.OK {
			return []string{"error " + strconv.Itoa(int(e)) + " " + strconv.Itoa(at)}, true
		}
		m.nodes, m.edges = g.Nodes, g.Edges
		return []string{"ok"}, true
	case "node", "edge":
		return []string{m.come(l)}, true
	case "query":
		return m.query(l[1]), true
	case "path", "paths":
		return m.way(l)
	case "rules":
		if m.rules == nil {
			return []string{"error 410 0"}, true
		}
		text, _ := bnf.Print(m.rules)
		return strings.Split(strings.TrimSuffix(text, "\n"), "\n"), true
	case "edges":
		text, _ := edges.Print(m.value(t))
		if text == "" {
			return nil, true
		}
		return strings.Split(strings.TrimSuffix(text, "\n"), "\n"), true
	}
	side := 0
	if m.rules != nil {
		side = (len(bnf.Heads(m.rules)) + bnf.Occ(m.rules)) * len(m.nodes)
	}
	return []string{strconv.Itoa(len(m.nodes)) + " " + strconv.Itoa(len(m.edges)) + " " + strconv.Itoa(side)}, true
}

func (m *model) come(l []string) string {
	fresh := false
	if len(l) == 3 {
		x := api.Edge{From: l[0], Label: l[1], To: l[2]}
		if x.Label == "A" {
			return "error 173 0"
		}
		if fresh = !slices.Contains(m.edges, x); fresh {
			m.edges = append(slices.Clone(m.edges), x)
		}
		l = []string{l[0], l[2]}
	} else {
		fresh = !slices.Contains(m.nodes, l[0])
	}
	g, _ := edges.Of(slices.Concat(m.nodes, l), m.edges)
	m.nodes, m.edges = g.Nodes, g.Edges
	if fresh {
		return "new"
	}
	return "old"
}

func (m *model) query(nt string) []string {
	if m.rules == nil {
		return []string{"error 410 0"}
	}
	if !slices.Contains(bnf.Heads(m.rules), nt) {
		return []string{"error 411 0"}
	}
	pairs := sample.Solved(m.rules, m.nodes, m.edges)[nt].Pairs()
	lines := []string{"pairs " + strconv.Itoa(len(pairs))}
	for _, p := range pairs {
		lines = append(lines, m.nodes[p.Row]+" "+m.nodes[p.Col])
	}
	return lines
}

// way is the answer to a question for ways, as far as it is sure.
func (m *model) way(l []string) ([]string, bool) {
	if m.rules == nil {
		return []string{"error 410 0"}, true
	}
	if !slices.Contains(bnf.Heads(m.rules), l[0]) {
		return []string{"error 411 0"}, true
	}
	u, v := slices.Index(m.nodes, l[1]), slices.Index(m.nodes, l[2])
	if u < 0 {
		return []string{"error 412 0"}, true
	}
	if v < 0 {
		return []string{"error 413 0"}, true
	}
	if len(l) == 5 {
		return m.ways(l), true
	}
	if !sample.Solved(m.rules, m.nodes, m.edges)[l[0]][u][v] {
		return []string{"none"}, true
	}
	return nil, false
}

// all are the ways with at most so many edges, in order.
func (m *model) all(nt, from, to string, most int) [][]api.Edge {
	var found [][]api.Edge
	last := [][]api.Edge{nil}
	for range most + 1 {
		var next [][]api.Edge
		for _, w := range last {
			at := from
			if len(w) > 0 {
				at = w[len(w)-1].To
			}
			if is, _ := check.Word(m.rules, nt, check.Spell(w)); is && at == to {
				found = append(found, w)
			}
			for _, x := range m.edges {
				if x.From == at {
					next = append(next, slices.Concat(w, []api.Edge{x}))
				}
			}
		}
		last = next
	}
	return found
}

func lineOf(way []api.Edge) string {
	if len(way) == 0 {
		return "."
	}
	var l []string
	for _, x := range way {
		l = append(l, x.From+" "+x.Label+" "+x.To)
	}
	return strings.Join(l, ", ")
}

func (m *model) ways(l []string) []string {
	length, _ := strconv.Atoi(l[3])
	most, _ := strconv.Atoi(l[4])
	all := m.all(l[0], l[1], l[2], length)
	word := "ways "
	if len(all) > most {
		word = "more "
		all = all[:most]
	}
	lines := []string{word + strconv.Itoa(len(all))}
	for _, w := range all {
		lines = append(lines, lineOf(w))
	}
	return lines
}

// holdWay holds an answer to path against the model: a way, none shorter.
func (m *model) holdWay(t *testing.T, line string, got []string) {
	t.Helper()
	l := strings.Fields(line)
	if got[0] == "error 351 0" {
		return
	}
	var way []api.Edge
	for _, text := range got[1:] {
		x := strings.Fields(text)
		way = append(way, api.Edge{From: x[0], Label: x[1], To: x[2]})
	}
	if is, e := check.Right(m.rules, m.value(t), l[1], l[2], l[3], way); !is || e != api.OK || got[0] != "path "+strconv.Itoa(len(way)) {
		t.Fatal(line, got, e)
	}
	if all := m.all(l[1], l[2], l[3], min(4, len(way))); len(all) > 0 && len(all[0]) < len(way) {
		t.Fatal(line, got, all[0])
	}
}

// saved holds a session against one that its saved commands, in other order of
// nodes and edges, made.
func saved(t *testing.T, n *sample.Noise, s *session.Session, m model) {
	t.Helper()
	made, other := session.New(), session.New()
	for c := range s.Save() {
		if lines, _, e := made.Do(c); e != api.OK || !slices.Equal(lines, []string{"ok"}) {
			t.Fatal(c, lines, e)
		}
	}
	if m.rules != nil {
		text, _ := bnf.Print(m.rules)
		answer(t, other, "grammar "+text)
	}
	for _, x := range slices.Backward(m.edges) {
		answer(t, other, "edge "+x.From+" "+x.Label+" "+x.To)
		answer(t, other, "query gll S")
	}
	for _, name := range slices.Backward(m.nodes) {
		answer(t, other, "node "+name)
	}
	for range 40 {
		line := random(n, m)
		if strings.HasPrefix(line, "gra") || strings.HasPrefix(line, "node") || strings.HasPrefix(line, "edge ") {
			continue
		}
		a, b, c := answer(t, s, line), answer(t, made, line), answer(t, other, line)
		if strings.HasPrefix(line, "path ") {
			// Which shortest way is told may be another one.
			a, b, c = a[:1], b[:1], c[:1]
		}
		if !slices.Equal(a, b) || !slices.Equal(a, c) {
			t.Fatal(line, a, b, c)
		}
	}
	if k, l := slices.Collect(s.Save()), slices.Collect(made.Save()); !slices.EqualFunc(k, l, command.Same) {
		t.Fatal(k, l)
	}
}

// P31.2, P31.3
func TestApart(t *testing.T) {
	s := session.New()
	talk(t, s, "grammar S = a b | %;", "ok", "edge x a y", "new", "query matrix S", "pairs 2/x x/y y", "query tensor S", "pairs 2/x x/y y")
	seq := s.Save()
	o := s.Copy()
	talk(t, o, "edge y b z", "new", "query matrix S", "pairs 4/x x/x z/y y/z z", "query tensor S", "pairs 4/x x/x z/y y/z z")
	talk(t, s, "query matrix S", "pairs 2/x x/y y", "query tensor S", "pairs 2/x x/y y", "edges", "x a y ;", "edge y b x", "new", "query matrix S", "pairs 2/x x/y y", "query gll S", "pairs 2/x x/y y", "path S x x", "path 0")
	talk(t, o, "grammar T = b;", "ok", "query tensor T", "pairs 1/y z", "size", "3 2 6")
	talk(t, s, "rules", "S = a b | % ;", "size", "2 2 6")
	s.Rules()[0].Body[0].Kind = 99
	s.Rules()[0].Head = "X"
	s.Edges().Nodes[0] = "q"
	s.Edges().Edges[0].To = "q"
	talk(t, s, "rules", "S = a b | % ;", "edges", "x a y ;/y b x ;")
	if r := s.Rules(); len(r) != 1 || r[0].Head != "S" || r[0].Body[0].Kind != api.KindAlt || s.Side() != 6 {
		t.Error(r, s.Side())
	}
	for range 2 {
		l := slices.Collect(seq)
		if len(l) != 2 || l[0].Verb != api.VerbGrammar || l[0].Text != "S = a b | % ;\n" || l[1].Verb != api.VerbGraph || l[1].Text != "x a y ;\n" {
			t.Error(l)
		}
		for range seq {
			break
		}
	}
	if l := slices.Collect(session.New().Save()); len(l) != 1 || l[0].Verb != api.VerbGraph || l[0].Text != "" {
		t.Error(l)
	}
}

// P31.5
func TestKeptUp(t *testing.T) {
	n := sample.Noise(3)
	for range 12 {
		s := session.New()
		text, _ := bnf.Print(n.Grammar(3, 4, []string{"S", "T"}, []string{"a", "b"}))
		answer(t, s, "grammar "+text)
		before := map[string][]string{}
		for range 25 {
			line := random(&n, model{})
			if !strings.HasPrefix(line, "edge ") && !strings.HasPrefix(line, "node ") {
				continue
			}
			isNode := strings.HasPrefix(line, "node ") && answer(t, s, line)[0] == "new"
			if strings.HasPrefix(line, "edge ") {
				answer(t, s, line)
			}
			for _, nt := range []string{"S", "T"} {
				l := answer(t, s, "query matrix "+nt)
				for _, how := range []string{"tensor ", "gll "} {
					if k := answer(t, s, "query "+how+nt); !slices.Equal(k, l) {
						t.Fatal(k, l)
					}
				}
				grown(t, line, before[nt], l[1:], isNode)
				before[nt] = l[1:]
			}
		}
	}
}

// grown: no pair is lost, and a node alone brings itself at most.
func grown(t *testing.T, line string, before, after []string, isNode bool) {
	t.Helper()
	for _, p := range before {
		if !slices.Contains(after, p) {
			t.Fatal(line, "a pair is lost", p)
		}
	}
	for _, p := range after {
		name := strings.TrimPrefix(line, "node ")
		if isNode && !slices.Contains(before, p) && p != name+" "+name {
			t.Fatal(line, "a pair comes with a node", p)
		}
	}
}
