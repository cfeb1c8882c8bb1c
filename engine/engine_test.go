package engine_test

import (
	"math"
	"slices"
	"strings"
	"testing"

	"byway/api"
	"byway/bnf"
	"byway/edges"
	"byway/engine"
	"byway/sample"
)

// script holds the answers to lines against what is wanted; new lines are /.
func script(t *testing.T, l ...string) {
	t.Helper()
	var lines, want []string
	for i := 0; i < len(l); i += 2 {
		lines, want = append(lines, l[i]), append(want, strings.ReplaceAll(l[i+1], "/", "\n"))
	}
	got := engine.Run(lines...)
	for i := range lines {
		if i >= len(got) || got[i] != want[i] {
			t.Errorf("%q: %q, not %q", lines[i], got[i], want[i])
		}
	}
	if len(got) != len(want) {
		t.Error(len(got))
	}
}

// P32.3: the chapter's examples
func TestExamples(t *testing.T) {
	script(t, "size", "0 0 0/", "Size", "error 400/", "size 1", "error 401/")
	script(t, "grammar S = a ;", "ok/", "graph a", "error 172 1/", "query gll S", "pairs 0/", "rules", "S = a ;/", "edges", "")
	script(t, "grammar S = a ; T", "error 172 9/", "rules", "error 410/")
	script(t, "node x", "new/", "node x", "old/", "query gll S", "error 410/", "path S x x", "error 410/")
}

// The ten examples of the whole.
func TestWholeExamples(t *testing.T) {
	pairs := "pairs 2/x x/y z/"
	script(t, "grammar S = a S b | a b ;", "ok/", "graph x a y ; y a x ; x b z ; z b x ;", "ok/", "query matrix S", pairs, "query tensor S", pairs, "query gll S", pairs,
		"path S x x", "path 4/x a y/y a x/x b z/z b x/", "path S y z", "path 2/y a x/x b z/", "path S z x", "none/",
		"paths S x x 8 9", "ways 2/x a y, y a x, x b z, z b x/x a y, y a x, x a y, y a x, x b z, z b x, x b z, z b x/", "paths S y z 8 1", "more 1/y a x, x b z/", "paths S x x 9 1", "error 380/", "size", "3 4 18/",
		"edge x a x", "new/", "query gll S", "pairs 4/x x/x z/y x/y z/", "edge x a x", "old/")
	script(t, "grammar S = S S | a | % ;", "ok/", "graph n0 a n1;n1 a n0;lone;", "ok/", "query tensor S", "pairs 5/lone lone/n0 n0/n0 n1/n1 n0/n1 n1/", "path S lone lone", "path 0/",
		"paths S n0 n0 4 9", "ways 3/./n0 a n1, n1 a n0/n0 a n1, n1 a n0, n0 a n1, n1 a n0/", "rules", "S = S S | a | % ;/", "edges", "lone ;/n0 a n1 ;/n1 a n0 ;/")
	script(t, "query gll S", "error 410/", "grammar S = T ;", "error 184/", "grammar S = a", "error 172 5/", "graph a b", "error 172 3/", "node a-b", "error 173/", "fly", "error 400/")
	script(t, "grammar S = (a | b)+ ;", "ok/", "graph 1 a 2 ; 2 b 3 ;", "ok/", "query gll S", "pairs 3/1 2/1 3/2 3/", "path T 1 2", "error 411/", "path S 1 4", "error 413/")
	script(t, "grammar S = a S b | % ;", "ok/", "query matrix S", "pairs 0/", "node x", "new/", "query matrix S", "pairs 1/x x/",
		"edge x b y", "new/", "edge y a x", "new/", "query tensor S", "pairs 2/x x/y y/", "paths S y y 2 9", "ways 2/./y a x, x b y/", "path S y y", "path 0/")
}

func TestOddLines(t *testing.T) {
	script(t, "", "error 400/", " size", "error 400/", "size\n", "error 400/", "\x00\xff", "error 400/", strings.Repeat("x", 2065), "error 3/", strings.Repeat("x", 2064), "error 400/", "grammar "+strings.Repeat(" ", 2056), "error 3/", "grammar", "error 401/", "grammar ", "error 172 0/",
		"graph ", "ok/", "size", "0 0 0/", "paths S a b 1 01", "error 401/", "path  a b", "error 401/", "node 9", "new/", "node _", "new/", "edge 9 x _", "new/", "edges", "9 x _ ;/", "node "+strings.Repeat("a", 17), "error 173/")
	if l := engine.Run(); len(l) != 0 {
		t.Error(l)
	}
}

// P32.1
func TestText(t *testing.T) {
	for _, x := range []struct {
		lines []string
		at    int
		no    api.Errno
		want  string
	}{
		{nil, 0, api.OK, ""}, {nil, 7, api.OK, ""}, {[]string{"a", "", "b c"}, 9, api.OK, "a\n\nb c\n"}, {[]string{""}, 0, api.OK, "\n"}, {[]string{"a"}, 5, api.ErrSyntax, "error 172 5\n"}, {nil, 0, api.ErrSyntax, "error 172 0\n"}, {nil, -3, api.ErrSyntax, "error 172 -3\n"},
		{[]string{"a"}, 5, api.ErrSide, "error 5\n"}, {nil, 1, -4, "error -4\n"}, {nil, math.MinInt, api.ErrSyntax, "error 172 -9223372036854775808\n"}, {nil, 0, math.MaxInt, "error 9223372036854775807\n"},
	} {
		if got := engine.Text(x.lines, x.at, x.no); got != x.want {
			t.Errorf("%v: %q", x, got)
		}
	}
}

func TestNil(t *testing.T) {
	for _, e := range []*engine.Engine{nil, new(engine.Engine)} {
		if e.Line("size") != "error 1\n" || e.Line("") != "error 1\n" || e.Copy() != nil || len(e.Save()) != 0 {
			t.Error("a nil engine is something")
		}
		for range e.Each("size") {
			t.Error("an answer of no engine")
		}
	}
}

// P32.2, P32.3
func TestCopyEach(t *testing.T) {
	e := engine.New()
	e.Line("grammar S = a;")
	e.Line("node x")
	o := e.Copy()
	o.Line("edge x a y")
	e.Line("edge x a x")
	if got := e.Line("query gll S") + o.Line("query gll S"); got != "pairs 1\nx x\npairs 1\nx y\n" {
		t.Error(got)
	}
	lines := []string{"node z", "size", "node z"}
	seq := e.Each(lines...)
	lines[0] = "fly"
	collect := func(most int) string {
		text := ""
		k := 0
		for i, answer := range seq {
			if i != k {
				t.Error(i, k)
			}
			text += answer
			if k++; k == most {
				break
			}
		}
		return text
	}
	for range 2 {
		if got := collect(9); got != "new\n2 1 4\nold\n" {
			t.Error(got)
		}
		if got := collect(1); got != "new\n" {
			t.Error(got)
		}
	}
	// The engine as it is when going over begins.
	e.Line("node q")
	if got := collect(9); got != "new\n3 1 6\nold\n" {
		t.Error(got)
	}
	for i := range seq {
		if i == 0 {
			e.Line("node later")
		}
	}
	if got := e.Line("size"); got != "3 1 6\n" {
		t.Error(got)
	}
}

// lines are some of all kinds, many of them refused.
func lines(n *sample.Noise, count int) []string {
	pool := []string{"grammar S = a S b | % ;", "grammar S = a", "grammar S = S S | T ; T = a+ ;", "grammar T = ;", "graph x a y ; y b x ;", "graph x", "graph ", "graph lone ; x a x ;", "node x", "node -", "edge x a y", "edge y b z", "edge z a x", "edge x A y", "edge x  y",
		"query matrix S", "query tensor S", "query gll S", "query gll T", "query S", "path S x y", "path S x x", "path T x z", "paths S x x 4 5", "paths T x y 3 2", "paths S x y 9 9", "rules", "edges", "size", "", "fly", "rules ", "\xff"}
	var l []string
	for range count {
		l = append(l, pool[n.Below(len(pool))])
	}
	return l
}

// P32.4
func TestScripts(t *testing.T) {
	n := sample.Noise(1)
	for range 150 {
		l := lines(&n, 1+n.Below(40))
		all := engine.Run(l...)
		k := n.Below(len(l) + 1)
		if got := engine.Run(l[:k]...); !slices.Equal(got, all[:k]) {
			t.Fatal(l[:k], got, all[:k])
		}
		e, kept := engine.New(), engine.New()
		for i, line := range l {
			if got := e.Line(line); got != all[i] {
				t.Fatal(line, got, all[i])
			}
			// What is refused, and what is a question, might as well not have been there.
			if !strings.HasPrefix(all[i], "error") && !strings.HasPrefix(line, "query") && !strings.HasPrefix(line, "path") {
				if got := kept.Line(line); got != all[i] {
					t.Fatal(line, got, all[i])
				}
			}
		}
		same(t, e, kept)
		restored(t, e)
	}
}

func same(t *testing.T, a, b *engine.Engine) {
	t.Helper()
	if !slices.Equal(a.Save(), b.Save()) {
		t.Fatal(a.Save(), b.Save())
	}
	for _, line := range []string{"rules", "edges", "size", "query matrix S", "query tensor S", "query gll S", "query gll T", "path S x x", "path S x y", "paths S x x 4 64", "paths S y x 5 3", "node x", "edge x a y", "query gll S", "query matrix S", "query tensor S"} {
		x, y := a.Line(line), b.Line(line)
		if strings.HasPrefix(line, "path ") {
			// Which shortest way is told may be another one.
			x, _, _ = strings.Cut(x, "\n")
			y, _, _ = strings.Cut(y, "\n")
		}
		if x != y {
			t.Fatal(line, x, y)
		}
	}
}

func restored(t *testing.T, e *engine.Engine) {
	t.Helper()
	o := engine.New()
	for _, line := range e.Save() {
		if got := o.Line(line); got != "ok\n" {
			t.Fatal(line, got)
		}
	}
	text, back := e.Line("rules"), o.Line("rules")
	if !strings.HasPrefix(text, "error") {
		if _, _, no := bnf.Parse(text); no != api.OK || text != back {
			t.Fatal(text, back)
		}
	}
	text = e.Line("edges")
	g, _, no := edges.Parse(text)
	if again, _ := edges.Print(g); no != api.OK || again != text || o.Line("edges") != text {
		t.Fatal(text)
	}
	if !slices.Equal(o.Save(), e.Save()) {
		t.Fatal(o.Save(), e.Save())
	}
	same(t, e, o)
}

// P1: every line is answered by one text.
func TestNoise(t *testing.T) {
	n := sample.Noise(2)
	words := strings.Fields("grammar graph node edge query path paths rules edges size matrix tensor gll S T a b x y z = ; | * + ? ( ) % 0 1 8 9 64 65 03 -1 - $ \x00")
	for range 300 {
		var l []string
		for range 20 {
			line := words[n.Below(10)]
			for range n.Below(12) {
				line += " " + words[n.Below(len(words))]
			}
			l = append(l, line)
		}
		got := engine.Run(l...)
		if len(got) != len(l) {
			t.Fatal(len(got))
		}
		for i, text := range got {
			if text != "" && !strings.HasSuffix(text, "\n") || text == "" && l[i] != "edges" {
				t.Fatalf("%q: %q", l[i], text)
			}
		}
	}
}
