package command_test

import (
	"slices"
	"strconv"
	"strings"
	"testing"

	"byway/api"
	"byway/command"
	"byway/sample"
)

func names(l ...string) []string { return l }

// good are lines with their commands.
func good() map[string]api.Command {
	return map[string]api.Command{
		"grammar S = a ;":         {Verb: api.VerbGrammar, Text: "S = a ;"},
		"grammar ":                {Verb: api.VerbGrammar},
		"grammar  ":               {Verb: api.VerbGrammar, Text: " "},
		"grammar \n\x00\xff":      {Verb: api.VerbGrammar, Text: "\n\x00\xff"},
		"graph a x b ;":           {Verb: api.VerbGraph, Text: "a x b ;"},
		"graph ":                  {Verb: api.VerbGraph},
		"graph graph a":           {Verb: api.VerbGraph, Text: "graph a"},
		"node x":                  {Verb: api.VerbNode, Names: names("x")},
		"node -\n\x00":            {Verb: api.VerbNode, Names: names("-\n\x00")},
		"edge a x b":              {Verb: api.VerbEdge, Names: names("a", "x", "b")},
		"edge edge edge edge":     {Verb: api.VerbEdge, Names: names("edge", "edge", "edge")},
		"query matrix S":          {Verb: api.VerbQuery, How: api.HowMatrix, Names: names("S")},
		"query tensor gll":        {Verb: api.VerbQuery, How: api.HowTensor, Names: names("gll")},
		"query gll S":             {Verb: api.VerbQuery, How: api.HowGll, Names: names("S")},
		"path S a b":              {Verb: api.VerbPath, Names: names("S", "a", "b")},
		"paths S a b 3 10":        {Verb: api.VerbPaths, Names: names("S", "a", "b"), Numbers: []int{3, 10}},
		"paths 1 2 3 0 999999999": {Verb: api.VerbPaths, Names: names("1", "2", "3"), Numbers: []int{0, 999999999}},
		"rules":                   {Verb: api.VerbRules},
		"edges":                   {Verb: api.VerbEdges},
		"size":                    {Verb: api.VerbSize},
	}
}

// P30.1, P30.3
func TestGood(t *testing.T) {
	for line, want := range good() {
		c, e := command.Parse(line)
		if e != api.OK || !command.Same(c, want) {
			t.Errorf("%q: %v, %v", line, c, e)
		}
		if e := command.Check(want); e != api.OK {
			t.Errorf("%q: %v", line, e)
		}
		if got, e := command.Print(want); got != line || e != api.OK {
			t.Errorf("%q: %q, %v", line, got, e)
		}
	}
}

func TestWrongLines(t *testing.T) {
	for line, want := range map[string]api.Errno{
		"": api.ErrVerb, " ": api.ErrVerb, "Size": api.ErrVerb, " size": api.ErrVerb, "sizes": api.ErrVerb, "size\n": api.ErrVerb, "fly": api.ErrVerb, "node\tx": api.ErrVerb, "\x00": api.ErrVerb, "graphs a": api.ErrVerb, "pathss S a b 1 1": api.ErrVerb,
		"grammar": api.ErrWords, "graph": api.ErrWords, "node": api.ErrWords, "node ": api.ErrWords, "node  x": api.ErrWords, "node x ": api.ErrWords, "node x y": api.ErrWords,
		"edge a x": api.ErrWords, "edge a  x b": api.ErrWords, "edge a x b ": api.ErrWords, "edge  a x b": api.ErrWords, "edge a x b c": api.ErrWords, "edge a x ": api.ErrWords,
		"query": api.ErrWords, "query gll": api.ErrWords, "query gll ": api.ErrWords, "query GLL S": api.ErrWords, "query  S": api.ErrWords, "query S gll": api.ErrWords, "query gll S T": api.ErrWords, "query gll S ": api.ErrWords,
		"path S a": api.ErrWords, "path S a b c": api.ErrWords, "paths S a b 03 10": api.ErrWords, "paths S a b 3": api.ErrWords, "paths S a b 3 10 ": api.ErrWords, "paths S a b 3 10 4": api.ErrWords, "paths S a b -3 10": api.ErrWords, "paths S a b +3 10": api.ErrWords, "paths S a b 3 00": api.ErrWords,
		"paths S a b 3 1000000000": api.ErrWords, "paths S a b 99999999999999999999999 1": api.ErrWords, "paths S a b x 1": api.ErrWords, "paths S a b 1 ": api.ErrWords, "paths S a b  1": api.ErrWords, "paths S a b 3\n 1": api.ErrWords, "paths S a b 1.5 1": api.ErrWords, "paths S a b ٣ 1": api.ErrWords, "paths S a b 0x1 1": api.ErrWords, "paths S a b 1_0 1": api.ErrWords, "paths S a b -0 1": api.ErrWords,
		"rules ": api.ErrWords, "edges a": api.ErrWords, "size 1": api.ErrWords, "size ": api.ErrWords,
	} {
		if c, e := command.Parse(line); e != want || !command.Same(c, api.Command{}) {
			t.Errorf("%q: %v, %v", line, c, e)
		}
	}
}

func TestLong(t *testing.T) {
	for _, x := range []struct {
		line string
		e    api.Errno
	}{
		{"grammar " + strings.Repeat("x", 2056), api.OK}, {"grammar " + strings.Repeat("x", 2057), api.ErrLong}, {strings.Repeat("x", 2065), api.ErrLong}, {strings.Repeat("x", 2064), api.ErrVerb}, {"size" + strings.Repeat(" ", 2061), api.ErrLong},
		{"size" + strings.Repeat(" ", 2060), api.ErrWords}, {"node " + strings.Repeat("x", 2059), api.OK}, {"node " + strings.Repeat("x", 2060), api.ErrLong},
	} {
		if c, e := command.Parse(x.line); e != x.e || e != api.OK && !command.Same(c, api.Command{}) {
			t.Errorf("%.20q: %v", x.line, e)
		}
	}
	for count, want := range map[int]api.Errno{2058: api.OK, 2059: api.ErrLong, 1 << 20: api.ErrLong} {
		c := api.Command{Verb: api.VerbGraph, Text: strings.Repeat("x", count)}
		line, e := command.Print(c)
		if command.Check(c) != want || e != want || (line != "") != (e == api.OK) {
			t.Error(count, e)
		}
	}
}

// P30.1: Check asks for just what the table says.
func TestWrongCommands(t *testing.T) {
	long := strings.Repeat("x", 3000)
	for i, c := range []api.Command{
		{}, {Verb: -1}, {Verb: 11}, {Verb: 11, Names: names("x")}, {Verb: api.VerbGrammar, Names: names("x")}, {Verb: api.VerbGrammar, How: 1}, {Verb: api.VerbGraph, Numbers: []int{0}, Text: "a"}, {Verb: api.VerbGraph, Text: long, Names: names("x")},
		{Verb: api.VerbNode}, {Verb: api.VerbNode, Names: names("")}, {Verb: api.VerbNode, Names: names("a b")}, {Verb: api.VerbNode, Names: names(" a")}, {Verb: api.VerbNode, Names: names("a", "b")}, {Verb: api.VerbNode, Names: names("a"), Text: "a"}, {Verb: api.VerbNode, Names: names("a"), How: api.HowGll}, {Verb: api.VerbNode, Names: names("a"), Numbers: []int{1}}, {Verb: api.VerbNode, Names: names(long + " ")},
		{Verb: api.VerbEdge, Names: names("a", "b")}, {Verb: api.VerbEdge, Names: names("a", "b c")}, {Verb: api.VerbEdge, Names: names("a", "b", "c", "d")}, {Verb: api.VerbEdge, Names: names("a", "", "c")}, {Verb: api.VerbEdge, Names: names("a", "b", "c"), Numbers: []int{1}},
		{Verb: api.VerbQuery, Names: names("S")}, {Verb: api.VerbQuery, How: 4, Names: names("S")}, {Verb: api.VerbQuery, How: -1, Names: names("S")}, {Verb: api.VerbQuery, How: api.HowGll}, {Verb: api.VerbQuery, How: api.HowGll, Names: names("S", "T")}, {Verb: api.VerbQuery, Names: names("gll", "S")}, {Verb: api.VerbQuery, How: api.HowGll, Names: names("S"), Text: "x"},
		{Verb: api.VerbPath, Names: names("S", "a")}, {Verb: api.VerbPath, Names: names("S", "a", "b"), Numbers: []int{1, 2}}, {Verb: api.VerbPath, Names: names("S", "a", "b"), How: 1},
		{Verb: api.VerbPaths, Names: names("S", "a", "b")}, {Verb: api.VerbPaths, Names: names("S", "a", "b"), Numbers: []int{1}}, {Verb: api.VerbPaths, Names: names("S", "a", "b"), Numbers: []int{1, 2, 3}}, {Verb: api.VerbPaths, Names: names("S", "a", "b"), Numbers: []int{-1, 2}}, {Verb: api.VerbPaths, Names: names("S", "a", "b"), Numbers: []int{1, 1000000000}},
		{Verb: api.VerbPaths, Names: names("S", "a", "b", "1"), Numbers: []int{2}}, {Verb: api.VerbPaths, Names: names("S", "a", "b", "1", "2")}, {Verb: api.VerbPaths, Names: names("S", "a"), Numbers: []int{1, 2, 3}},
		{Verb: api.VerbRules, Names: names("")}, {Verb: api.VerbRules, Text: " "}, {Verb: api.VerbEdges, Names: names("a")}, {Verb: api.VerbSize, Numbers: []int{0}}, {Verb: api.VerbSize, How: 1},
	} {
		line, e := command.Print(c)
		if command.Check(c) != api.ErrArg || e != api.ErrArg || line != "" {
			t.Error(i, c, command.Check(c), e)
		}
	}
	for _, c := range []api.Command{{Verb: api.VerbSize, Names: []string{}, Numbers: []int{}}, {Verb: api.VerbGraph, Names: []string{}}} {
		if e := command.Check(c); e != api.OK {
			t.Error(c, e)
		}
	}
}

// P30.2
func TestVerbsSame(t *testing.T) {
	want := strings.Fields("grammar graph node edge query path paths rules edges size")
	k := 0
	for v, word := range command.Verbs() {
		if int(v) != k+1 || word != want[k] {
			t.Error(v, word)
		}
		k++
	}
	if k != len(want) {
		t.Error(k)
	}
	for range command.Verbs() {
		break
	}
	l := []api.Command{{}, {Verb: 1}, {How: 1}, {Names: names("")}, {Names: names("a")}, {Names: names("a", "")}, {Numbers: []int{0}}, {Numbers: []int{1}}, {Numbers: []int{0, 0}}, {Text: "a"}, {Verb: 99, How: -4, Names: names("-"), Numbers: []int{-1}, Text: "\x00"}}
	for i, a := range l {
		for k, b := range l {
			if command.Same(a, b) != (i == k) {
				t.Error(a, b)
			}
		}
	}
	if !command.Same(api.Command{Names: []string{}, Numbers: []int{}}, api.Command{}) {
		t.Error("an empty list is like none")
	}
}

// P30.3
func TestLines(t *testing.T) {
	n := sample.Noise(1)
	words := append(strings.Fields("grammar graph node edge query path paths rules edges size matrix tensor gll S a b 0 3 10 03 -1 - x"), "", "")
	lines := map[string]bool{}
	for range 20000 {
		var l []string
		for range 1 + n.Below(7) {
			l = append(l, words[n.Below(len(words))])
		}
		lines[strings.Join(l, " ")] = true
	}
	met := map[string]string{}
	for line := range lines {
		c, e := command.Parse(line)
		if e != api.OK {
			continue
		}
		if got, e := command.Print(c); got != line || e != api.OK {
			t.Fatalf("%q, %q", line, got)
		}
		key := strconv.Itoa(int(c.Verb)) + "/" + strconv.Itoa(int(c.How)) + "/" + strings.Join(c.Names, " ") + "/" + c.Text
		for _, k := range c.Numbers {
			key += "/" + strconv.Itoa(k)
		}
		if other, is := met[key]; is {
			t.Fatalf("%q and %q are one command", line, other)
		}
		met[key] = line
	}
	c := good()["edge a x b"]
	l := slices.Clone(c.Names)
	command.Print(c)
	if !slices.Equal(c.Names, l) {
		t.Error("what was handed in is changed")
	}
}
