package regex_test

import (
	"math"
	"slices"
	"strings"
	"testing"

	"byway/api"
	"byway/regex"
	"byway/sample"
)

func node(kind api.Kind, kids int) api.Node { return api.Node{Kind: kind, Kids: kids} }

func name(s string) api.Node { return api.Node{Kind: api.KindName, Name: s} }

func label(s string) api.Node { return api.Node{Kind: api.KindLabel, Name: s} }

func tree(l ...api.Node) []api.Node { return l }

var empty = node(api.KindEmpty, 0)

func parse(t *testing.T, text string) []api.Node {
	t.Helper()
	l, at, e := regex.Parse(text)
	if e != api.OK || at != 0 {
		t.Fatalf("Parse(%q): %d, %v", text, at, e)
	}
	return l
}

func print(t *testing.T, l []api.Node) string {
	t.Helper()
	text, e := regex.Print(l)
	if e != api.OK {
		t.Fatalf("Print(%v): %v", l, e)
	}
	return text
}

// part is the tree that begins at a place of a list, and the place behind it.
func part(l []api.Node, at int) ([]api.Node, int) {
	end := at + 1
	for range l[at].Kids {
		_, end = part(l, end)
	}
	return l[at:end], end
}

func kids(l []api.Node) [][]api.Node {
	var all [][]api.Node
	at := 1
	for range l[0].Kids {
		var k []api.Node
		k, at = part(l, at)
		all = append(all, k)
	}
	return all
}

// plain says whether a word is one of the tree's, as the chapter's table has it.
func plain(l []api.Node, word []string) bool {
	k := kids(l)
	switch l[0].Kind {
	case api.KindEmpty:
		return len(word) == 0
	case api.KindSeq:
		return cut(k, word)
	case api.KindAlt:
		return slices.ContainsFunc(k, func(x []api.Node) bool { return plain(x, word) })
	case api.KindStar:
		return len(word) == 0 || repeated(k[0], word)
	case api.KindPlus:
		return repeated(k[0], word)
	case api.KindOpt:
		return len(word) == 0 || plain(k[0], word)
	}
	return len(word) == 1 && word[0] == l[0].Name
}

func cut(k [][]api.Node, word []string) bool {
	if len(k) == 1 {
		return plain(k[0], word)
	}
	for i := 0; i <= len(word); i++ {
		if plain(k[0], word[:i]) && cut(k[1:], word[i:]) {
			return true
		}
	}
	return false
}

func repeated(k []api.Node, word []string) bool {
	if plain(k, word) {
		return true
	}
	for i := 1; i < len(word); i++ {
		if plain(k, word[:i]) && repeated(k, word[i:]) {
			return true
		}
	}
	return false
}

// longTree is a KindAlt of so many labels.
func longTree(count int, name string) []api.Node {
	return append(tree(node(api.KindAlt, count)), slices.Repeat(tree(label(name)), count)...)
}

// deep is a label under so many stars.
func deep(stars int) []api.Node {
	return append(slices.Repeat(tree(node(api.KindStar, 1)), stars), label("a"))
}

// P7.1
func TestCheckTree(t *testing.T) {
	for _, l := range [][]api.Node{
		tree(empty), tree(name("A")), tree(label("a")), tree(name("Z_9aB")), tree(label("z_9aB")), tree(name("A0Z9az_")), tree(label("z0AZa9_")), tree(name(strings.Repeat("A", 16))),
		tree(node(api.KindSeq, 2), empty, empty), tree(node(api.KindAlt, 3), name("S"), node(api.KindOpt, 1), label("x"), empty),
		deep(15), longTree(500, "a"),
	} {
		if e := regex.Check(l); e != api.OK {
			t.Error(l, e)
		}
	}
	for _, l := range [][]api.Node{
		nil, {}, tree(node(0, 0)), tree(node(9, 0)), tree(node(-1, 0)), tree(node(9, 1), empty),
		tree(name("a")), tree(name("")), tree(name("9")), tree(name("_")), tree(name("A-")), tree(name("A ")), tree(name("Ä")), tree(name(strings.Repeat("A", 17))),
		tree(label("A")), tree(label("")), tree(label("9")), tree(label("a\n")), tree(label(strings.Repeat("a", 17))),
		tree(api.Node{Kind: api.KindEmpty, Name: "a"}), tree(api.Node{Kind: api.KindEmpty, Kids: 1}, empty), tree(api.Node{Kind: api.KindName, Name: "A", Kids: 1}, empty),
		tree(api.Node{Kind: api.KindLabel, Name: "a", Kids: -1}), tree(api.Node{Kind: api.KindStar, Name: "a", Kids: 1}, empty), tree(api.Node{Kind: api.KindSeq, Name: "a", Kids: 2}, empty, empty),
		tree(node(api.KindSeq, 1), empty), tree(node(api.KindSeq, 0)), tree(node(api.KindAlt, 1), empty), tree(node(api.KindAlt, -2), empty),
		tree(node(api.KindStar, 0)), tree(node(api.KindStar, 2), empty, empty), tree(node(api.KindPlus, 0)), tree(node(api.KindOpt, 3), empty, empty, empty),
		tree(empty, empty), tree(node(api.KindSeq, 2), empty), tree(node(api.KindSeq, 2), empty, empty, empty), tree(node(api.KindStar, 1)),
		tree(node(api.KindSeq, math.MaxInt), empty, empty), tree(node(api.KindAlt, math.MinInt)), tree(node(api.KindSeq, 3), node(api.KindSeq, math.MaxInt), empty, empty, empty),
		append(deep(30), empty), append(longTree(1500, "aaaa"), empty),
	} {
		if e := regex.Check(l); e != api.ErrTree {
			t.Error(l, e)
		}
	}
}

func TestCheckBounds(t *testing.T) {
	for _, x := range []struct {
		l []api.Node
		e api.Errno
	}{
		{longTree(513, "a"), api.ErrWide}, {longTree(512, "a"), api.OK}, // 4 n - 3 bytes
		{longTree(2047, "a"), api.ErrWide}, {longTree(2048, "a"), api.ErrLong}, {slices.Repeat(tree(empty), 2049), api.ErrLong}, {slices.Repeat(tree(empty), 2048), api.ErrTree},
		{deep(16), api.ErrDeep}, {deep(15), api.OK}, {deep(2047), api.ErrDeep}, {deep(2048), api.ErrLong},
		{append(tree(node(api.KindSeq, 2)), append(deep(15), longTree(600, "a")...)...), api.ErrDeep},
	} {
		l, e := regex.Turn(x.l)
		text, e2 := regex.Print(x.l)
		is, e3 := regex.Match(x.l, nil)
		for _, got := range []api.Errno{regex.Check(x.l), e, e2, e3} {
			if got != x.e {
				t.Error(len(x.l), got, x.e)
			}
		}
		if x.e != api.OK && (l != nil || text != "" || is) {
			t.Error(len(x.l), "an answer beside an error")
		}
	}
	if l := longTree(512, "a"); len(print(t, append(tree(node(api.KindOpt, 1)), l...))) != 2048 {
		t.Error("a text of just 2048 bytes")
	}
}

// P7.2
func TestParseExamples(t *testing.T) {
	l := parse(t, "a b* | (c d)? %")
	want := tree(node(api.KindAlt, 2), node(api.KindSeq, 2), label("a"), node(api.KindStar, 1), label("b"), node(api.KindSeq, 2), node(api.KindOpt, 1), node(api.KindSeq, 2), label("c"), label("d"), empty)
	if !slices.Equal(l, want) || print(t, l) != "a b* | (c d)? %" {
		t.Error(l)
	}
	if l := parse(t, "(a)"); !slices.Equal(l, tree(label("a"))) {
		t.Error(l)
	}
	l = parse(t, "((a b)) c")
	if !slices.Equal(l, tree(node(api.KindSeq, 2), node(api.KindSeq, 2), label("a"), label("b"), label("c"))) || print(t, l) != "(a b) c" {
		t.Error(l)
	}
	if l := parse(t, "a*?"); !slices.Equal(l, tree(node(api.KindOpt, 1), node(api.KindStar, 1), label("a"))) {
		t.Error(l)
	}
	if l := parse(t, "a*?+"); !slices.Equal(l, tree(node(api.KindPlus, 1), node(api.KindOpt, 1), node(api.KindStar, 1), label("a"))) {
		t.Error(l)
	}
}

func TestSyntax(t *testing.T) {
	for text, want := range map[string]int{
		"a  b |": 6, "a)b": 1, "(a": 2, "a 9": 2, "*a": 0, "": 0, "a $": 2,
		" ": 1, "\t\n": 2, "a |  ": 5, "a ||b": 3, "a (": 3, "a ()": 3, "(a | )": 5, "(a))": 3, "a;": 1, "a = b": 2, "a _": 2, "9": 0, "_": 0,
		"(a $": 3, "a $ )": 2, ") $": 0, "a | * $": 4, "a\x00": 1, "(": 1, "((": 2, "|a": 0, "a|": 2, "a b é": 4, "+": 0, "(+": 1, "a+ | ?": 5,
	} {
		for _, call := range []func(string) ([]api.Node, int, api.Errno){regex.Parse, regex.Read} {
			if l, at, e := call(text); l != nil || at != want || e != api.ErrSyntax {
				t.Errorf("%q: %v, %d, %v, not at %d", text, l, at, e, want)
			}
		}
	}
}

func TestParseBounds(t *testing.T) {
	long := strings.Repeat("a", 17)
	for _, x := range []struct {
		text      string
		at        int
		parse, is api.Errno
	}{
		{strings.Repeat(" ", 2048) + "a", 0, api.ErrLong, api.ErrLong},
		{strings.Repeat("$", 2049), 0, api.ErrLong, api.ErrLong},
		{strings.Repeat(" ", 2047) + "a", 0, api.OK, api.OK},
		{strings.Repeat(" ", 2048), 2048, api.ErrSyntax, api.ErrSyntax},
		{long, 0, api.ErrName, api.OK},
		{long + ")", 17, api.ErrSyntax, api.ErrSyntax},
		{"A" + long + strings.Repeat("*", 20), 0, api.ErrName, api.OK},
		{"a" + strings.Repeat("*", 15), 0, api.OK, api.OK},
		{"a" + strings.Repeat("*", 16), 0, api.ErrDeep, api.OK},
		{"a" + strings.Repeat("+", 2047), 0, api.ErrDeep, api.OK},
		{strings.Repeat("(", 1023) + "aa" + strings.Repeat(")", 1023), 0, api.OK, api.OK},
		{strings.Repeat("(", 2048), 2048, api.ErrSyntax, api.ErrSyntax},
		{strings.Repeat("%", 2048), 0, api.ErrWide, api.OK},
		{strings.Repeat("%", 1024), 0, api.OK, api.OK},
		{strings.Repeat("%", 1025), 0, api.ErrWide, api.OK},
		{strings.Repeat("%", 1100) + "(" + strings.Repeat("*", 20), 1101, api.ErrSyntax, api.ErrSyntax},
		{strings.Repeat("%", 1100) + strings.Repeat("*", 16), 0, api.ErrDeep, api.OK},
	} {
		l, at, e := regex.Parse(x.text)
		if at != x.at || e != x.parse || e != api.OK && l != nil {
			t.Errorf("Parse(%.30q): %d, %v", x.text, at, e)
		}
		l, at, e = regex.Read(x.text)
		if at != x.at || e != x.is || (e == api.OK) != (l != nil) {
			t.Errorf("Read(%.30q): %d, %v", x.text, at, e)
		}
	}
}

func TestReadIsParse(t *testing.T) {
	n := sample.Noise(3)
	for range 300 {
		text := print(t, n.Tree(6, []string{"S", "T"}, []string{"a", "b"}))
		l, _, e := regex.Read(text)
		if e != api.OK || !slices.Equal(l, parse(t, text)) {
			t.Fatal(text, e)
		}
	}
	long := strings.Repeat("A", 40)
	if l, _, e := regex.Read(long + "+"); e != api.OK || !slices.Equal(l, tree(node(api.KindPlus, 1), name(long))) {
		t.Error(l, e)
	}
}

// The first wrong place is where no text goes on: so each beginning of a text
// that is read goes on, and no text goes on with what is told.
func TestFirstWrongPlace(t *testing.T) {
	pool := []string{"a", "S", "%", "|", "*", "+", "?", "(", ")", "9", "$", ";", "a"}
	ends := []string{"", "a", ")", "a)", "))", "a))", ")))", "a)))", "))))", "a))))"}
	n := sample.Noise(4)
	goesOn := func(text string) bool {
		return slices.ContainsFunc(ends, func(end string) bool {
			_, _, e := regex.Read(text + " " + end)
			return e == api.OK
		})
	}
	for range 2000 {
		text, good := "", ""
		for range n.Below(7) {
			text += pool[n.Below(len(pool))] + " "
		}
		_, at, e := regex.Read(text)
		if e == api.OK {
			continue
		}
		good = text[:at]
		if !goesOn(good) {
			t.Fatalf("%q: %q does not go on", text, good)
		}
		if at < len(text) && goesOn(text[:at+1]) {
			t.Fatalf("%q: %q goes on", text, text[:at+1])
		}
	}
}

// P7.3
func TestPrint(t *testing.T) {
	for text, want := range map[string]string{
		"(a|b)|c": "(a | b) | c", "(a|b)c": "(a | b) c", "(a b)*": "(a b)*", "(a|b)+": "(a | b)+", "(a b)|c": "a b | c", "a(b c)": "a (b c)", "a**": "a**",
		"(a*)+": "a*+", "((S))": "S", "%?": "%?", "a|(b|c)|d e": "a | (b | c) | d e", "(a(b c))?": "(a (b c))?", "a b|c d": "a b | c d",
	} {
		if got := print(t, parse(t, text)); got != want {
			t.Errorf("%q: %q, not %q", text, got, want)
		}
	}
}

// P7.4
func TestAsked(t *testing.T) {
	for _, x := range []struct {
		l           []api.Node
		occ, height int
		empty       bool
	}{
		{nil, 0, 0, false}, {tree(label("a")), 1, 1, false}, {tree(empty), 0, 1, true}, {parse(t, "a (b | S*)? % a"), 4, 5, false},
		{tree(label("a"), label("a")), 2, 0, false}, {tree(empty, empty), 0, 0, false}, {tree(node(api.KindStar, 1)), 0, 0, false}, {tree(label("-"), name("")), 2, 0, false},
		{parse(t, "(a | b*) c?"), 3, 4, true}, {parse(t, "(a | %)+"), 1, 3, true}, {parse(t, "(a b*)+"), 2, 4, false}, {deep(5000), 1, 5001, true},
		{append(slices.Repeat(tree(node(api.KindPlus, 1)), 60000), empty), 0, 60001, true}, {append(deep(60000), empty), 1, 0, false}, {longTree(5000, "a"), 5000, 2, false},
	} {
		if occ, height, is := regex.Occ(x.l), regex.Height(x.l), regex.Empty(x.l); occ != x.occ || height != x.height || is != x.empty {
			t.Error(len(x.l), occ, height, is)
		}
	}
}

func TestNames(t *testing.T) {
	l := tree(label("b"), node(api.KindSeq, 9), name("x-"), empty, label(""))
	seq := regex.Names(l)
	l[0].Name = "c"
	for range 2 {
		var at []int
		var names []string
		for i, s := range seq {
			at, names = append(at, i), append(names, s)
		}
		if !slices.Equal(at, []int{0, 2, 4}) || !slices.Equal(names, []string{"b", "x-", ""}) {
			t.Error(at, names)
		}
		for range seq {
			break
		}
	}
	for range regex.Names(nil) {
		t.Error("a name of none")
	}
}

// P7.5
func TestMatch(t *testing.T) {
	words := sample.Words([]string{"a", "b", "S"}, 5)
	n := sample.Noise(5)
	for range 250 {
		l := n.Tree(5, []string{"S"}, []string{"a", "b"})
		for _, w := range words {
			if is, e := regex.Match(l, w); e != api.OK || is != plain(l, w) {
				t.Fatalf("%s, %v: %v, %v", print(t, l), w, is, e)
			}
		}
	}
}

func TestMatchBounds(t *testing.T) {
	a := slices.Repeat([]string{"a"}, 65)
	for text, step := range map[string]int{"a*": 1, "(a a)*": 2, "((a? a)*)+": 1, "((a a a)* %)*": 3} {
		l := parse(t, text)
		for k := range 65 {
			if is, e := regex.Match(l, a[:k]); e != api.OK || is != (k%step == 0) {
				t.Error(text, k, is, e)
			}
		}
		if is, e := regex.Match(l, a); is || e != api.ErrLong {
			t.Error(is, e)
		}
	}
	if is, e := regex.Match(nil, a); is || e != api.ErrLong {
		t.Error(is, e)
	}
	if is, e := regex.Match(nil, nil); is || e != api.ErrTree {
		t.Error(is, e)
	}
	odd := parse(t, "(a a)* a")
	for k := range 65 {
		if is, e := regex.Match(odd, a[:k]); e != api.OK || is != (k%2 == 1) {
			t.Error(k, is, e)
		}
	}
	nested := parse(t, "((((((a* b)* a)* b)* a)* b)* a)*")
	ab := append(slices.Repeat([]string{"a", "b"}, 31), "b", "a")
	if is, e := regex.Match(nested, ab); !is || e != api.OK {
		t.Error(is, e)
	}
	if is, e := regex.Match(nested, append(ab[:63:63], "c")); is || e != api.OK {
		t.Error(is, e)
	}
	for _, w := range [][]string{{""}, {"c"}, {"a", ""}, {"A"}} {
		if is, e := regex.Match(parse(t, "a*"), w); is || e != api.OK {
			t.Error(w, is, e)
		}
	}
}

// P7.6, P7.8
func TestTurn(t *testing.T) {
	l, e := regex.Turn(parse(t, "a (b c)*"))
	if e != api.OK || print(t, l) != "(c b)* a" {
		t.Error(l, e)
	}
	words := sample.Words([]string{"a", "b"}, 4)
	n := sample.Noise(6)
	for range 200 {
		l := n.Tree(5, nil, []string{"a", "b"})
		before := slices.Clone(l)
		turned, e := regex.Turn(l)
		twice, e2 := regex.Turn(turned)
		if e != api.OK || e2 != api.OK || !slices.Equal(twice, l) || !slices.Equal(l, before) {
			t.Fatal(l, e, e2)
		}
		if is, _ := regex.Match(l, nil); is != regex.Empty(l) {
			t.Fatal("Empty is Match of no names")
		}
		for _, w := range words {
			back := slices.Clone(w)
			slices.Reverse(back)
			is, _ := regex.Match(l, w)
			if other, _ := regex.Match(turned, back); is != other {
				t.Fatal(print(t, l), w)
			}
		}
	}
	one := tree(label("a"))
	turned, _ := regex.Turn(one)
	turned[0].Name = "b"
	if one[0].Name != "a" {
		t.Error("the answer is what was handed in")
	}
}

// P7.7
func TestTexts(t *testing.T) {
	n := sample.Noise(7)
	for range 500 {
		l := n.Tree(7, []string{"S", "Long_Name_12345A"}, []string{"a", "b9"})
		if regex.Check(l) != api.OK {
			continue
		}
		text := print(t, l)
		if got := parse(t, text); !slices.Equal(got, l) {
			t.Fatalf("%v by %q is %v", l, text, got)
		}
		wide := strings.NewReplacer(" ", "\r\n\t", "(", " ( ", ")", "\n) ", "*", " *").Replace(text)
		if len(wide) > api.MaxText {
			continue
		}
		if got := parse(t, wide); !slices.Equal(got, l) || print(t, got) != text {
			t.Fatalf("%q is not %q", wide, text)
		}
	}
}
