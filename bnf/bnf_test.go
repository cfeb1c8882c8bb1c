package bnf_test

import (
	"slices"
	"strconv"
	"strings"
	"testing"

	"byway/api"
	"byway/bnf"
	"byway/regex"
	"byway/sample"
)

func parse(t *testing.T, text string) []api.Rule {
	t.Helper()
	g, at, e := bnf.Parse(text)
	if e != api.OK || at != 0 {
		t.Fatalf("Parse(%q): %d, %v", text, at, e)
	}
	return g
}

func print(t *testing.T, g []api.Rule) string {
	t.Helper()
	text, e := bnf.Print(g)
	if e != api.OK {
		t.Fatalf("Print(%v): %v", g, e)
	}
	return text
}

func body(t *testing.T, text string) []api.Node {
	t.Helper()
	l, _, e := regex.Read(text)
	if e != api.OK {
		t.Fatal(text, e)
	}
	return l
}

func rule(t *testing.T, head, text string) api.Rule {
	t.Helper()
	return api.Rule{Head: head, Body: body(t, text)}
}

// many are rules A0 = text, A1 = text and so on.
func many(t *testing.T, count int, text string) []api.Rule {
	t.Helper()
	var g []api.Rule
	for i := range count {
		g = append(g, rule(t, "A"+strconv.Itoa(i), text))
	}
	return g
}

// choice are labels a0 | a1 and so on.
func choice(count int) string {
	var l []string
	for i := range count {
		l = append(l, "a"+strconv.Itoa(i))
	}
	return strings.Join(l, " | ")
}

func repeated(word string, count int) string {
	return strings.Join(slices.Repeat([]string{word}, count), " ")
}

// P8.1
func TestCheck(t *testing.T) {
	one := rule(t, "S", "a")
	broken := api.Rule{Head: "S", Body: body(t, "a a")[:2]}
	deep := rule(t, "S", "a"+strings.Repeat("*", 16))
	wide := rule(t, "S", strings.Repeat("%", 1100))
	huge := api.Rule{Head: "S", Body: append([]api.Node{{Kind: api.KindSeq, Kids: 3000}}, slices.Repeat([]api.Node{{Kind: api.KindEmpty}}, 3000)...)}
	for i, x := range []struct {
		g []api.Rule
		e api.Errno
	}{
		{nil, api.ErrRules}, {[]api.Rule{}, api.ErrRules}, {slices.Repeat([]api.Rule{one}, 64), api.OK}, {slices.Repeat([]api.Rule{one}, 65), api.ErrRules},
		{slices.Repeat([]api.Rule{{}}, 65), api.ErrRules}, {[]api.Rule{one}, api.OK},
		{[]api.Rule{{Head: "s", Body: one.Body}}, api.ErrTree}, {[]api.Rule{{Head: "", Body: one.Body}}, api.ErrTree}, {[]api.Rule{{Head: "S-", Body: one.Body}}, api.ErrTree},
		{[]api.Rule{{Head: strings.Repeat("S", 17), Body: one.Body}}, api.ErrTree}, {[]api.Rule{{Head: strings.Repeat("S", 16), Body: one.Body}}, api.OK}, {[]api.Rule{{Head: "9", Body: one.Body}}, api.ErrTree},
		{[]api.Rule{one, {Head: "S"}}, api.ErrTree}, {[]api.Rule{one, broken}, api.ErrTree}, {append(many(t, 20, "T"), broken), api.ErrTree},
		{many(t, 16, "a"), api.OK}, {many(t, 17, "a"), api.ErrNts}, {append(many(t, 15, "a"), rule(t, "S", "T")), api.ErrNts}, {append(many(t, 15, "a"), rule(t, "S", "S A0")), api.OK}, {many(t, 17, choice(17)), api.ErrNts},
		{[]api.Rule{rule(t, "S", choice(16))}, api.OK}, {[]api.Rule{rule(t, "S", choice(17))}, api.ErrTerms}, {[]api.Rule{rule(t, "S", choice(16)), rule(t, "S", "b")}, api.ErrTerms}, {[]api.Rule{rule(t, "S", repeated(choice(17), 4))}, api.ErrTerms},
		{[]api.Rule{rule(t, "S", repeated("a", 64))}, api.OK}, {[]api.Rule{rule(t, "S", repeated("a", 65))}, api.ErrOcc}, {[]api.Rule{rule(t, "S", repeated("S", 33)), rule(t, "S", repeated("a", 32))}, api.ErrOcc}, {[]api.Rule{rule(t, "S", repeated("T", 65)), deep}, api.ErrOcc},
		{[]api.Rule{rule(t, "S", "a"+strings.Repeat("*", 15))}, api.OK}, {[]api.Rule{deep}, api.ErrDeep}, {[]api.Rule{rule(t, "S", "T"), deep}, api.ErrDeep}, {[]api.Rule{wide, deep}, api.ErrDeep},
		{[]api.Rule{rule(t, "S", "T")}, api.ErrMissing}, {[]api.Rule{rule(t, "S", "T"), wide}, api.ErrMissing}, {[]api.Rule{rule(t, "S", "T"), rule(t, "T", "S")}, api.OK},
		{[]api.Rule{wide}, api.ErrWide}, {[]api.Rule{huge}, api.ErrWide}, {[]api.Rule{{Head: "S", Body: append(slices.Repeat([]api.Node{{Kind: api.KindOpt, Kids: 1}}, 3000), one.Body...)}}, api.ErrDeep},
		{[]api.Rule{rule(t, "S", strings.Repeat("%", 1021))}, api.OK}, {[]api.Rule{rule(t, "SS", strings.Repeat("%", 1021))}, api.ErrWide}, {[]api.Rule{rule(t, "SS", strings.Repeat("%", 1020))}, api.OK},
	} {
		text, e := bnf.Print(x.g)
		if got := bnf.Check(x.g); got != x.e || e != x.e || (e == api.OK) != (text != "") {
			t.Error(i, got, e, x.e)
		}
	}
}

// P8.2
func TestSyntax(t *testing.T) {
	for text, want := range map[string]int{
		"": 0, "S = a": 5, "S a;": 2, "s = a;": 0, "S = a; ;": 7, " ": 1, "S": 1, "S =": 3, "S = ": 4, "S = ;": 4, "S = a | ;": 8, "S = (a ;": 7, "S = (a": 6,
		"= a;": 0, "S = a = b;": 6, "S = a; T": 8, "S = a; T = b": 12, "S = a; t = b;": 7, "S == a;": 3, "S = a;;": 6, "S = a b* ? | 9;": 13, "$": 0, "S$": 1, "S = $;": 4,
		"S = a $ ;": 6, "S = a ; $": 8, "S = a ;$ ;": 7, "S = ) $": 4, "S = a\x00;": 5, "9 = a;": 0, "S = a T = b;": 8, "% = a;": 0, "S = a; % ;": 7, "S = a ) ;": 6, "S = a b (": 9,
	} {
		if g, at, e := bnf.Parse(text); g != nil || at != want || e != api.ErrSyntax {
			t.Errorf("%q: %v, %d, %v, not at %d", text, g, at, e, want)
		}
	}
}

func TestParseErrors(t *testing.T) {
	long := strings.Repeat("S", 17)
	for _, x := range []struct {
		text string
		at   int
		e    api.Errno
	}{
		{strings.Repeat("$", 2049), 0, api.ErrLong}, {strings.Repeat("$", 2048), 0, api.ErrSyntax}, {"S = a;" + strings.Repeat(" ", 2042), 0, api.OK}, {"S = a;" + strings.Repeat(" ", 2043), 0, api.ErrLong},
		{long + " = a;", 0, api.ErrName}, {"S = " + long + ";", 0, api.ErrName}, {"S = " + strings.Repeat("a", 17) + "; T", 23 + 1, api.ErrSyntax}, {strings.Repeat("S = a;", 65) + "S = " + long + ";", 0, api.ErrName},
		{strings.Repeat("S = a;", 64), 0, api.OK}, {strings.Repeat("S = a;", 65), 0, api.ErrRules}, {"S = T;", 0, api.ErrMissing}, {"S = " + choice(17) + ";", 0, api.ErrTerms},
		{"S = " + repeated("a", 65) + ";", 0, api.ErrOcc}, {"S = a" + strings.Repeat("+", 16) + ";", 0, api.ErrDeep}, {"S = " + strings.Repeat("%", 1100) + ";", 0, api.ErrWide},
		{"S = " + strings.Repeat("(", 900) + "a" + strings.Repeat(")", 900) + ";", 0, api.OK},
	} {
		g, at, e := bnf.Parse(x.text)
		if at != x.at || e != x.e || (e == api.OK) != (g != nil) {
			t.Errorf("%.40q: %d, %v", x.text, at, e)
		}
	}
	var nts strings.Builder
	for i := range 17 {
		nts.WriteString("A" + strconv.Itoa(i) + "=a;")
	}
	if g, at, e := bnf.Parse(nts.String()); g != nil || at != 0 || e != api.ErrNts {
		t.Error(at, e)
	}
}

// The first wrong place is where no text goes on.
func TestFirstWrongPlace(t *testing.T) {
	pool := []string{"a", "S", "%", "|", "*", "(", ")", "9", "$", ";", "=", "S = a ;", "S = ", ";"}
	ends := []string{"", "a;", "= a;", ";", ");", "a);", "));", "a));", ")));", "a)));", "S = a;"}
	n := sample.Noise(4)
	goesOn := func(text string) bool {
		return slices.ContainsFunc(ends, func(end string) bool {
			_, _, e := bnf.Parse(text + " " + end)
			return e == api.OK
		})
	}
	for range 4000 {
		text := ""
		for range n.Below(7) {
			text += pool[n.Below(len(pool))] + " "
		}
		_, at, e := bnf.Parse(text)
		if e == api.OK {
			continue
		}
		if e != api.ErrSyntax || !goesOn(text[:at]) {
			t.Fatalf("%q: %v, %q does not go on", text, e, text[:at])
		}
		if at < len(text) && goesOn(text[:at+1]) {
			t.Fatalf("%q: %q goes on", text, text[:at+1])
		}
	}
}

func TestExamples(t *testing.T) {
	g := parse(t, "S = a S b | % ;")
	want := []api.Rule{{Head: "S", Body: []api.Node{{Kind: api.KindAlt, Kids: 2}, {Kind: api.KindSeq, Kids: 3},
		{Kind: api.KindLabel, Name: "a"}, {Kind: api.KindName, Name: "S"}, {Kind: api.KindLabel, Name: "b"}, {Kind: api.KindEmpty}}}}
	if !bnf.Same(g, want) || print(t, g) != "S = a S b | % ;\n" {
		t.Error(g)
	}
	g = parse(t, "S = b T; T = a; S = %;")
	if !slices.Equal(bnf.Heads(g), []string{"S", "T"}) || !slices.Equal(bnf.Labels(g), []string{"a", "b"}) || bnf.Occ(g) != 3 {
		t.Error(bnf.Heads(g), bnf.Labels(g), bnf.Occ(g))
	}
	if print(t, g) != "S = b T ;\nT = a ;\nS = % ;\n" {
		t.Error(print(t, g))
	}
}

// P8.4
func TestAsked(t *testing.T) {
	g := []api.Rule{
		rule(t, "T", "b S a"), {Head: "s-", Body: []api.Node{{Kind: api.KindLabel, Name: "Z-"}, {Kind: api.KindName, Name: ""}, {Kind: 77, Kids: -5, Name: "k"}}},
		{Head: ""}, rule(t, "S", "c | a"), rule(t, "T", "a"), rule(t, "T", "b S a"),
	}
	if l := bnf.Heads(g); !slices.Equal(l, []string{"T", "s-", "", "S"}) {
		t.Error(l)
	}
	if l := bnf.Labels(g); !slices.Equal(l, []string{"Z-", "a", "b", "c"}) {
		t.Error(l)
	}
	if n := bnf.Occ(g); n != 11 {
		t.Error(n)
	}
	bodies := bnf.Bodies(g, "T")
	if len(bodies) != 3 || !slices.Equal(bodies[0], g[0].Body) || !slices.Equal(bodies[1], g[4].Body) || !slices.Equal(bodies[2], g[0].Body) {
		t.Error(bodies)
	}
	bodies[0][0].Kids = 99
	if g[0].Body[0].Kids != 3 || bodies[2][0].Kids != 3 {
		t.Error("bodies are shared")
	}
	if l := bnf.Bodies(g, ""); len(l) != 1 || len(l[0]) != 0 {
		t.Error(l)
	}
	if len(bnf.Bodies(g, "U")) != 0 || len(bnf.Bodies(nil, "S")) != 0 || len(bnf.Heads(nil)) != 0 || len(bnf.Labels(nil)) != 0 || bnf.Occ(nil) != 0 {
		t.Error("something of nothing")
	}
}

func TestSame(t *testing.T) {
	g := parse(t, "S = a T; T = b; S = %;")
	if !bnf.Same(g, slices.Clone(g)) || !bnf.Same(nil, []api.Rule{}) || !bnf.Same([]api.Rule{{Body: nil}}, []api.Rule{{Body: []api.Node{}}}) {
		t.Error("the same")
	}
	for _, text := range []string{"S = a T; S = %; T = b;", "S = a T; T = b;", "S = a T; T = b; S = %; S = %;", "S = a S; T = b; S = %;", "S = a T; T = b; T = %;"} {
		if bnf.Same(g, parse(t, text)) || bnf.Same(parse(t, text), g) {
			t.Error(text)
		}
	}
	if bnf.Same(g, nil) || bnf.Same([]api.Rule{{Body: []api.Node{{Kids: 1}}}}, []api.Rule{{Body: []api.Node{{Kids: 2}}}}) {
		t.Error("not the same")
	}
}

// P8.5, P8.6
func TestTexts(t *testing.T) {
	n := sample.Noise(8)
	var last []api.Rule
	for range 400 {
		g := n.Grammar(n.Below(6), 5, []string{"S", "T", "Long_Name_12345A"}[:1+n.Below(3)], []string{"a", "b9"})
		if bnf.Check(g) != api.OK {
			continue
		}
		text := print(t, g)
		got := parse(t, text)
		if !bnf.Same(got, g) || print(t, got) != text {
			t.Fatalf("%q", text)
		}
		wide := strings.NewReplacer(" ", "\r\n\t", "(", " ( ", ")", "\n) ", "*", " *").Replace(text)
		if len(wide) <= api.MaxText && !bnf.Same(parse(t, wide), g) {
			t.Fatalf("%q", wide)
		}
		twoTexts(t, g, last)
		last = g
	}
}

func twoTexts(t *testing.T, a, b []api.Rule) {
	t.Helper()
	if b == nil {
		return
	}
	text := print(t, a) + print(t, b)
	if len(text) > api.MaxText {
		return
	}
	both := slices.Concat(a, b)
	g, _, e := bnf.Parse(text)
	if want := bnf.Check(both); e != want || e == api.OK && !bnf.Same(g, both) {
		t.Fatal(text, e, want)
	}
}
