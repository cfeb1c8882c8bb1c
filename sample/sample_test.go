package sample_test

import (
	"slices"
	"testing"

	"byway/api"
	"byway/bnf"
	"byway/sample"
)

func rules(t *testing.T, text string) []api.Rule {
	t.Helper()
	r, _, e := bnf.Parse(text)
	if e != api.OK {
		t.Fatal(text, e)
	}
	return r
}

func TestLanguages(t *testing.T) {
	l := sample.Languages(rules(t, "S = a S b | %; T = (a | b)+ S?;"), 4)
	if want := (sample.Language{"": 0, "a b ": 2, "a a b b ": 4}); !l["S"].Same(want) {
		t.Error(l["S"])
	}
	// All words of one label to four.
	if len(l["T"]) != 2+4+8+16 {
		t.Error(l["T"])
	}
	c := api.Cnf{Nts: 1, Prods: []api.Prod{{Body: []api.Sym{{Label: true}, {}}}, {}}}
	if d := sample.Derived(c, []string{"a"}, 2); !d[0].Same(sample.Language{"": 0, "a ": 1, "a a ": 2}) {
		t.Error(d)
	}
}

func TestSolved(t *testing.T) {
	edges := []api.Edge{{From: "x", Label: "a", To: "y"}, {From: "y", Label: "a", To: "x"}, {From: "x", Label: "b", To: "z"}, {From: "z", Label: "b", To: "x"}}
	known := sample.Solved(rules(t, "S = a S b | a b;"), []string{"x", "y", "z"}, edges)
	if l := known["S"].Pairs(); !slices.Equal(l, []api.Cell{{Row: 0, Col: 0}, {Row: 1, Col: 2}}) {
		t.Error(l)
	}
	c := api.Cnf{Nts: 1, Prods: []api.Prod{{Body: []api.Sym{{Label: true}}}, {Body: []api.Sym{{}, {}}}}}
	facts := sample.Facts(c, []string{"b"}, []string{"x", "y", "z"}, edges)
	if l := facts[0].Pairs(); !slices.Equal(l, []api.Cell{{Row: 0, Col: 0}, {Row: 0, Col: 2}, {Row: 2, Col: 0}, {Row: 2, Col: 2}}) {
		t.Error(l)
	}
}

// The same numbers each time.
func TestNoise(t *testing.T) {
	a, b := sample.Noise(7), sample.Noise(7)
	for range 100 {
		if x, y := a.Next(), b.Next(); x != y {
			t.Fatal(x, y)
		}
		if n := a.Below(3); n < 0 || n > 2 || n != b.Below(3) {
			t.Fatal(n)
		}
	}
	if len(sample.Words([]string{"a", "b"}, 3)) != 1+2+4+8 {
		t.Error("words")
	}
}
