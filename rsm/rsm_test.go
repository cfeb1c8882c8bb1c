package rsm_test

import (
	"math"
	"slices"
	"testing"

	"byway/api"
	"byway/bnf"
	"byway/box"
	"byway/quad"
	"byway/rsm"
	"byway/sample"
	"byway/symbols"
)

func grammar(t *testing.T, text string) []api.Rule {
	t.Helper()
	g, _, e := bnf.Parse(text)
	if e != api.OK {
		t.Fatal(text, e)
	}
	return g
}

func machine(t *testing.T, g []api.Rule) *rsm.Machine {
	t.Helper()
	m, e := rsm.New(g)
	if e != api.OK || m == nil {
		t.Fatal(g, e)
	}
	return m
}

func nt(n int) api.Sym { return api.Sym{N: n} }

func label(n int) api.Sym { return api.Sym{Label: true, N: n} }

func arc(from int, s api.Sym, to int) api.Arc { return api.Arc{From: from, Sym: s, To: to} }

// out are all arcs, as Out tells them state by state.
func out(m *rsm.Machine) []api.Arc {
	var l []api.Arc
	for q := range m.States() {
		for s, to := range m.Out(q) {
			l = append(l, arc(q, s, to))
		}
	}
	return l
}

// P11.1, P11.2, P11.3: the chapter's examples
func TestExamples(t *testing.T) {
	m := machine(t, grammar(t, "S = a S b; S = %; T = S;"))
	if m.States() != 6 || !slices.Equal(m.Names(), []string{"S", "T"}) || !slices.Equal(m.Labels(), []string{"a", "b"}) {
		t.Error(m.States(), m.Names(), m.Labels())
	}
	if l := []int{m.Start(0), m.Start(1), m.Start(2), m.Nt(3), m.Nt(5), m.Nt(6)}; !slices.Equal(l, []int{0, 4, -1, 0, 1, -1}) {
		t.Error(l)
	}
	if l := m.Finals(); !slices.Equal(l, []int{0, 3, 5}) {
		t.Error(l)
	}
	want := []api.Arc{arc(0, label(0), 1), arc(1, nt(0), 2), arc(2, label(1), 3), arc(4, nt(0), 5)}
	if l := m.Arcs(); !slices.Equal(l, want) || !slices.Equal(out(m), want) {
		t.Error(l)
	}
	x, _ := quad.Of(6, api.Cell{Row: 1, Col: 2}, api.Cell{Row: 4, Col: 5})
	if !quad.Same(m.Matrix(nt(0)), x) {
		t.Error("matrix")
	}
	unused, _ := quad.New(6)
	if !quad.Same(m.Matrix(nt(1)), unused) {
		t.Error("a nonterminal that stands in no body")
	}
}

func TestWrong(t *testing.T) {
	for _, g := range [][]api.Rule{nil, {{Head: "s"}}, grammar(t, "S = T; T = a;")[:1], slices.Repeat(grammar(t, "S = a;"), 65)} {
		if m, e := rsm.New(g); m != nil || e == api.OK || e != bnf.Check(g) {
			t.Error(m, e)
		}
	}
	m := machine(t, grammar(t, "S = a S b; S = %; T = S;"))
	for _, n := range []int{-1, 6, 7, math.MinInt, math.MaxInt} {
		for range m.Out(n) {
			t.Error("an arc from", n)
		}
		a, e := m.Auto(n)
		if m.Nt(n) != -1 || m.Final(n) || m.Start(n) != -1 || m.Matrix(nt(n)) != nil || m.Matrix(label(n)) != nil || a.States != 0 || e != api.ErrNone {
			t.Error(n, e)
		}
	}
	if m.Matrix(nt(2)) != nil || m.Matrix(label(2)) != nil {
		t.Error("a matrix of no symbol")
	}
}

func TestNil(t *testing.T) {
	for _, m := range []*rsm.Machine{nil, new(rsm.Machine)} {
		a, e := m.Auto(0)
		if m.States() != 0 || m.Start(0) != -1 || m.Nt(0) != -1 || m.Final(0) || m.Matrix(nt(0)) != nil || m.Matrix(label(0)) != nil || a.States != 0 || e != api.ErrNil {
			t.Error(e)
		}
		if len(m.Names()) != 0 || len(m.Labels()) != 0 || len(m.Finals()) != 0 || len(m.Arcs()) != 0 {
			t.Error("lists of no machine")
		}
		for range m.Out(0) {
			t.Error("an arc")
		}
	}
}

// P11.4
func TestBoxes(t *testing.T) {
	n := sample.Noise(5)
	for range 200 {
		g := n.Grammar(7, 4, []string{"S", "T", "U", "V"}[:1+n.Below(4)], []string{"a", "b", "c"})
		if bnf.Check(g) != api.OK {
			continue
		}
		x, _ := symbols.Of(g)
		m := machine(t, g)
		if m.States() != len(x.Names())+bnf.Occ(g) || !slices.Equal(m.Names(), x.Names()) || !slices.Equal(m.Labels(), x.Labels()) {
			t.Fatal(m.States())
		}
		var arcs []api.Arc
		var finals []int
		first := 0
		for i, name := range x.Names() {
			want, _ := box.Of(x, bnf.Bodies(g, name)...)
			got, e := m.Auto(i)
			if e != api.OK || got.States != want.States || !slices.Equal(got.Finals, want.Finals) || !slices.Equal(got.Arcs, want.Arcs) || m.Start(i) != first {
				t.Fatal(got, want, e)
			}
			for q := range want.States {
				if m.Nt(first+q) != i || m.Final(first+q) != slices.Contains(want.Finals, q) {
					t.Fatal(first, q)
				}
			}
			for _, q := range want.Finals {
				finals = append(finals, first+q)
			}
			for _, a := range want.Arcs {
				arcs = append(arcs, arc(first+a.From, a.Sym, first+a.To))
			}
			first += want.States
		}
		if !slices.Equal(m.Arcs(), arcs) || !slices.Equal(out(m), arcs) || !slices.Equal(m.Finals(), finals) {
			t.Fatal(m.Arcs(), arcs)
		}
		matrices(t, m, x, arcs)
	}
}

func matrices(t *testing.T, m *rsm.Machine, x *symbols.Table, arcs []api.Arc) {
	t.Helper()
	count := 0
	for s := range x.All() {
		want, _ := quad.New(m.States())
		for _, a := range arcs {
			if a.Sym == s {
				want.Set(a.From, a.To)
			}
		}
		got := m.Matrix(s)
		if !quad.Same(got, want) {
			t.Fatal(s)
		}
		count += got.Len()
	}
	if count != len(arcs) {
		t.Fatal(count, len(arcs))
	}
}

func TestApart(t *testing.T) {
	g := grammar(t, "S = a S b | T; T = c*;")
	m := machine(t, g)
	arcs, finals := m.Arcs(), m.Finals()
	g[0].Head = "X"
	g[0].Body[2].Name = "z"
	m.Arcs()[0].To = 99
	m.Finals()[0] = 99
	m.Names()[0] = "X"
	m.Labels()[0] = "x"
	m.Matrix(label(0)).Set(5, 5)
	a, _ := m.Auto(0)
	a.Arcs[0].To = 99
	a.Finals[0] = 99
	b, _ := m.Auto(0)
	if !slices.Equal(m.Arcs(), arcs) || !slices.Equal(m.Finals(), finals) || m.Names()[0] != "S" || m.Labels()[0] != "a" || m.Matrix(label(0)).Len() != 1 || b.Arcs[0].To == 99 || b.Finals[0] == 99 {
		t.Error("something is shared")
	}
	for range m.Out(0) {
		break
	}
}
