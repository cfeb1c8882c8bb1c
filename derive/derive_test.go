package derive_test

import (
	"math"
	"slices"
	"strconv"
	"strings"
	"testing"

	"byway/api"
	"byway/bnf"
	"byway/derive"
	"byway/least"
	"byway/sample"
	"byway/wcnf"
)

func nt(n int) api.Sym { return api.Sym{N: n} }

func label(n int) api.Sym { return api.Sym{Label: true, N: n} }

func prod(head int, body ...api.Sym) api.Prod { return api.Prod{Head: head, Body: body} }

func cnf(nts int, l ...api.Prod) api.Cnf { return api.Cnf{Nts: nts, Prods: l} }

// example is the chapter's c: a, then 0, then b.
func example() api.Cnf {
	return cnf(4, prod(0, nt(1), nt(2)), prod(1, label(0)), prod(2, nt(0), nt(3)), prod(3, label(1)), prod(0))
}

func TestExamples(t *testing.T) {
	c := example()
	for _, x := range []struct {
		word []int
		is   bool
	}{{[]int{0, 1}, true}, {[]int{0, 0, 1, 1}, true}, {[]int{0, 0, 1}, false}, {nil, true}} {
		if is, e := derive.Has(c, 0, x.word...); is != x.is || e != api.OK {
			t.Error(x.word, is, e)
		}
	}
	if l, e := derive.Begins(c, 0, 0, 1, 1); !slices.Equal(l, []int{0, 2}) || e != api.OK {
		t.Error(l, e)
	}
	if l, e := derive.Who(c, 0); !slices.Equal(l, []int{1}) || e != api.OK {
		t.Error(l, e)
	}
	want := []api.Step{{Prod: 0, From: 0, To: 2}, {Prod: 1, From: 0, To: 1}, {Prod: 2, From: 1, To: 2}, {Prod: 4, From: 1, To: 1}, {Prod: 3, From: 1, To: 2}}
	if l, e := derive.Tree(c, 0, 0, 1); !slices.Equal(l, want) || e != api.OK {
		t.Error(l, e)
	}
	if is, e := derive.Right(c, 0, []int{0, 1}, want); !is || e != api.OK {
		t.Error(is, e)
	}
	if is, e := derive.Right(c, 0, []int{0, 1}, nil); is || e != api.OK {
		t.Error(is, e)
	}
}

// numbers are a word of sample's words.
func numbers(w []string) []int {
	var l []int
	for _, s := range w {
		n, _ := strconv.Atoi(s)
		l = append(l, n)
	}
	return l
}

// P15.1
func TestHas(t *testing.T) {
	words := sample.Words([]string{"0", "1"}, 4)
	n := sample.Noise(1)
	for range 250 {
		c := n.Weak(n.Below(14), 1+n.Below(4), 2)
		known := sample.Derived(c, nil, 4)
		for _, w := range words {
			checkWord(t, c, known, w)
		}
	}
}

func in(l sample.Language, w []string) bool {
	text := ""
	for _, s := range w {
		text += s + " "
	}
	_, is := l[text]
	return is
}

func checkWord(t *testing.T, c api.Cnf, known []sample.Language, w []string) {
	t.Helper()
	var who []int
	for nt := range c.Nts {
		want := in(known[nt], w)
		if want {
			who = append(who, nt)
		}
		if is, e := derive.Has(c, nt, numbers(w)...); is != want || e != api.OK {
			t.Fatal(c, nt, w, is, e)
		}
		var begins []int
		for k := range len(w) + 1 {
			if in(known[nt], w[:k]) {
				begins = append(begins, k)
			}
		}
		if l, e := derive.Begins(c, nt, numbers(w)...); !slices.Equal(l, begins) || e != api.OK {
			t.Fatal(c, nt, w, l, begins, e)
		}
	}
	if l, e := derive.Who(c, numbers(w)...); !slices.Equal(l, who) || e != api.OK {
		t.Fatal(c, w, l, who, e)
	}
}

func TestStrangeNumbers(t *testing.T) {
	c := example()
	for _, n := range []int{-1, 2, 15, 16, math.MinInt, math.MaxInt} {
		is, e1 := derive.Has(c, 0, n)
		begins, e2 := derive.Begins(c, 0, 0, 1, n)
		who, e3 := derive.Who(c, n)
		tree, e4 := derive.Tree(c, 0, n)
		right, e5 := derive.Right(c, 1, []int{n}, []api.Step{{Prod: 1, From: 0, To: 1}})
		if is || e1 != api.OK || !slices.Equal(begins, []int{0, 2}) || e2 != api.OK || len(who) != 0 || e3 != api.OK || tree != nil || e4 != api.ErrNone || right || e5 != api.OK {
			t.Error(n, is, begins, who, tree, right, e1, e2, e3, e4, e5)
		}
	}
}

func TestErrors(t *testing.T) {
	weak, strong := example(), cnf(1, prod(0, nt(0)))
	long := make([]int, 65)
	for _, x := range []struct {
		c    api.Cnf
		nt   int
		word []int
		e    api.Errno
	}{
		{cnf(0), -1, long, api.ErrProds}, {cnf(1, prod(1)), 0, nil, api.ErrProds}, {cnf(1, prod(0, label(16))), 0, nil, api.ErrProds}, {strong, -1, long, api.ErrWeak}, {cnf(1, prod(0, label(0), label(0))), 0, nil, api.ErrWeak},
		{weak, -1, long, api.ErrArg}, {weak, 4, nil, api.ErrArg}, {weak, math.MaxInt, nil, api.ErrArg}, {weak, math.MinInt, nil, api.ErrArg}, {weak, 0, long, api.ErrLong},
	} {
		is, e1 := derive.Has(x.c, x.nt, x.word...)
		begins, e2 := derive.Begins(x.c, x.nt, x.word...)
		tree, e3 := derive.Tree(x.c, x.nt, x.word...)
		right, e4 := derive.Right(x.c, x.nt, x.word, make([]api.Step, 4097))
		who, e5 := derive.Who(x.c, x.word...)
		if e1 != x.e || e2 != x.e || e3 != x.e || e4 != x.e || is || begins != nil || tree != nil || right {
			t.Error(x, e1, e2, e3, e4)
		}
		if want := x.e; want == api.ErrArg {
			if _, e := derive.Who(x.c, x.word...); len(x.word) > 64 != (e == api.ErrLong) {
				t.Error(e)
			}
		} else if e5 != want || who != nil {
			t.Error(x, who, e5)
		}
	}
	if is, e := derive.Right(weak, 0, nil, make([]api.Step, 4097)); is || e != api.ErrLong {
		t.Error(is, e)
	}
	if is, e := derive.Right(weak, 0, nil, make([]api.Step, 4096)); is || e != api.OK {
		t.Error(is, e)
	}
}

// fewest is how many steps the shortest derivation of a word has, by plain
// rounds over all pieces; 0, if there is none.
func fewest(c api.Cnf, nt int, word []int) int {
	type piece struct{ nt, from, to int }
	known := map[piece]int{}
	for more := true; more; {
		more = false
		for _, p := range c.Prods {
			for from := range len(word) + 1 {
				for to := from; to <= len(word); to++ {
					n := 0
					switch {
					case len(p.Body) == 0 && from == to, len(p.Body) == 1 && to == from+1 && word[from] == p.Body[0].N:
						n = 1
					case len(p.Body) == 2:
						for cut := from; cut <= to; cut++ {
							a, b := known[piece{p.Body[0].N, from, cut}], known[piece{p.Body[1].N, cut, to}]
							if a > 0 && b > 0 && (n == 0 || a+b+1 < n) {
								n = a + b + 1
							}
						}
					}
					if old := known[piece{p.Head, from, to}]; n > 0 && (old == 0 || n < old) {
						known[piece{p.Head, from, to}] = n
						more = true
					}
				}
			}
		}
	}
	return known[piece{nt, 0, len(word)}]
}

// P15.2, P15.3
func TestTree(t *testing.T) {
	words := sample.Words([]string{"0", "1"}, 4)
	n := sample.Noise(2)
	for range 250 {
		c := n.Weak(4+n.Below(14), 1+n.Below(4), 2)
		for range 8 {
			w := numbers(words[n.Below(len(words))])
			nt := n.Below(c.Nts)
			want := fewest(c, nt, w)
			l, e := derive.Tree(c, nt, w...)
			if want == 0 {
				if l != nil || e != api.ErrNone {
					t.Fatal(c, nt, w, l, e)
				}
				continue
			}
			if e != api.OK || len(l) != want {
				t.Fatal(c, nt, w, l, want, e)
			}
			if is, e := derive.Right(c, nt, w, l); !is || e != api.OK {
				t.Fatal(c, nt, w, l, e)
			}
			if !plainRight(c, nt, w, l) {
				t.Fatal(c, nt, w, l)
			}
			noneInItself(t, c, l)
			spoilt(t, &n, c, nt, w, l)
		}
	}
}

// noneInItself: no piece stands within itself by the same nonterminal.
func noneInItself(t *testing.T, c api.Cnf, l []api.Step) {
	t.Helper()
	for i := range l {
		open := 1
		for k := i; open > 0; k++ {
			if k > i && c.Prods[l[k].Prod].Head == c.Prods[l[i].Prod].Head && l[k].From == l[i].From && l[k].To == l[i].To {
				t.Fatal(c, l)
			}
			open += len(c.Prods[l[k].Prod].Body)/2*2 - 1
		}
	}
}

// plainRight reads a derivation as the chapter has it.
func plainRight(c api.Cnf, nt int, word []int, l []api.Step) bool {
	at := 0
	var read func(nt, from int) (int, bool)
	read = func(nt, from int) (int, bool) {
		if at == len(l) {
			return 0, false
		}
		s := l[at]
		at++
		if s.Prod < 0 || s.Prod >= len(c.Prods) || c.Prods[s.Prod].Head != nt || s.From != from {
			return 0, false
		}
		to := from
		switch body := c.Prods[s.Prod].Body; len(body) {
		case 1:
			to++
			if from >= len(word) || word[from] != body[0].N {
				return 0, false
			}
		case 2:
			cut, is := read(body[0].N, from)
			if !is {
				return 0, false
			}
			if to, is = read(body[1].N, cut); !is {
				return 0, false
			}
		}
		return to, s.To == to
	}
	to, is := read(nt, 0)
	return is && to == len(word) && at == len(l)
}

// spoilt holds Right against lists that are one change away.
func spoilt(t *testing.T, n *sample.Noise, c api.Cnf, nt int, w []int, l []api.Step) {
	t.Helper()
	for range 12 {
		k := slices.Clone(l)
		i := n.Below(len(k))
		switch n.Below(6) {
		case 0:
			k[i].From += n.Below(3) - 1
		case 1:
			k[i].To += n.Below(3) - 1
		case 2:
			k[i].Prod = n.Below(len(c.Prods)+2) - 1
		case 3:
			k = slices.Delete(k, i, i+1)
		case 4:
			k = slices.Insert(k, i, k[n.Below(len(k))])
		case 5:
			k[i].From, k[i].To = math.MaxInt, math.MinInt
		}
		if is, e := derive.Right(c, nt, w, k); e != api.OK || is != plainRight(c, nt, w, k) {
			t.Fatal(c, nt, w, k, is, e)
		}
	}
}

func TestManySteps(t *testing.T) {
	// The derivation of nothing by 0 has 2^k - 1 steps.
	double := func(k int) api.Cnf {
		c := cnf(k, prod(k-1))
		for i := range k - 1 {
			c.Prods = append(c.Prods, prod(i, nt(i+1), nt(i+1)))
		}
		return c
	}
	l, e := derive.Tree(double(12), 0)
	if e != api.OK || len(l) != 4095 {
		t.Error(len(l), e)
	}
	if is, e := derive.Right(double(12), 0, nil, l); !is || e != api.OK {
		t.Error(is, e)
	}
	// All derivations have an odd number of steps: the next one has 4097.
	c := double(12)
	c.Nts = 14
	c.Prods = append(c.Prods, prod(12, nt(0), nt(11)), prod(13, nt(0), nt(0)))
	for k, want := range map[int]api.Errno{12: api.ErrSteps, 13: api.ErrSteps, 0: api.OK} {
		if l, e := derive.Tree(c, k); e != want || e != api.OK && l != nil {
			t.Error(k, len(l), e)
		}
	}
	for _, k := range []int{13, 30, 500, 1024} {
		if l, e := derive.Tree(double(k), 0); l != nil || e != api.ErrSteps {
			t.Error(k, len(l), e)
		}
		if is, e := derive.Has(double(k), 0); !is || e != api.OK {
			t.Error(k, is, e)
		}
	}
}

// What is short may be known later than what is long, and than what is made of
// that.
func TestShortButLate(t *testing.T) {
	// 0 of nothing by doubling: 1 of 2 2 and so on, 5 of nothing; and by a chain
	// that is one longer: 10 of 11 5, 11 of 12 5 and so on.
	c := cnf(20, prod(0, nt(1), nt(1)), prod(5))
	for i := 1; i < 5; i++ {
		c.Prods = append(c.Prods, prod(i, nt(i+1), nt(i+1)))
	}
	c.Prods = append(c.Prods, prod(1, nt(10), nt(5)), prod(16))
	for i := 10; i < 16; i++ {
		c.Prods = append(c.Prods, prod(i, nt(i+1), nt(5)))
	}
	want := fewest(c, 0, nil)
	if l, e := derive.Tree(c, 0); len(l) != want || want != 2*(2+2*6+1)+1 || e != api.OK {
		t.Error(len(l), want, e)
	}
}

func TestWhatFollows(t *testing.T) {
	n := sample.Noise(5)
	words := sample.Words([]string{"0", "1"}, 2)
	for range 100 {
		c := n.Weak(4+n.Below(12), 1+n.Below(4), 2)
		empty, _ := least.Empty(c)
		short, _ := least.Shortest(c)
		for i := range c.Nts {
			if is, _ := derive.Has(c, i); is != empty[i] {
				t.Fatal(c, i)
			}
			for _, w := range words {
				if is, _ := derive.Has(c, i, numbers(w)...); is && (short[i] < 0 || len(w) < short[i]) {
					t.Fatal(c, i, w)
				}
			}
		}
		for _, p := range c.Prods {
			for _, u := range words {
				v := words[n.Below(len(words))]
				if len(p.Body) < 2 {
					continue
				}
				a, _ := derive.Has(c, p.Body[0].N, numbers(u)...)
				b, _ := derive.Has(c, p.Body[1].N, numbers(v)...)
				both, _ := derive.Has(c, p.Head, numbers(slices.Concat(u, v))...)
				if a && b && !both {
					t.Fatal(c, p, u, v)
				}
			}
		}
	}
}

func TestLongWords(t *testing.T) {
	g, _, e := bnf.Parse("S = S S | a S b | T* | % ; T = S a | b | T T ; U = (S | T)* " + strings.Repeat("(a | b) ", 20) + ";")
	if e != api.OK {
		t.Fatal(e)
	}
	c, _ := wcnf.New(g)
	word := slices.Repeat([]int{0, 1, 1, 0}, 16)
	if is, e := derive.Has(c, 2, word...); !is || e != api.OK {
		t.Error(is, e)
	}
	l, e := derive.Tree(c, 2, word...)
	if e != api.OK {
		t.Fatal(e)
	}
	if is, e := derive.Right(c, 2, word, l); !is || e != api.OK {
		t.Error(is, e)
	}
	ab := cnf(4, example().Prods...)
	word = append(slices.Repeat([]int{0}, 32), slices.Repeat([]int{1}, 32)...)
	if l, e := derive.Tree(ab, 0, word...); len(l) != 1+32*4 || e != api.OK {
		t.Error(len(l), e)
	}
	if l, e := derive.Begins(ab, 0, word...); !slices.Equal(l, []int{0, 64}) || e != api.OK {
		t.Error(l, e)
	}
}
