package gss_test

import (
	"math"
	"slices"
	"testing"

	"byway/api"
	"byway/gss"
	"byway/sample"
)

func frame(n, back int) api.Frame { return api.Frame{Node: n, Back: back} }

func push(t *testing.T, s *gss.Stack, n int, f api.Frame, want []int, fresh bool) {
	t.Helper()
	if l, is, e := s.Push(n, f); !slices.Equal(l, want) || is != fresh || e != api.OK {
		t.Error(n, f, l, is, e)
	}
}

func pop(t *testing.T, s *gss.Stack, n, at int, want []api.Frame, fresh bool) {
	t.Helper()
	if l, is, e := s.Pop(n, at); !slices.Equal(l, want) || is != fresh || e != api.OK {
		t.Error(n, at, l, is, e)
	}
}

func node(t *testing.T, s *gss.Stack, mark, place, want int, fresh bool) {
	t.Helper()
	if n, is := s.Node(mark, place); n != want || is != fresh {
		t.Error(mark, place, n, is)
	}
}

type edge struct {
	n int
	f api.Frame
}

func all(s *gss.Stack) []edge {
	var l []edge
	for n, f := range s.All() {
		l = append(l, edge{n, f})
	}
	return l
}

// The chapter's examples.
func TestExamples(t *testing.T) {
	s := gss.New()
	node(t, s, 7, 0, 0, true)
	node(t, s, 7, 1, 1, true)
	node(t, s, 7, 0, 0, false)
	push(t, s, 1, frame(0, 5), nil, true)
	pop(t, s, 1, 3, []api.Frame{frame(0, 5)}, true)
	push(t, s, 1, frame(0, 5), nil, false)
	push(t, s, 1, frame(1, 5), []int{3}, true)
	pop(t, s, 1, 3, nil, false)
	pop(t, s, 1, 4, []api.Frame{frame(0, 5), frame(1, 5)}, true)
	if mark, place, e := s.At(1); mark != 7 || place != 1 || e != api.OK {
		t.Error(mark, place, e)
	}
	if l, e := s.Pops(1); !slices.Equal(l, []int{3, 4}) || e != api.OK {
		t.Error(l, e)
	}
	if l, e := s.Frames(1); !slices.Equal(l, []api.Frame{frame(0, 5), frame(1, 5)}) || e != api.OK {
		t.Error(l, e)
	}
	if l := all(s); !slices.Equal(l, []edge{{1, frame(0, 5)}, {1, frame(1, 5)}}) || s.Len() != 2 {
		t.Error(l, s.Len())
	}
	wrong(t, s, api.ErrNone, 2, -1, math.MinInt, math.MaxInt)
	if l, e := s.Frames(0); len(l) != 0 || e != api.OK {
		t.Error(l, e)
	}
}

// wrong asks for nodes that are none.
func wrong(t *testing.T, s *gss.Stack, want api.Errno, nodes ...int) {
	t.Helper()
	before := all(s)
	for _, n := range nodes {
		l1, is1, e1 := s.Push(n, frame(0, 0))
		l2, is2, e2 := s.Push(0, frame(n, 0))
		l3, is3, e3 := s.Pop(n, 0)
		mark, place, e4 := s.At(n)
		l5, e5 := s.Frames(n)
		l6, e6 := s.Pops(n)
		for i, e := range []api.Errno{e1, e2, e3, e4, e5, e6} {
			if e != want {
				t.Error(n, i, e)
			}
		}
		if l1 != nil || l2 != nil || l3 != nil || l5 != nil || l6 != nil || is1 || is2 || is3 || mark != 0 || place != 0 {
			t.Error(n, "an answer beside an error")
		}
	}
	if !slices.Equal(all(s), before) {
		t.Error("what is refused has changed something")
	}
}

func TestNil(t *testing.T) {
	for _, s := range []*gss.Stack{nil, new(gss.Stack)} {
		wrong(t, s, api.ErrNil, 0, -1)
		node(t, s, 1, 2, 0, false)
		if s.Len() != 0 {
			t.Error(s.Len())
		}
	}
	wrong(t, gss.New(), api.ErrNone, 0)
}

// P20.1
func TestNodes(t *testing.T) {
	s := gss.New()
	numbers := []int{0, -1, 5, math.MinInt, math.MaxInt}
	count := 0
	for _, mark := range numbers {
		for _, place := range numbers {
			node(t, s, mark, place, count, true)
			node(t, s, mark, place, count, false)
			if m, p, e := s.At(count); m != mark || p != place || e != api.OK {
				t.Error(m, p, e)
			}
			count++
		}
	}
	if s.Len() != count {
		t.Error(s.Len())
	}
}

// P20.2, P20.3, P20.4, P20.5
func TestPairs(t *testing.T) {
	n := sample.Noise(1)
	for range 200 {
		s := gss.New()
		count := 1 + n.Below(4)
		for i := range count {
			s.Node(i, 9)
		}
		frames, pops := make([][]api.Frame, count), make([][]int, count)
		met := map[[4]int]int{}
		for range 60 {
			at := n.Below(count)
			if n.Below(2) == 0 {
				f := frame(n.Below(count), n.Below(3)-1)
				fresh := !slices.Contains(frames[at], f)
				l, is, e := s.Push(at, f)
				if is != fresh || e != api.OK || fresh && !slices.Equal(l, pops[at]) || !fresh && l != nil {
					t.Fatal(l, is, e)
				}
				if fresh {
					frames[at] = append(frames[at], f)
				}
				for _, p := range l {
					met[[4]int{at, f.Node, f.Back, p}]++
				}
				continue
			}
			p := n.Below(5) - 2
			fresh := !slices.Contains(pops[at], p)
			l, is, e := s.Pop(at, p)
			if is != fresh || e != api.OK || fresh && !slices.Equal(l, frames[at]) || !fresh && l != nil {
				t.Fatal(l, is, e)
			}
			if fresh {
				pops[at] = append(pops[at], p)
			}
			for _, f := range l {
				met[[4]int{at, f.Node, f.Back, p}]++
			}
		}
		holds(t, s, frames, pops, met)
	}
}

func holds(t *testing.T, s *gss.Stack, frames [][]api.Frame, pops [][]int, met map[[4]int]int) {
	t.Helper()
	pairs := 0
	var want []edge
	for at := range frames {
		l, e1 := s.Frames(at)
		k, e2 := s.Pops(at)
		if e1 != api.OK || e2 != api.OK || !slices.Equal(l, frames[at]) || !slices.Equal(k, pops[at]) {
			t.Fatal(l, k)
		}
		for _, f := range l {
			want = append(want, edge{at, f})
			for _, p := range k {
				pairs++
				if met[[4]int{at, f.Node, f.Back, p}] != 1 {
					t.Fatal(at, f, p)
				}
			}
		}
	}
	if pairs != len(met) || !slices.Equal(all(s), want) {
		t.Fatal(pairs, len(met))
	}
}

func TestApart(t *testing.T) {
	s := gss.New()
	s.Node(0, 0)
	s.Push(0, frame(0, 1))
	s.Push(0, frame(0, 2))
	seq := s.All()
	l, _, _ := s.Pop(0, 4)
	pops, _, _ := s.Push(0, frame(0, 3))
	l[0] = frame(9, 9)
	_ = append(l, frame(8, 8))
	pops[0] = 99
	_ = append(pops, 98)
	s.Pop(0, 5)
	s.Push(0, frame(0, 4))
	for range 2 {
		var got []api.Frame
		for _, f := range seq {
			got = append(got, f)
		}
		if !slices.Equal(got, []api.Frame{frame(0, 1), frame(0, 2)}) {
			t.Error(got)
		}
		for range seq {
			break
		}
	}
	f, _ := s.Frames(0)
	p, _ := s.Pops(0)
	if !slices.Equal(f, []api.Frame{frame(0, 1), frame(0, 2), frame(0, 3), frame(0, 4)}) || !slices.Equal(p, []int{4, 5}) {
		t.Error(f, p)
	}
}
