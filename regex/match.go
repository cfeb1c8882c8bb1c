package regex

import (
	"math/bits"

	"byway/api"
)

// places is a set of places of a word, from 0 to MaxPath, as bits.
type places [api.MaxPath/64 + 1]uint64

// spans says of each place to which places a tree's words lead from there.
type spans []places

// Match: is a word one of the tree's?
func Match(l []api.Node, word []string) (bool, api.Errno) {
	if len(word) > api.MaxPath {
		return false, api.ErrLong
	}
	if e := Check(l); e != api.OK {
		return false, e
	}
	whole := fold(l, func(n api.Node, kids []spans) spans { return led(n, kids, word) })
	return whole[0].has(len(word)), api.OK
}

func (s *places) put(i int) { s[i/64] |= 1 << (i % 64) }

func (s places) has(i int) bool { return s[i/64]>>(i%64)&1 == 1 }

// led are the spans of a node over its kids' spans.
func led(n api.Node, kids []spans, word []string) spans {
	here := make(spans, len(word)+1)
	for i := range here {
		here[i].put(i)
	}
	switch n.Kind {
	case api.KindSeq:
		for _, k := range kids {
			here = here.then(k)
		}
	case api.KindAlt:
		here = make(spans, len(word)+1)
		for _, k := range kids {
			here = here.or(k)
		}
	case api.KindStar:
		here = here.or(kids[0].closed())
	case api.KindPlus:
		here = kids[0].closed()
	case api.KindOpt:
		here = here.or(kids[0])
	case api.KindName, api.KindLabel:
		here = named(n.Name, word)
	}
	return here
}

func named(name string, word []string) spans {
	s := make(spans, len(word)+1)
	for i, w := range word {
		if w == name {
			s[i].put(i + 1)
		}
	}
	return s
}

// then: over one's words, and then over another one's.
func (s spans) then(o spans) spans {
	both := make(spans, len(s))
	for i, set := range s {
		for k, w := range set {
			for ; w != 0; w &= w - 1 {
				both[i] = both[i].or(o[64*k+bits.TrailingZeros64(w)])
			}
		}
	}
	return both
}

func (s places) or(o places) places {
	for k, w := range o {
		s[k] |= w
	}
	return s
}

func (s spans) or(o spans) spans {
	both := make(spans, len(s))
	for i, set := range s {
		both[i] = set.or(o[i])
	}
	return both
}

// closed: over one word or more, one behind the other.
func (s spans) closed() spans {
	// Each round doubles how many words are gone over at most, and so many of
	// them as the word has names are enough.
	for n := 1; n < len(s); n *= 2 {
		s = s.or(s.then(s))
	}
	return s
}
