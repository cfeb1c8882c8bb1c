package sample

import (
	"maps"
	"strconv"

	"byway/api"
)

// Language is a set of words, each as a text (with a blank behind each label),
// with how many labels it has.
type Language map[string]int

func empty() Language { return Language{"": 0} }

func (l Language) join(o Language) Language {
	both := maps.Clone(l)
	maps.Copy(both, o)
	return both
}

// then are the words of one language with those of another one behind them.
func (l Language) then(o Language, most int) Language {
	both := Language{}
	for a, n := range l {
		for b, k := range o {
			if n+k <= most {
				both[a+b] = n + k
			}
		}
	}
	return both
}

func (l Language) repeated(most int) Language {
	all := l
	for {
		next := all.join(all.then(l, most))
		if len(next) == len(all) {
			return all
		}
		all = next
	}
}

// Same: have two languages the same words?
func (l Language) Same(o Language) bool { return maps.Equal(l, o) }

// Languages are the words with at most so many labels of a grammar's
// nonterminals, reckoned as its rules say them.
func Languages(g []api.Rule, most int) map[string]Language {
	known := map[string]Language{}
	for more := true; more; {
		more = false
		for _, r := range g {
			words, _ := treeWords(r.Body, known, most)
			before := len(known[r.Head])
			if known[r.Head] == nil {
				known[r.Head] = Language{}
			}
			known[r.Head] = known[r.Head].join(words)
			more = more || len(known[r.Head]) > before
		}
	}
	return known
}

// treeWords are the words of the first tree of a list, and what is behind it.
func treeWords(l []api.Node, known map[string]Language, most int) (Language, []api.Node) {
	n, rest := l[0], l[1:]
	var kids []Language
	for range n.Kids {
		var k Language
		k, rest = treeWords(rest, known, most)
		kids = append(kids, k)
	}
	switch n.Kind {
	case api.KindName:
		return known[n.Name], rest
	case api.KindLabel:
		return Language{n.Name + " ": 1}, rest
	case api.KindSeq:
		whole := empty()
		for _, k := range kids {
			whole = whole.then(k, most)
		}
		return whole, rest
	case api.KindAlt:
		whole := Language{}
		for _, k := range kids {
			whole = whole.join(k)
		}
		return whole, rest
	case api.KindStar:
		return empty().join(kids[0].orNone().repeated(most)), rest
	case api.KindPlus:
		return kids[0].orNone().repeated(most), rest
	case api.KindOpt:
		return empty().join(kids[0]), rest
	}
	return empty(), rest
}

func (l Language) orNone() Language {
	if l == nil {
		return Language{}
	}
	return l
}

// Derived are the words with at most so many labels of the nonterminals of
// productions, the labels by their names.
func Derived(c api.Cnf, labels []string, most int) []Language {
	known := make([]Language, c.Nts)
	for i := range known {
		known[i] = Language{}
	}
	for more := true; more; {
		more = false
		for _, p := range c.Prods {
			words := empty()
			for _, s := range p.Body {
				if s.Label {
					words = words.then(Language{Label(labels, s.N) + " ": 1}, most)
				} else {
					words = words.then(known[s.N], most)
				}
			}
			before := len(known[p.Head])
			known[p.Head] = known[p.Head].join(words)
			more = more || len(known[p.Head]) > before
		}
	}
	return known
}

// Label is the name of a label's number; the number, if it has none.
func Label(labels []string, n int) string {
	if n < len(labels) {
		return labels[n]
	}
	return strconv.Itoa(n)
}

// Prods are so many productions, of nonterminals and labels below these
// numbers, with bodies of at most so many symbols.
func (n *Noise) Prods(count, nts, labels, most int) api.Cnf {
	c := api.Cnf{Nts: nts}
	for range count {
		p := api.Prod{Head: n.Below(nts)}
		for range n.Below(most + 1) {
			if labels > 0 && n.Below(2) == 0 {
				p.Body = append(p.Body, api.Sym{Label: true, N: n.Below(labels)})
			} else {
				p.Body = append(p.Body, api.Sym{N: n.Below(nts)})
			}
		}
		c.Prods = append(c.Prods, p)
	}
	return c
}

// Weak are so many weak productions, of nonterminals and labels below these
// numbers.
func (n *Noise) Weak(count, nts, labels int) api.Cnf {
	c := api.Cnf{Nts: nts}
	for range count {
		p := api.Prod{Head: n.Below(nts)}
		switch n.Below(6) {
		case 0:
		case 1, 2:
			p.Body = []api.Sym{{Label: true, N: n.Below(labels)}}
		default:
			p.Body = []api.Sym{{N: n.Below(nts)}, {N: n.Below(nts)}}
		}
		c.Prods = append(c.Prods, p)
	}
	return c
}
