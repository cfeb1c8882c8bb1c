package regex

import (
	"slices"

	"byway/api"
	"byway/marks"
)

// parser stands in a text; end is where its marks end.
type parser struct {
	left []api.Mark
	end  int
}

// wrong is where a text goes on as no expression does.
type wrong struct {
	at int
}

// Parse: the tree of a text that Check takes.
func Parse(text string) ([]api.Node, int, api.Errno) {
	l, at, e := Read(text)
	if e != api.OK {
		return nil, at, e
	}
	for _, name := range Names(l) {
		if len(name) > api.MaxName {
			return nil, 0, api.ErrName
		}
	}
	if e := checkSize(l); e != api.OK {
		return nil, 0, e
	}
	return l, 0, api.OK
}

// Read: the tree of a text, of whatever size.
func Read(text string) ([]api.Node, int, api.Errno) {
	if len(text) > api.MaxText {
		return nil, 0, api.ErrLong
	}
	p := &parser{end: len(text)}
	if _, at, e := marks.Scan(text); e != api.OK {
		p.end = at
	}
	p.left = slices.Collect(marks.All(text))
	l, at, e := p.whole()
	if e == api.OK && p.end < len(text) {
		return nil, p.end, api.ErrSyntax
	}
	return l, at, e
}

// whole is the tree of all marks, or where the first wrong one stands.
func (p *parser) whole() (l []api.Node, at int, e api.Errno) {
	defer func() {
		switch r := recover().(type) {
		case nil:
		case wrong:
			l, at, e = nil, r.at, api.ErrSyntax
		default:
			panic(r)
		}
	}()
	l = p.expression()
	if len(p.left) > 0 {
		p.giveUp()
	}
	return l, 0, api.OK
}

func (p *parser) giveUp() {
	if len(p.left) > 0 {
		panic(wrong{p.left[0].At})
	}
	panic(wrong{p.end})
}

// next is the kind of the next mark, 0 if there is none.
func (p *parser) next() api.MarkKind {
	if len(p.left) == 0 {
		return 0
	}
	return p.left[0].Kind
}

func (p *parser) take() string {
	m := p.left[0]
	p.left = p.left[1:]
	return m.Text
}

func (p *parser) expression() []api.Node {
	parts := [][]api.Node{p.part()}
	for p.next() == api.MarkBar {
		p.take()
		parts = append(parts, p.part())
	}
	return group(api.KindAlt, parts)
}

func (p *parser) part() []api.Node {
	units := [][]api.Node{p.unit()}
	for p.atAtom() {
		units = append(units, p.unit())
	}
	return group(api.KindSeq, units)
}

// group is a node with some trees as kids, or the one tree itself.
func group(kind api.Kind, l [][]api.Node) []api.Node {
	if len(l) == 1 {
		return l[0]
	}
	return over(kind, l...)
}

func over(kind api.Kind, kids ...[]api.Node) []api.Node {
	return slices.Concat([]api.Node{{Kind: kind, Kids: len(kids)}}, slices.Concat(kids...))
}

func (p *parser) atAtom() bool {
	switch p.next() {
	case api.MarkUpper, api.MarkLower, api.MarkEmpty, api.MarkOpen:
		return true
	}
	return false
}

func (p *parser) unit() []api.Node {
	// The signs behind an atom stand ahead of it in the list, the last one
	// first: so they are gathered, and put down together.
	atom := p.atom()
	var signs []api.Node
	for {
		kind := signKind(p.next())
		if kind == 0 {
			break
		}
		p.take()
		signs = append(signs, api.Node{Kind: kind, Kids: 1})
	}
	slices.Reverse(signs)
	return slices.Concat(signs, atom)
}

func signKind(kind api.MarkKind) api.Kind {
	switch kind {
	case api.MarkStar:
		return api.KindStar
	case api.MarkPlus:
		return api.KindPlus
	case api.MarkOpt:
		return api.KindOpt
	}
	return 0
}

func (p *parser) atom() []api.Node {
	switch p.next() {
	case api.MarkUpper:
		return []api.Node{{Kind: api.KindName, Name: p.take()}}
	case api.MarkLower:
		return []api.Node{{Kind: api.KindLabel, Name: p.take()}}
	case api.MarkEmpty:
		p.take()
		return []api.Node{{Kind: api.KindEmpty}}
	case api.MarkOpen:
		p.take()
		l := p.expression()
		if p.next() != api.MarkClose {
			p.giveUp()
		}
		p.take()
		return l
	}
	p.giveUp()
	return nil
}
