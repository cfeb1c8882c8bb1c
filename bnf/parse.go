package bnf

import (
	"slices"

	"byway/api"
	"byway/marks"
	"byway/regex"
)

// parser stands in a text; end is where its marks end.
type parser struct {
	text string
	left []api.Mark
	end  int
}

// wrong is where a text goes on as no grammar does.
type wrong struct {
	at int
}

// Parse: the grammar of a text.
func Parse(text string) ([]api.Rule, int, api.Errno) {
	if len(text) > api.MaxText {
		return nil, 0, api.ErrLong
	}
	p := &parser{text, slices.Collect(marks.All(text)), len(text)}
	if _, at, e := marks.Scan(text); e != api.OK {
		p.end = at
	}
	g, at, e := p.whole()
	if e != api.OK {
		return nil, at, e
	}
	if hasLongWord(text) {
		return nil, 0, api.ErrName
	}
	if e := Check(g); e != api.OK {
		return nil, 0, e
	}
	return g, 0, api.OK
}

// hasLongWord: has a text, all of it marks, a word that is too long for a name?
func hasLongWord(text string) bool {
	for m := range marks.All(text) {
		if len(m.Text) > api.MaxName {
			return true
		}
	}
	return false
}

// whole are all rules, or where the first wrong mark stands.
func (p *parser) whole() (g []api.Rule, at int, e api.Errno) {
	defer func() {
		switch r := recover().(type) {
		case nil:
		case wrong:
			g, at, e = nil, r.at, api.ErrSyntax
		default:
			panic(r)
		}
	}()
	g = append(g, p.rule())
	for len(p.left) > 0 || p.end < len(p.text) {
		g = append(g, p.rule())
	}
	return g, 0, api.OK
}

func (p *parser) rule() api.Rule {
	head := p.take(api.MarkUpper)
	is := p.take(api.MarkIs)
	body := p.body(is.At + len(is.Text))
	p.take(api.MarkEnd)
	return api.Rule{Head: head.Text, Body: body}
}

// take is the next mark, if it is of a kind.
func (p *parser) take(kind api.MarkKind) api.Mark {
	if len(p.left) == 0 {
		panic(wrong{p.end})
	}
	m := p.left[0]
	if m.Kind != kind {
		panic(wrong{m.At})
	}
	p.left = p.left[1:]
	return m
}

// body is the tree from a place on, up to where its rule ends.
func (p *parser) body(from int) []api.Node {
	to := len(p.text)
	for len(p.left) > 0 {
		if p.left[0].Kind == api.MarkEnd {
			to = p.left[0].At
			break
		}
		p.left = p.left[1:]
	}
	l, at, e := regex.Read(p.text[from:to])
	if e != api.OK {
		panic(wrong{from + at})
	}
	return l
}
