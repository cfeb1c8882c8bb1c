package edges

import (
	"slices"

	"byway/api"
	"byway/marks"
)

// Parse: the graph of a text.
func Parse(text string) (api.Edges, int, api.Errno) {
	if len(text) > api.MaxText {
		return api.Edges{}, 0, api.ErrLong
	}
	end := len(text)
	if _, at, e := marks.Scan(text); e != api.OK {
		end = at
	}
	nodes, edges, at := read(slices.Collect(marks.All(text)), end)
	if at < 0 && end < len(text) {
		at = end
	}
	if at >= 0 {
		return api.Edges{}, at, api.ErrSyntax
	}
	g, e := Of(nodes, edges)
	return g, 0, e
}

// read are the nodes and edges that marks tell, and -1; or the first wrong
// place, which is end where the marks are cut short.
func read(l []api.Mark, end int) (nodes []string, edges []api.Edge, at int) {
	i := 0
statement:
	if i == len(l) {
		return nodes, edges, -1
	}
	if !isWord(l[i].Kind) {
		return nil, nil, l[i].At
	}
	i++
	if i == len(l) {
		return nil, nil, end
	}
	if l[i].Kind == api.MarkLower {
		goto label
	}
	if l[i].Kind != api.MarkEnd {
		return nil, nil, l[i].At
	}
	nodes = append(nodes, l[i-1].Text)
	i++
	goto statement
label:
	i++
	if i == len(l) {
		return nil, nil, end
	}
	if !isWord(l[i].Kind) {
		return nil, nil, l[i].At
	}
	i++
	if i == len(l) {
		return nil, nil, end
	}
	if l[i].Kind != api.MarkEnd {
		return nil, nil, l[i].At
	}
	edges = append(edges, api.Edge{From: l[i-3].Text, Label: l[i-2].Text, To: l[i-1].Text})
	i++
	goto statement
}

func isWord(kind api.MarkKind) bool {
	return kind == api.MarkUpper || kind == api.MarkLower || kind == api.MarkOther
}
