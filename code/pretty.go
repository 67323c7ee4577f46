package code

import (
	"strings"

	"ostracon/api"
	"ostracon/groups"
)

// indent is what stands before a node for each unit of its Depth.
const indent = "  "

// Pretty returns the tree of a text as lines.
func Pretty(l api.List, t api.Text) (string, api.Errno) {
	if e := groups.Check(l, t); e != api.OK {
		return "", e
	}
	var out strings.Builder
	for _, n := range t.Nodes {
		out.WriteString(strings.Repeat(indent, n.Depth) + prettyNode(l, n) + "\n")
	}
	return out.String(), api.OK
}

func prettyNode(l api.List, n api.Node) string {
	if n.Kind == api.Glyph || n.Kind == api.Gap {
		return lineCode{}.write(l, item{node: n})
	}
	return words[n.Kind]
}

// ParsePretty reads the tree of a text from lines.
func ParsePretty(l api.List, s string) (api.Text, api.Errno) {
	if e := checkInput(l, s); e != api.OK {
		return api.Text{}, e
	}
	var t api.Text
	r := newReader(lineCode{}, l, s)
	ok := r.attempt(func() { t.Nodes = r.rows() })
	if !ok || r.unknown >= 0 || groups.Check(l, t) != api.OK {
		return api.Text{}, api.ErrForm
	}
	return t, api.OK
}

func (r *reader) rows() []api.Node {
	var nodes []api.Node
	for !r.ended() {
		nodes = append(nodes, r.row())
	}
	return nodes
}

// row reads the line of a node.
func (r *reader) row() api.Node {
	depth := 0
	for r.next() == indent[0] {
		r.expect(indent)
		depth++
	}
	n := r.node()
	n.Depth = depth
	r.expect("\n")
	return n
}

func (r *reader) node() api.Node {
	if isSmall(r.next()) {
		return api.Node{Kind: r.word()}
	}
	return r.leaf().node
}
