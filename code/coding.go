package code

import (
	"strconv"
	"strings"

	"ostracon/api"
)

// coding is one of the codes.
type coding interface {
	// between is what stands between two groups of a text.
	between() byte
	// write returns an item of a valid text in which the code lacks nothing.
	write(l api.List, x item) string
	// read reads a group.
	read(r *reader) item
	// lacks reports whether the code cannot say something of a node.
	lacks(n api.Node) bool
}

type lineCode struct{}

type treeCode struct{}

func codingOf(kind int) (c coding, ok bool) {
	switch kind {
	case Line:
		return lineCode{}, true
	case Tree:
		return treeCode{}, true
	}
	return nil, false
}

// writeText returns a valid text in a code that lacks nothing of it.
func writeText(c coding, l api.List, t api.Text) string {
	var parts []string
	for _, x := range grow(t.Nodes) {
		parts = append(parts, c.write(l, x))
	}
	return strings.Join(parts, string(c.between()))
}

// stateMarks has the sign of each state in the line code.
var stateMarks = [...]string{api.Damaged: "#", api.Hatched: "=", api.Usurped: "!"}

// words has the word of each kind in the tree code.
var words = [...]string{
	api.Beside: "beside",
	api.Above:  "above",
	api.Over:   "over",
	api.Ring:   "ring",
	api.Honour: "honour",
}

// frame is what the line code writes around and between the kids of a node.
type frame struct {
	open, between, close string
}

var frames = [...]frame{
	api.Beside: {between: "*"},
	api.Above:  {between: ":"},
	api.Over:   {between: "&"},
	api.Ring:   {"<", "-", ">"},
	api.Honour: {"[", ";", "]"},
}

func (lineCode) between() byte { return '-' }

func (lineCode) lacks(api.Node) bool { return false }

func (c lineCode) write(l api.List, x item) string {
	switch x.node.Kind {
	case api.Glyph:
		return writeGlyph(l, x.node)
	case api.Gap:
		return "{" + strconv.Itoa(x.node.Min) + "-" + strconv.Itoa(x.node.Max) + "}"
	}
	f := frames[x.node.Kind]
	var parts []string
	for _, k := range x.kids {
		part := c.write(l, k)
		if x.node.Kind == api.Beside && k.node.Kind == api.Above {
			part = "(" + part + ")"
		}
		parts = append(parts, part)
	}
	return f.open + strings.Join(parts, f.between) + f.close
}

func (treeCode) between() byte { return ' ' }

func (treeCode) lacks(n api.Node) bool {
	return n.State != api.Whole || n.Min != n.Max
}

func (c treeCode) write(l api.List, x item) string {
	switch x.node.Kind {
	case api.Glyph:
		return writeGlyph(l, x.node)
	case api.Gap:
		return strings.Repeat("?", x.node.Max)
	}
	out := "(" + words[x.node.Kind]
	for _, k := range x.kids {
		out += " " + c.write(l, k)
	}
	return out + ")"
}

func writeGlyph(l api.List, n api.Node) string {
	out := l.Signs[n.Sign].Code
	if n.Mirror {
		out += `\`
	}
	if n.Turn != 0 {
		out += "/" + strconv.Itoa(n.Turn)
	}
	return out + stateMarks[n.State]
}
