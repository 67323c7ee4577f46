package groups

import (
	"ostracon/api"
	"ostracon/signs"
)

const maxTurn = 3

// Check returns the first error of a text.
func Check(l api.List, t api.Text) api.Errno {
	if e := signs.Check(l); e != api.OK {
		return e
	}
	if len(t.Nodes) > api.MaxNodes {
		return api.ErrMany
	}
	for i := range t.Nodes {
		if e := checkNode(l, t.Nodes, i); e != api.OK {
			return e
		}
	}
	for i := range t.Nodes {
		if !kidsFit(t.Nodes, i) {
			return api.ErrNode
		}
	}
	return api.OK
}

// checkNode returns the first error of a node but for those of its kids; the
// nodes before it have none.
func checkNode(l api.List, nodes []api.Node, node int) api.Errno {
	n := nodes[node]
	if n.Kind < api.Glyph || n.Kind > api.Honour {
		return api.ErrNode
	}
	if n.Depth < 0 || n.Depth > deepest(nodes[:node]) {
		return api.ErrDepth
	}
	switch n.Kind {
	case api.Glyph:
		return checkGlyph(l, n)
	case api.Gap:
		return checkGap(n)
	}
	if n != (api.Node{Kind: n.Kind, Depth: n.Depth}) {
		return api.ErrNode
	}
	return api.OK
}

// deepest returns the greatest depth that a node behind others may have.
func deepest(before []api.Node) int {
	if len(before) == 0 {
		return 0
	}
	last := before[len(before)-1]
	if isLeaf(last) {
		return last.Depth
	}
	return min(last.Depth+1, api.MaxDepth)
}

func checkGlyph(l api.List, n api.Node) api.Errno {
	if n.Sign < 0 || n.Sign >= len(l.Signs) {
		return api.ErrSign
	}
	if n.Turn < 0 || n.Turn > maxTurn || n.State < api.Whole || n.State > api.Usurped {
		return api.ErrNode
	}
	if n.Mirror && l.Signs[n.Sign].Even {
		return api.ErrNode
	}
	if n.Min != 0 || n.Max != 0 {
		return api.ErrNode
	}
	return api.OK
}

func checkGap(n api.Node) api.Errno {
	if n.Min < 0 || n.Min > n.Max || n.Max > api.MaxGap || n.Max < 1 {
		return api.ErrGap
	}
	if n != (api.Node{Kind: api.Gap, Depth: n.Depth, Min: n.Min, Max: n.Max}) {
		return api.ErrNode
	}
	return api.OK
}

// kidsFit reports whether a node has as many kids as its kind asks for, and
// only such kids.
func kidsFit(nodes []api.Node, node int) bool {
	n := nodes[node]
	kids := kidsOf(nodes, node)
	least, most := kidsOfKind(n.Kind)
	if len(kids) < least || len(kids) > most {
		return false
	}
	for _, k := range kids {
		if !holds(n.Kind, nodes[k].Kind, len(kids)) {
			return false
		}
	}
	return true
}

// kidsOfKind returns how many kids a node of a kind has at least and at most.
func kidsOfKind(kind int) (least, most int) {
	switch kind {
	case api.Glyph, api.Gap:
		return 0, 0
	case api.Over:
		return 2, 2
	case api.Ring:
		return 1, api.MaxKids
	}
	return 2, api.MaxKids
}

// holds reports whether a node of a kind may have a kid of another kind as one
// of so many kids. That a ring has Depth 0 means that no node may have it as a
// kid, and what an honour asks of its depth is asked of the node around it.
func holds(kind, kid, kids int) bool {
	switch {
	case kid == api.Ring:
		return false
	case kid == api.Honour:
		return kind == api.Ring && kids == 1
	case kind == api.Over:
		return kid == api.Glyph
	case kind == api.Above:
		return kid != api.Above
	}
	return kid != api.Beside
}
