package groups

import (
	"slices"

	"ostracon/api"
)

// Plain returns a text as it stands on the wall.
func Plain(l api.List, t api.Text) (api.Text, api.Errno) {
	return regroup(l, t, plain)
}

// Flat returns a text with all its leaves one after the other.
func Flat(l api.List, t api.Text) (api.Text, api.Errno) {
	return regroup(l, t, flat)
}

// regroup returns a text that has, for each group of t, what change makes of it.
func regroup(l api.List, t api.Text, change func(group []api.Node) []api.Node) (api.Text, api.Errno) {
	if e := Check(l, t); e != api.OK {
		return api.Text{}, e
	}
	var nodes []api.Node
	for _, group := range split(t.Nodes) {
		nodes = append(nodes, change(group)...)
	}
	return api.Text{Nodes: nodes}, api.OK
}

// plain returns a group without its honour. Within a ring an honour has no
// other kids beside it, so that everything behind it is below it.
func plain(group []api.Node) []api.Node {
	switch {
	case group[0].Kind == api.Honour:
		beside := slices.Clone(group)
		beside[0].Kind = api.Beside
		return beside
	case group[0].Kind == api.Ring && group[1].Kind == api.Honour:
		return slices.Concat(group[:1], raise(group[2:], 1))
	}
	return group
}

// flat returns the leaves of a group as groups, or as kids of a ring that can
// have so many.
func flat(group []api.Node) []api.Node {
	found := leaves(group)
	if group[0].Kind == api.Ring && len(found) <= api.MaxKids {
		return slices.Concat(group[:1], atDepth(found, 1))
	}
	return atDepth(found, 0)
}

func atDepth(leaves []api.Node, depth int) []api.Node {
	moved := slices.Clone(leaves)
	for i := range moved {
		moved[i].Depth = depth
	}
	return moved
}

// raise returns nodes with their Depth less by a number.
func raise(nodes []api.Node, by int) []api.Node {
	raised := slices.Clone(nodes)
	for i := range raised {
		raised[i].Depth -= by
	}
	return raised
}

// Sub returns a node as a text of its own.
func Sub(l api.List, t api.Text, node int) (api.Text, api.Errno) {
	if e := checkPlace(l, t, node); e != api.OK {
		return api.Text{}, e
	}
	return api.Text{Nodes: raise(part(t.Nodes, node), t.Nodes[node].Depth)}, api.OK
}

// Splice replaces groups of a text.
func Splice(l api.List, t api.Text, from, to int, with api.Text) (api.Text, api.Errno) {
	if e := Check(l, t); e != api.OK {
		return api.Text{}, e
	}
	if e := Check(l, with); e != api.OK {
		return api.Text{}, e
	}
	parts := split(t.Nodes)
	if from < 0 || from > to || to > len(parts) {
		return api.Text{}, api.ErrArg
	}
	spliced := slices.Concat(parts[:from], split(with.Nodes), parts[to:])
	nodes := slices.Concat(spliced...)
	if len(nodes) > api.MaxNodes {
		return api.Text{}, api.ErrMany
	}
	return api.Text{Nodes: nodes}, api.OK
}

// Mirror returns a text as it is in a mirror.
func Mirror(l api.List, t api.Text) (api.Text, api.Errno) {
	if e := Check(l, t); e != api.OK {
		return api.Text{}, e
	}
	nodes := slices.Clone(t.Nodes)
	for i, n := range nodes {
		if n.Kind == api.Glyph && !l.Signs[n.Sign].Even {
			nodes[i].Mirror = !n.Mirror
		}
	}
	return api.Text{Nodes: nodes}, api.OK
}
