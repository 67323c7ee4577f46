package grid

import (
	"slices"

	"ostracon/api"
)

// reader finds the one text that can have some boxes. What it makes of boxes
// that no text has does not matter: Read lays the text out again and compares.
type reader struct {
	builder
}

// leavesOf returns a text that has the leaves among boxes as its groups.
func leavesOf(boxes []api.Box) api.Text {
	var t api.Text
	_, leaves := split(boxes)
	for _, b := range leaves {
		t.Nodes = append(t.Nodes, nodeOf(b, 0))
	}
	return t
}

// text returns the text of placed boxes whose leaves are valid.
func (r reader) text(boxes []api.Box) api.Text {
	boxes = slices.Clone(boxes)
	if r.way.mirrored {
		for i, b := range boxes {
			boxes[i] = mirrored(b)
		}
	}
	var t api.Text
	for _, line := range cut(boxes, r.way.across, isBetweenGroups) {
		for _, group := range cut(line, r.way.along, isBetweenGroups) {
			t.Nodes = append(t.Nodes, r.group(group)...)
		}
	}
	return t
}

// isBetweenGroups reports whether two groups, or two lines, stand so far from
// each other. The kids of a group do not: their space is at most 20.
func isBetweenGroups(space api.Frac) bool {
	return compare(space, whole(betweenGroups)) >= 0
}

// cut takes boxes apart wherever there is such a space between them along an axis.
func cut(boxes []api.Box, a axis, isSuch func(space api.Frac) bool) [][]api.Box {
	sorted := slices.Clone(boxes)
	slices.SortStableFunc(sorted, a.order)
	var parts [][]api.Box
	var end api.Frac
	for i, b := range sorted {
		if i == 0 || isSuch(minus(a.start(b), end)) {
			parts = append(parts, nil)
			end = a.end(b)
		}
		last := len(parts) - 1
		parts[last] = append(parts[last], b)
		if compare(a.end(b), end) > 0 {
			end = a.end(b)
		}
	}
	return parts
}

// group returns the nodes of a group.
func (r reader) group(boxes []api.Box) []api.Node {
	rings, leaves := split(boxes)
	if len(leaves) == 0 {
		return nil
	}
	scale := r.scaleOf(leaves)
	var nodes []api.Node
	var read func(boxes []api.Box, depth int)
	read = func(boxes []api.Box, depth int) {
		if len(boxes) == 1 {
			nodes = append(nodes, nodeOf(boxes[0], depth))
			return
		}
		kind, kids := kidsOf(boxes, times(scale, spaceOf(depth)))
		nodes = append(nodes, api.Node{Kind: kind, Depth: depth})
		for _, k := range kids {
			read(k, depth+1)
		}
	}
	if len(rings) == 0 {
		read(leaves, 0)
		return nodes
	}
	nodes = append(nodes, nodeOf(rings[0], 0))
	for _, k := range cut(leaves, r.way.along, is(times(scale, ringSpace))) {
		read(k, 1)
	}
	return nodes
}

// split returns the rings and the leaves among boxes.
func split(boxes []api.Box) (rings, leaves []api.Box) {
	for _, b := range boxes {
		if b.Kind == api.Ring {
			rings = append(rings, b)
		} else {
			leaves = append(leaves, b)
		}
	}
	return rings, leaves
}

// scaleOf returns the scale of a group by its first leaf. That is never the
// second kid of an over, which stands behind the edge of the first one.
func (r reader) scaleOf(leaves []api.Box) api.Frac {
	first := slices.MinFunc(leaves, sideways().order)
	wide, _ := r.shape(nodeOf(first, 0), nil).size()
	return quotient(first.W, wide)
}

// kidsOf returns the kind of a node that has several boxes, and the boxes of
// each of its kids. The space between the kids tells the kind, because any
// space between boxes below them is less.
func kidsOf(boxes []api.Box, space api.Frac) (kind int, kids [][]api.Box) {
	if kids = cut(boxes, sideways(), is(space)); len(kids) > 1 {
		return api.Beside, kids
	}
	if kids = cut(boxes, downwards(), is(space)); len(kids) > 1 {
		return api.Above, kids
	}
	return api.Over, cut(boxes, sideways(), func(api.Frac) bool { return true })
}

// is returns what reports whether a space is just this one.
func is(wanted api.Frac) func(space api.Frac) bool {
	return func(space api.Frac) bool { return space == wanted }
}
