package groups

import (
	"iter"
	"slices"

	"ostracon/api"
)

func isLeaf(n api.Node) bool {
	return n.Kind == api.Glyph || n.Kind == api.Gap
}

// below goes through the numbers of the nodes below a node, in order.
func below(nodes []api.Node, node int) iter.Seq[int] {
	return func(yield func(int) bool) {
		for i := node + 1; i < len(nodes) && nodes[i].Depth > nodes[node].Depth; i++ {
			if !yield(i) {
				return
			}
		}
	}
}

func kidsOf(nodes []api.Node, node int) []int {
	var kids []int
	for i := range below(nodes, node) {
		if nodes[i].Depth == nodes[node].Depth+1 {
			kids = append(kids, i)
		}
	}
	return kids
}

// part returns a node and everything below it. Its capacity is cut, so that
// what is put behind it does not get into the nodes.
func part(nodes []api.Node, node int) []api.Node {
	end := node + 1
	for i := range below(nodes, node) {
		end = i + 1
	}
	return nodes[node:end:end]
}

// split takes nodes apart into their groups.
func split(nodes []api.Node) [][]api.Node {
	var parts [][]api.Node
	for len(nodes) > 0 {
		group := part(nodes, 0)
		parts = append(parts, group)
		nodes = nodes[len(group):]
	}
	return parts
}

// leaves returns the leaves of a group in the order in which they are read.
func leaves(group []api.Node) []api.Node {
	var found []api.Node
	var visit func(node int)
	visit = func(node int) {
		if isLeaf(group[node]) {
			found = append(found, group[node])
			return
		}
		kids := kidsOf(group, node)
		if group[node].Kind == api.Honour {
			kids = slices.Concat(kids[1:], kids[:1])
		}
		for _, k := range kids {
			visit(k)
		}
	}
	visit(0)
	return found
}
