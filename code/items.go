package code

import "ostracon/api"

// item is a node that has its kids in it, so that its Depth follows from where
// it stands.
type item struct {
	node api.Node
	kids []item
}

func branch(kind int, kids []item) item {
	return item{api.Node{Kind: kind}, kids}
}

// join returns a branch of items, or the item itself if there is but one.
func join(kind int, items []item) item {
	if len(items) == 1 {
		return items[0]
	}
	return branch(kind, items)
}

// grow returns the items of nodes of which the first one is the least deep.
func grow(nodes []api.Node) []item {
	var items []item
	for len(nodes) > 0 {
		end := 1
		for end < len(nodes) && nodes[end].Depth > nodes[0].Depth {
			end++
		}
		items = append(items, item{nodes[0], grow(nodes[1:end])})
		nodes = nodes[end:]
	}
	return items
}

// list puts the nodes of items behind others, in preorder.
func list(nodes []api.Node, items []item, depth int) []api.Node {
	for _, x := range items {
		n := x.node
		n.Depth = depth
		nodes = list(append(nodes, n), x.kids, depth+1)
	}
	return nodes
}
