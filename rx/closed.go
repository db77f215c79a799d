package rx

import (
	"slices"

	"glyphcutter/api"
	"glyphcutter/fold"
)

// clipped is a definition's node as it is, but that what lies behind its own lists is not handed out.
func clipped(n api.Node) api.Node {
	n.Set, n.Kids = slices.Clip(n.Set), slices.Clip(n.Kids)
	return n
}

// closed is a copy of a definition's node, with all Sets closed.
func closed(n api.Node) api.Node {
	c := copier{copies: map[row][]api.Node{}}
	n = c.node(n)
	// Not by recursion: a definition may be handed in as deep as memory goes.
	for len(c.left) > 0 {
		last := len(c.left) - 1
		j := c.left[last]
		c.left = c.left[:last]
		for i, kid := range j.from {
			j.to[i] = c.node(kid)
		}
	}
	return n
}

// copier is the rows of nodes that are met, each with its copy, and the copies that are yet to be filled.
// Definitions of definitions have one row below many nodes: it is copied once, or the copy would be far greater than they are.
type copier struct {
	copies map[row][]api.Node
	left   []job
}

// row is which nodes a list is, be they what they may.
type row struct {
	first *api.Node
	n     int
}

// job is a row, and the copy of it that is yet to be filled.
type job struct {
	from []api.Node
	to   []api.Node
}

// node is a copy with its Set closed; its Kids may be yet to be filled.
func (c *copier) node(n api.Node) api.Node {
	n.Set, n.Kids = fold.Close(n.Set), c.kids(n.Kids)
	return n
}

// kids is the copy of a row, be it filled or not.
func (c *copier) kids(l []api.Node) []api.Node {
	if len(l) == 0 {
		return nil
	}
	key := row{first: &l[0], n: len(l)}
	to, ok := c.copies[key]
	if !ok {
		to = make([]api.Node, len(l))
		c.copies[key] = to
		c.left = append(c.left, job{from: l, to: to})
	}
	return to
}
