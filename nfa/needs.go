package nfa

import "glyphcutter/api"

// need is how many states the nodes of a row are laid in, and the places of those that are laid in any.
// No more are counted than one above what may be.
type need struct {
	states int
	places []int
}

// needs is what was found of rows of sound nodes.
// Definitions of definitions have one row below many nodes: it is counted once, or there would be far more to count than was given.
type needs map[row]need

// row is which nodes a list is, be they what they may.
type row struct {
	first *api.Node
	n     int
}

// of is what the nodes of a list, of which there is one at least, need.
func (f needs) of(l []api.Node) need {
	key := row{first: &l[0], n: len(l)}
	if found, ok := f[key]; ok {
		return found
	}
	var out need
	for i, n := range l {
		states := f.laid(n)
		if states > 0 {
			out.places = append(out.places, i)
		}
		out.states = min(out.states+states, api.MaxStates+1)
	}
	f[key] = out
	return out
}

// laid is how many states a node is laid in, behind one that is there.
func (f needs) laid(n api.Node) int {
	switch n.Kind {
	case api.Chars:
		return 1
	case api.Cat:
		return f.of(n.Kids).states
	case api.Or:
		return f.forked(n.Kids) + 1
	case api.Rep:
		times := n.Max
		if times == -1 {
			times = n.Min + 1
		}
		return times*f.forked(n.Kids) + 1
	}
	return 0
}

// forked is how many states nodes are forked in, each by itself.
func (f needs) forked(l []api.Node) int {
	return len(l) + f.of(l).states
}
