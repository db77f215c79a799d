package write

import (
	"slices"

	"glyphcutter/api"
	"glyphcutter/set"
)

// checker is the rows of nodes that were found sound, each with how many levels of nodes it has, one below the other.
// Definitions of definitions have one row below many nodes: it is looked at once, or there would be far more to look at than was given.
type checker struct {
	levels map[row]int
}

// row is which nodes a list is, be they what they may.
type row struct {
	first *api.Node
	n     int
}

// node is how many levels of nodes lie below a node that has some above it; false, if it is not sound there.
func (c checker) node(n api.Node, above int) (int, bool) {
	// The depth is asked first, so that nodes that lie below themselves come to an end.
	if above > api.MaxDeep || !shaped(n) {
		return 0, false
	}
	if len(n.Kids) == 0 {
		return 0, true
	}
	key := row{first: &n.Kids[0], n: len(n.Kids)}
	levels, ok := c.levels[key]
	if ok {
		return levels, above+levels <= api.MaxDeep
	}
	for _, kid := range n.Kids {
		below, ok := c.node(kid, above+1)
		if !ok {
			return 0, false
		}
		levels = max(levels, below+1)
	}
	c.levels[key] = levels
	return levels, true
}

// shaped says whether a node has just what its kind may have, be its kids what they may.
func shaped(n api.Node) bool {
	noSet, noKids, noTimes := len(n.Set) == 0, len(n.Kids) == 0, n.Min == 0 && n.Max == 0
	switch n.Kind {
	case api.Empty:
		return noSet && noKids && noTimes
	case api.Chars:
		return noKids && noTimes && slices.Equal(n.Set, set.Norm(n.Set))
	case api.Cat, api.Or:
		return len(n.Kids) >= 2 && noSet && noTimes
	case api.Rep:
		return len(n.Kids) == 1 && noSet && countable(n.Min, n.Max)
	}
	return false
}

// countable says whether a pattern may stand so many times as from least to most say.
func countable(least, most int) bool {
	if least < 0 || least > api.MaxTimes {
		return false
	}
	return most == -1 || least <= most && most <= api.MaxTimes
}
