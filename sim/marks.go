package sim

import (
	"slices"

	"glyphcutter/api"
	"glyphcutter/set"
)

// marks is a row of them, one for each state of a sound machine: which states are gathered.
type marks []bool

// unmarked is the row of a machine of which no state is gathered.
func unmarked(n api.Nfa) marks { return make(marks, len(n.Tags)) }

// marked is the row of a machine's states of a list; what else it tells is passed over.
func marked(n api.Nfa, at []int) marks {
	m := unmarked(n)
	for _, state := range at {
		if 0 <= state && state < len(m) {
			m[state] = true
		}
	}
	return m
}

// states are those that are gathered, rising.
func (m marks) states() []int {
	var out []int
	for state, in := range m {
		if in {
			out = append(out, state)
		}
	}
	return out
}

// follow gathers all that free ways lead to from what is gathered.
func (m marks) follow(free [][]int) {
	left := m.states()
	for len(left) > 0 {
		last := len(left) - 1
		from := left[last]
		left = left[:last]
		for _, to := range free[from] {
			if !m[to] {
				m[to] = true
				left = append(left, to)
			}
		}
	}
}

// start is where a sound machine is by nothing.
func start(n api.Nfa) []int {
	m := marked(n, []int{0})
	m.follow(n.Free)
	return m.states()
}

// step is where a sound machine that is at some states is by a scalar more.
func step(n api.Nfa, at []int, r int) []int {
	m := unmarked(n)
	// By a row of marks here, too: a list may tell one state very often.
	for _, from := range marked(n, at).states() {
		for _, e := range n.Edges[from] {
			if !m[e.To] && set.Has(e.Set, r) {
				m[e.To] = true
			}
		}
	}
	m.follow(n.Free)
	return m.states()
}

// tags are those of some states of a sound machine, each once, rising.
func tags(n api.Nfa, at []int) []int {
	var out []int
	for _, state := range marked(n, at).states() {
		if tag := n.Tags[state]; tag >= 0 {
			out = append(out, tag)
		}
	}
	slices.Sort(out)
	return slices.Compact(out)
}
