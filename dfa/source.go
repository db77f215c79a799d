package dfa

import (
	"cmp"
	"slices"

	"glyphcutter/api"
	"glyphcutter/sim"
)

// move is an edge by a part.
type move struct {
	part int
	to   int
}

// source is a sound machine that goes many ways, as it is asked when one is made that goes one.
type source struct {
	bare  api.Nfa  // the machine, without its edges
	moves [][]move // its edges by parts, of each state
	ends  [][]int  // the states to which edges lead by each part, from where it was asked last
}

// newSource is a machine by some parts, of which each of its sets is made.
func newSource(n api.Nfa, parts [][]api.Span) source {
	bare := api.Nfa{Edges: make([][]api.Edge, len(n.Edges)), Free: n.Free, Tags: n.Tags}
	s := source{bare: bare, ends: make([][]int, len(parts))}
	all := runsOf(parts)
	for _, edges := range n.Edges {
		s.moves = append(s.moves, movesOf(edges, all))
	}
	return s
}

// movesOf are edges of one state by the parts whose runs are given, each once.
func movesOf(edges []api.Edge, all runs) []move {
	var out []move
	for _, e := range edges {
		for _, s := range e.Set {
			for _, x := range all.meeting(s) {
				out = append(out, move{part: x.part, to: e.To})
			}
		}
	}
	slices.SortFunc(out, func(x, y move) int { return cmp.Or(cmp.Compare(x.part, y.part), cmp.Compare(x.to, y.to)) })
	return slices.Compact(out)
}

// start is where the machine is by nothing.
func (s *source) start() []int { return sim.Start(s.bare) }

// tag is the least tag of some states (-1: none).
func (s *source) tag(at []int) int {
	tags := sim.Tags(s.bare, at)
	if len(tags) == 0 {
		return -1
	}
	return tags[0]
}

// leads are the states to which edges lead from some, by each part. They hold till it is asked again.
func (s *source) leads(at []int) [][]int {
	for part, to := range s.ends {
		s.ends[part] = to[:0]
	}
	for _, from := range at {
		for _, m := range s.moves[from] {
			s.ends[m.part] = append(s.ends[m.part], m.to)
		}
	}
	return s.ends
}

// behind are some states, and all that free ways lead to from them.
// sim steps there in the machine without its own edges: with each step it looks at all of a machine, and its sets may be long.
func (s *source) behind(to []int) []int {
	step := []api.Span{{}}
	edges := make([]api.Edge, len(to))
	for i, state := range to {
		edges[i] = api.Edge{To: state, Set: step}
	}
	s.bare.Edges[0] = edges
	return sim.Step(s.bare, []int{0}, step[0].Lo)
}
