package dfa

import (
	"slices"

	"glyphcutter/api"
	"glyphcutter/terms"
)

// builder lays the states of a machine that is at one place at a time.
type builder struct {
	api.Dfa
	source
	row   [][]int        // the states of the source that each state is; behind the one that is laid stands what is yet to be gone through
	known map[string]int // the states, by texts of what they are, and of what edges lead to
}

// newBuilder is a builder of a sound machine, of which no state is laid.
func newBuilder(n api.Nfa) *builder {
	var sets [][]api.Span
	for _, edges := range n.Edges {
		for _, e := range edges {
			sets = append(sets, e.Set)
		}
	}
	parts := terms.Of(sets)
	return &builder{
		Dfa:    api.Dfa{Parts: parts},
		source: newSource(n, parts),
		known:  map[string]int{},
	}
}

// lay lays all states; false, if there are more than most.
func (b *builder) lay(most int) bool {
	b.state(b.start())
laying:
	for i := 0; i < len(b.row); i++ {
		next := slices.Repeat([]int{-1}, len(b.Parts))
		for part, to := range b.leads(b.row[i]) {
			if len(to) == 0 {
				continue
			}
			next[part] = b.led(to)
			if len(b.row) > most {
				break laying
			}
		}
		b.Next = append(b.Next, next)
	}
	return len(b.row) <= most
}

// led is the state that is come to by edges to some states of the source.
func (b *builder) led(to []int) int {
	// Most of these were come to before: then there is no need to go the free ways again.
	text := textOf(to)
	state, again := b.known[text]
	if !again {
		state = b.state(b.behind(to))
		b.known[text] = state
	}
	return state
}

// state is the state that some states of the source are, a new one, if they were not come to before.
func (b *builder) state(at []int) int {
	text := textOf(at)
	state, again := b.known[text]
	if !again {
		state = len(b.row)
		tag := b.tag(at)
		b.known[text] = state
		b.row = append(b.row, at)
		b.Tags = append(b.Tags, tag)
	}
	return state
}

// textOf is states as a text, two bytes for each: there are no more than api.MaxStates.
func textOf(at []int) string {
	text := make([]byte, 0, 2*len(at))
	for _, state := range at {
		text = append(text, byte(state>>8), byte(state))
	}
	return string(text)
}
